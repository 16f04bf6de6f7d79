/- Layer 2: Seal and Open, the program's, at all arguments: one answer, in plain words. -/
import Derived.Test.YtnmlplfcdnakhaaGreatCrcS
import Derived.Test.YtnmlplfcdnakhaaGreatBase3
import Derived.Test.YtnmlplfcdnakhaaGreatCopy
import Derived.StillTailTactics
namespace Go.Proofs.YtnmlplfcdnakhaaGreat
open Go.RowKit
set_option linter.unusedVariables false

theorem seal_many (A : Option Addr) (n c : Nat) (w : World) (hn : 4096 < n) :
    Calls Tryz.prog 22 #[.slice A n c] w fun e w' => e = .returned (.tuple #[.slice none 0 0, .int .i64 4]) ∧ w = w' := by
  go_enter Tryz.func22, Tryz.ntmps22
  go_wp2
  go_ret2
  exact ⟨rfl, rfl⟩

/-- The row behind the copy. -/
theorem splice_new (b : List Int) (z : Int) (n m : Nat) (hb : b.length = n) : splice (ints .u8 (List.replicate (n + m) z)) 0 (ints .u8 b) = ints .u8 (b ++ List.replicate m z) := by
  subst hb
  simp [splice, ints, List.drop_replicate, Nat.add_sub_cancel_left]

set_option maxRecDepth 100000 in
set_option maxHeartbeats 800000 in
theorem seal_ok (A : Option Addr) (n c : Nat) (b : List Int) (w : World) (h : Arg w .u8 A n c b) (hn : n ≤ 4096) (hb : ∀ z ∈ b, isByte z) :
    Calls Tryz.prog 22 #[.slice A n c] w (RowOut .u8 5 w (sealed b) 0) := by
  obtain ⟨i0, hi0, hz0, hz1, hz2⟩ := info_parts byte_info
  have hmk := run_make1 (P := Tryz.prog) 28 5 i0 _ Tryz.underlying28 hi0 hz0 hz1 rfl (n + 4) (by rw [hz2]; omega) (by simp only [maxLen]; omega) w
  rw [show ((n + 4 : Nat) : Int) = (n : Int) + 4 from by omega] at hmk
  have hrep : rep (n + 4) (.int .u8 0) = (ints .u8 (List.replicate (n + 4) 0)).toArray := by simp [rep, ints]
  rw [hrep] at hmk
  have hblk := Blk.new w 5 (ints .u8 (List.replicate (n + 4) 0))
  have hbel : Below w.heap.size w (w.alloc (.cells (ints .u8 (List.replicate (n + 4) 0)).toArray 5)) := (Below.refl _ _).alloc (Nat.le_refl _) _
  have hseq := h.seq.alloc (Nat.le_refl _) (.cells (ints .u8 (List.replicate (n + 4) 0)).toArray 5)
  have hlen : (ints .u8 b).length = Nat.min n (n + 4) := by rw [ints_length, h.len]; exact (Nat.min_eq_left (by omega)).symm
  have hfit : 0 + (ints .u8 b).length ≤ (ints .u8 (List.replicate (n + 4) 0)).length := by simp [ints_length, h.len]
  have HB := Lib.hid hblk
  have HBEL := Lib.hid hbel
  have HSEQ := Lib.hid hseq
  have HLEN := Lib.hid hlen
  have HFIT := Lib.hid hfit
  have H := Lib.hid h
  have HBY := Lib.hid hb
  clear hi0 hz0 hz1 hz2 hrep hblk hbel hseq hlen hfit h hb
  go_enter Tryz.func22, Tryz.ntmps22
  go_wp2_with (with_reducible refine wpList_copy_seq (o := ⟨some 14, _, _, _, _, _⟩) rfl (.tmp 12) (.tmp 13) _ _ rfl 5 Tryz.underlying28 byte_size A w.heap.size 0 (n + 4) (n + 4) n c rfl rfl (ints .u8 (List.replicate (n + 4) 0)) 5 HB.out (ints .u8 b) HLEN.out _ HSEQ.out HFIT.out (ints_one _ _) w.heap.size w HBEL.out (Nat.le_refl _) ?_; intro w2 HG2 hB2)
  have hb2 := HG2.out
  rw [splice_new b 0 n 4 H.out.len] at hb2
  have hsum := fun wx (hx : Seq wx w.heap.size A (ints .u8 b)) => (sum_any A n c b wx _ hx H.out.len (by have := H.out.cap; have := H.out.max; omega) HBY.out).mono fun e w'' (h : e = .returned (.int .u32 (sum b : Nat)) ∧ wx = w'') => (⟨h.1, h.2.symm⟩ : e = .returned (.int .u32 (sum b : Nat)) ∧ w'' = wx)
  have hs2 : Seq w2.drew w.heap.size A (ints .u8 b) := (H.out.seq.below hB2).keep fun _ _ => rfl
  have T := Lib.hid (hsum _ hs2)
  have hput := putSum_any w.heap.size n 4 4 b (List.replicate 4 0) (sum b) w2.drew hb2 H.out.len rfl (sum_w HBY.out)
  obtain ⟨v, hv⟩ : ∃ v, v = sum b := ⟨_, rfl⟩
  rw [← hv] at hput T
  have PUT := Lib.hid hput
  have HV := Lib.hid hv
  have HB2 := Lib.hid hB2
  clear hb2 hsum hs2 hput hv hB2 HG2
  go_wp2
  have hle : (n : Int) ≤ (n : Int) + 4 := by omega
  refine wp_region_still_tail 6 (by kernel_rfl) (by kernel_rfl) ?_
  simp only [List.take_succ_cons, List.take_zero, List.drop_succ_cons, List.drop_zero]
  repeat still_step
  still_call T.out
  repeat still_step
  try refine wpStill_nil ?_
  change wpList _ _ _ _ _ w2.drew
  go_wp2_with fail
  refine PUT.out.mono ?_
  rintro e w3 ⟨rfl, hb3, hg3⟩
  have HB3 := Lib.hid hb3
  have HG3 := Lib.hid hg3
  clear hb3 hg3
  go_wp2
  go_ret2
  have hl : (sealed b).length = n + 4 := by rw [sealed_length, H.out.len]
  have hfin : Below w.heap.size w w3 := Below.grown (show Below w.heap.size w w2.drew from below_drewN HB2.out 1) HG3.out HB2.out.size (fun g e => by injection e with e; omega)
  refine ⟨some ⟨w.heap.size, 0, none⟩, n + 4, by rw [hl]; rfl, ?_, hfin⟩
  rw [hl]
  have hb4 := HB3.out
  rw [HV.out] at hb4
  exact hb4.owns (Nat.le_refl _) (by rw [ints_length]; exact hl) (by simp only [maxLen]; omega)

theorem seal_gen (A : Option Addr) (n c : Nat) (b : List Int) (w : World) (h : Arg w .u8 A n c b) (hb : ∀ z ∈ b, isByte z) :
    Calls Tryz.prog 22 #[.slice A n c] w (RowOut .u8 5 w (seB b) (seE b)) := by
  unfold seB seE
  rw [h.len]
  by_cases hn : 4096 < n
  · rw [if_pos hn, if_pos hn]
    refine (seal_many A n c w hn).mono ?_
    rintro e w' ⟨rfl, rfl⟩
    exact RowOut.nil _ _ _ _
  · rw [if_neg hn, if_neg hn]
    exact seal_ok A n c b w h (by omega) hb

theorem splice_all (b : List Int) (z : Int) (n : Nat) (hb : b.length = n) : splice (ints .u8 (List.replicate n z)) 0 (ints .u8 b) = ints .u8 b := by
  subst hb
  simp [splice, ints]

end Go.Proofs.YtnmlplfcdnakhaaGreat
