/- Layer 2: Seal and Open, the program's, at all arguments: one answer, in plain words. -/
import Derived.Test.YtdgfofemogmmkaaCrcS
import Derived.Test.YtdgfofemogmmkaaBase3
import Derived.Test.YtdgfofemogmmkaaCopy
import Derived.StillTailTactics
namespace Go.Proofs.Ytdgfofemogmmkaa
open Go.RowKit
set_option linter.unusedVariables false

theorem seal_many (A : Option Addr) (n c : Nat) (w : World) (hn : 4096 < n) :
    Calls Try.prog 10 #[.slice A n c] w fun e w' => e = .returned (.tuple #[.slice none 0 0, .int .i64 4]) ∧ w = w' := by
  go_enter Try.func10, Try.ntmps10
  go_wp2
  go_ret2
  exact ⟨rfl, rfl⟩

/-- The row behind the copy. -/
theorem splice_new (b : List Int) (z : Int) (n m : Nat) (hb : b.length = n) : splice (ints .u8 (List.replicate (n + m) z)) 0 (ints .u8 b) = ints .u8 (b ++ List.replicate m z) := by
  subst hb
  simp [splice, ints, List.drop_replicate, Nat.add_sub_cancel_left]

set_option maxRecDepth 100000 in
set_option maxHeartbeats 800000 in
theorem seal_ok (A : Option Addr) (n c : Nat) (b : List Int) (w : World) (h : Arg w .u8 A n c b) (hn : n ≤ 4096) (hb : ∀ z ∈ b, isByte z) :
    Calls Try.prog 10 #[.slice A n c] w (RowOut .u8 5 w (sealed b) 0) := by
  obtain ⟨i0, hi0, hz0, hz1, hz2⟩ := info_parts byte_info
  have hmk := run_make1 (P := Try.prog) 23 5 i0 _ Try.underlying23 hi0 hz0 hz1 rfl (n + 4) (by rw [hz2]; omega) (by simp only [maxLen]; omega) w
  rw [show ((n + 4 : Nat) : Int) = (n : Int) + 4 from by omega] at hmk
  have hrep : rep (n + 4) (.int .u8 0) = (ints .u8 (List.replicate (n + 4) 0)).toArray := by simp [rep, ints]
  rw [hrep] at hmk
  have hblk := Blk.new w 5 (ints .u8 (List.replicate (n + 4) 0))
  have hbel : Below w.heap.size w (w.alloc (.cells (ints .u8 (List.replicate (n + 4) 0)).toArray 5)) := (Below.refl _ _).alloc (Nat.le_refl _) _
  have hseq := h.seq.alloc (Nat.le_refl _) (.cells (ints .u8 (List.replicate (n + 4) 0)).toArray 5)
  have hlen : (ints .u8 b).length = Nat.min n (n + 4) := by rw [ints_length, h.len]; exact (Nat.min_eq_left (by omega)).symm
  have hfit : 0 + (ints .u8 b).length ≤ (ints .u8 (List.replicate (n + 4) 0)).length := by simp [ints_length, h.len]
  have HB := Lib.hid hblk
  have HBEL := Lib.hid hbel
  have HSEQ := Lib.hid hseq
  have HLEN := Lib.hid hlen
  have HFIT := Lib.hid hfit
  have H := Lib.hid h
  have HBY := Lib.hid hb
  clear hi0 hz0 hz1 hz2 hrep hblk hbel hseq hlen hfit h hb
  go_enter Try.func10, Try.ntmps10
  go_wp2_with (with_reducible refine wpList_copy_seq (o := ⟨some 14, _, _, _, _, _⟩) rfl (.tmp 12) (.tmp 13) _ _ rfl 5 Try.underlying23 byte_size A w.heap.size 0 (n + 4) (n + 4) n c rfl rfl (ints .u8 (List.replicate (n + 4) 0)) 5 HB.out (ints .u8 b) HLEN.out _ HSEQ.out HFIT.out (ints_one _ _) w.heap.size w HBEL.out (Nat.le_refl _) ?_; intro w2 HG2 hB2)
  have hb2 := HG2.out
  rw [splice_new b 0 n 4 H.out.len] at hb2
  have hsum := fun wx (hx : Seq wx w.heap.size A (ints .u8 b)) => (sum_any A n c b wx _ hx H.out.len (by have := H.out.cap; have := H.out.max; omega) HBY.out).mono fun e w'' (h : e = .returned (.int .u32 (sum b : Nat)) ∧ wx = w'') => (⟨h.1, h.2.symm⟩ : e = .returned (.int .u32 (sum b : Nat)) ∧ w'' = wx)
  have hs2 : Seq w2.drew w.heap.size A (ints .u8 b) := (H.out.seq.below hB2).keep fun _ _ => rfl
  have T := Lib.hid (hsum _ hs2)
  have hput := putSum_any w.heap.size n 4 4 b (List.replicate 4 0) (sum b) w2.drew hb2 H.out.len rfl (sum_w HBY.out)
  obtain ⟨v, hv⟩ : ∃ v, v = sum b := ⟨_, rfl⟩
  rw [← hv] at hput T
  have PUT := Lib.hid hput
  have HV := Lib.hid hv
  have HB2 := Lib.hid hB2
  clear hb2 hsum hs2 hput hv hB2 HG2
  go_wp2
  have hle : (n : Int) ≤ (n : Int) + 4 := by omega
  refine wp_region_still_tail 6 (by kernel_rfl) (by kernel_rfl) ?_
  simp only [List.take_succ_cons, List.take_zero, List.drop_succ_cons, List.drop_zero]
  repeat still_step
  still_call T.out
  repeat still_step
  try refine wpStill_nil ?_
  change wpList _ _ _ _ _ w2.drew
  go_wp2_with fail
  refine PUT.out.mono ?_
  rintro e w3 ⟨rfl, hb3, hg3⟩
  have HB3 := Lib.hid hb3
  have HG3 := Lib.hid hg3
  clear hb3 hg3
  go_wp2
  go_ret2
  have hl : (sealed b).length = n + 4 := by rw [sealed_length, H.out.len]
  have hfin : Below w.heap.size w w3 := Below.grown (show Below w.heap.size w w2.drew from below_drewN HB2.out 1) HG3.out HB2.out.size (fun g e => by injection e with e; omega)
  refine ⟨some ⟨w.heap.size, 0, none⟩, n + 4, by rw [hl]; rfl, ?_, hfin⟩
  rw [hl]
  have hb4 := HB3.out
  rw [HV.out] at hb4
  exact hb4.owns (Nat.le_refl _) (by rw [ints_length]; exact hl) (by simp only [maxLen]; omega)

theorem seal_gen (A : Option Addr) (n c : Nat) (b : List Int) (w : World) (h : Arg w .u8 A n c b) (hb : ∀ z ∈ b, isByte z) :
    Calls Try.prog 10 #[.slice A n c] w (RowOut .u8 5 w (seB b) (seE b)) := by
  unfold seB seE
  rw [h.len]
  by_cases hn : 4096 < n
  · rw [if_pos hn, if_pos hn]
    refine (seal_many A n c w hn).mono ?_
    rintro e w' ⟨rfl, rfl⟩
    exact RowOut.nil _ _ _ _
  · rw [if_neg hn, if_neg hn]
    exact seal_ok A n c b w h (by omega) hb

theorem open_short (A : Option Addr) (n c : Nat) (w : World) (hn : n < 4) :
    Calls Try.prog 21 #[.slice A n c] w fun e w' => e = .returned (.tuple #[.slice none 0 0, .int .i64 10]) ∧ w = w' := by
  go_enter Try.func21, Try.ntmps21
  go_wp2
  go_ret2
  exact ⟨rfl, rfl⟩
theorem open_many (A : Option Addr) (n c : Nat) (w : World) (hn : 4100 < n) :
    Calls Try.prog 21 #[.slice A n c] w fun e w' => e = .returned (.tuple #[.slice none 0 0, .int .i64 4]) ∧ w = w' := by
  go_enter Try.func21, Try.ntmps21
  go_wp2
  go_ret2
  exact ⟨rfl, rfl⟩

theorem splice_all (b : List Int) (z : Int) (n : Nat) (hb : b.length = n) : splice (ints .u8 (List.replicate n z)) 0 (ints .u8 b) = ints .u8 b := by
  subst hb
  simp [splice, ints]

/-- The two calls of Open: the sum that stands behind the text, and the text's. -/
theorem open_calls (b o m c : Nat) (t : List Int) (w : World) (h : Seq w w.heap.size (some ⟨b, o, none⟩) (ints .u8 t)) (hl : t.length = m + 4) (hc : c ≤ maxLen) (hmc : m + 4 ≤ c) (hb : ∀ z ∈ t, isByte z) :
    (∀ q, Calls Try.prog 33 #[.slice (some ⟨b, o + m, none⟩) 4 (c - m)] (w.drewN q) fun e w' => e = .returned (.int .u32 (leTo (t.drop m) 4 : Nat)) ∧ w' = w.drewN q) ∧
    (∀ q, Calls Try.prog 24 #[.slice (some ⟨b, o, none⟩) m c] (w.drewN q) fun e w' => e = .returned (.int .u32 (sum (t.take m) : Nat)) ∧ w' = w.drewN q) := by
  refine ⟨fun q => ?_, fun q => ?_⟩
  · have h1 : Seq (w.drewN q) w.heap.size (some ⟨b, o + m, none⟩) (ints .u8 (t.drop m)) := by
      have := (h.drop m).keep (w' := w.drewN q) fun _ _ => rfl
      rwa [show (ints .u8 t).drop m = ints .u8 (t.drop m) from by simp [ints]] at this
    exact (getSum_any _ (c - m) (t.drop m) _ _ h1 (by rw [List.length_drop]; omega) (drop_byte hb m)).mono fun e w' h => ⟨h.1, h.2.symm⟩
  · have h1 : Seq (w.drewN q) w.heap.size (some ⟨b, o, none⟩) (ints .u8 (t.take m)) := by
      have := (h.take m).keep (w' := w.drewN q) fun _ _ => rfl
      rwa [show (ints .u8 t).take m = ints .u8 (t.take m) from by simp [ints]] at this
    exact (sum_any _ m c (t.take m) _ _ h1 (by rw [List.length_take]; omega) (by omega) (take_byte hb m)).mono fun e w' h => ⟨h.1, h.2.symm⟩

set_option maxRecDepth 100000 in
set_option maxRecDepth 100000 in
set_option maxHeartbeats 800000 in
theorem open_sum (b o m c : Nat) (t : List Int) (w : World) (h : Seq w w.heap.size (some ⟨b, o, none⟩) (ints .u8 t)) (hl : t.length = m + 4) (hc : c ≤ maxLen) (hmc : m + 4 ≤ c) (hb : ∀ z ∈ t, isByte z) (hm : m ≤ 4096)
    (hne : leTo (t.drop m) 4 ≠ sum (t.take m)) :
    Calls Try.prog 21 #[.slice (some ⟨b, o, none⟩) (m + 4) c] w (RowOut .u8 5 w [] 20) := by
  obtain ⟨hg, hs⟩ := open_calls b o m c t w h hl hc hmc hb
  obtain ⟨x, hx⟩ : ∃ x, x = leTo (t.drop m) 4 := ⟨_, rfl⟩
  obtain ⟨y, hy⟩ : ∃ y, y = sum (t.take m) := ⟨_, rfl⟩
  rw [← hx] at hg hne
  rw [← hy] at hs hne
  have hq : ((x : Int) != (y : Int)) = true := by rw [bne_iff_ne]; omega
  have G := Lib.hid hg
  have S := Lib.hid hs
  unfold maxLen at hc
  clear hg hs hx hy h hl hb hne
  go_enter Try.func21, Try.ntmps21
  go_wp2
  go_quiet ((first | (go_at_call 33; exact Calls.quiet_of_same (G.out _)) | (go_at_call 24; exact Calls.quiet_of_same (S.out _))))
  go_wp2
  go_ret2
  exact ⟨none, 0, rfl, World.ownsRow_nil _ _ _ _, below_drewN (Below.refl _ _) _⟩

set_option maxRecDepth 100000 in
set_option maxRecDepth 100000 in
set_option maxHeartbeats 800000 in
theorem open_ok (b o m c : Nat) (t : List Int) (w : World) (h : Seq w w.heap.size (some ⟨b, o, none⟩) (ints .u8 t)) (hl : t.length = m + 4) (hc : c ≤ maxLen) (hmc : m + 4 ≤ c) (hb : ∀ z ∈ t, isByte z) (hm : m ≤ 4096)
    (he : leTo (t.drop m) 4 = sum (t.take m)) :
    Calls Try.prog 21 #[.slice (some ⟨b, o, none⟩) (m + 4) c] w (RowOut .u8 5 w (t.take m) 0) := by
  obtain ⟨i0, hi0, hz0, hz1, hz2⟩ := info_parts byte_info
  have hmk := run_make1 (P := Try.prog) 23 5 i0 _ Try.underlying23 hi0 hz0 hz1 rfl m (by rw [hz2]; omega) (by simp only [maxLen]; omega)
  have hrep : rep m (.int .u8 0) = (ints .u8 (List.replicate m 0)).toArray := by simp [rep, ints]
  rw [hrep] at hmk
  obtain ⟨hg, hs⟩ := open_calls b o m c t w h hl hc hmc hb
  rw [he] at hg
  obtain ⟨y, hy⟩ : ∃ y, y = sum (t.take m) := ⟨_, rfl⟩
  rw [← hy] at hg hs
  have hq : ((y : Int) != (y : Int)) = false := by simp
  have G := Lib.hid hg
  have S := Lib.hid hs
  have hseq : Seq w w.heap.size (some ⟨b, o, none⟩) (ints .u8 (t.take m)) := by
    have := h.take m
    rwa [show (ints .u8 t).take m = ints .u8 (t.take m) from by simp [ints]] at this
  have hlm : (t.take m).length = m := by rw [List.length_take]; omega
  obtain ⟨l, hle⟩ : ∃ l, l = t.take m := ⟨_, rfl⟩
  rw [← hle] at hseq hlm ⊢
  have HSEQ := Lib.hid hseq
  have HLM := Lib.hid hlm
  have HMK := Lib.hid hmk
  unfold maxLen at hc
  clear hg hs hy h hl hb he hi0 hz0 hz1 hz2 hrep hseq hlm hle hmk
  go_enter Try.func21, Try.ntmps21
  go_wp2
  go_quiet ((first | (go_at_call 33; exact Calls.quiet_of_same (G.out _)) | (go_at_call 24; exact Calls.quiet_of_same (S.out _))))
  obtain ⟨w1, hw1⟩ : ∃ w1, w1 = w.drewN nq := ⟨_, rfl⟩
  rw [← hw1]
  have hbel : Below w.heap.size w w1 := by rw [hw1]; exact below_drewN (Below.refl _ _) _
  have hmk1 := HMK.out w1
  have hblk := Blk.new w1 5 (ints .u8 (List.replicate m 0))
  have hs1 := (HSEQ.out.below hbel).alloc hbel.size (.cells (ints .u8 (List.replicate m 0)).toArray 5)
  have hb1 := hbel.alloc hbel.size (.cells (ints .u8 (List.replicate m 0)).toArray 5)
  have hlen : (ints .u8 l).length = Nat.min (m + 4) m := by rw [ints_length, HLM.out]; exact (Nat.min_eq_right (by omega)).symm
  have hfit : 0 + (ints .u8 l).length ≤ (ints .u8 (List.replicate m 0)).length := by simp [ints_length, HLM.out]
  have HB := Lib.hid hblk
  have HS1 := Lib.hid hs1
  have HB1 := Lib.hid hb1
  have HLEN := Lib.hid hlen
  have HFIT := Lib.hid hfit
  have HZ := Lib.hid hbel.size
  clear hw1 hbel hblk hs1 hb1 hlen hfit G S HMK
  go_wp2_with (with_reducible refine wpList_copy_seq (o := ⟨some 28, _, _, _, _, _⟩) rfl (.tmp 26) (.tmp 27) _ _ rfl 5 Try.underlying23 byte_size (some ⟨b, o, none⟩) w1.heap.size 0 m m (m + 4) c rfl rfl (ints .u8 (List.replicate m 0)) 5 HB.out (ints .u8 l) HLEN.out _ HS1.out HFIT.out (ints_one _ _) w.heap.size w HB1.out HZ.out ?_; intro w2 HG2 hB2)
  have HB2 := Lib.hid hB2
  clear hB2
  go_wp2
  go_ret2
  refine ⟨some ⟨w1.heap.size, 0, none⟩, m, by rw [HLM.out]; rfl, ?_, HB2.out⟩
  have hb := HG2.out
  rw [splice_all l 0 m HLM.out] at hb
  rw [HLM.out]
  exact hb.owns HZ.out (by rw [ints_length]; exact HLM.out) (by simp only [maxLen]; omega)

theorem open_gen (A : Option Addr) (n c : Nat) (t : List Int) (w : World) (h : Arg w .u8 A n c t) (hb : ∀ z ∈ t, isByte z) :
    Calls Try.prog 21 #[.slice A n c] w (RowOut .u8 5 w (opB t) (opE t)) := by
  by_cases h4 : n < 4
  · have e1 : opE t = 10 := by unfold opE; rw [h.len, if_pos h4]
    rw [opB_not (by rw [e1]; decide), e1]
    refine (open_short A n c w h4).mono ?_
    rintro e w' ⟨rfl, rfl⟩
    exact RowOut.nil _ _ _ _
  by_cases h5 : 4100 < n
  · have e1 : opE t = 4 := by unfold opE; rw [h.len, if_neg h4, if_pos h5]
    rw [opB_not (by rw [e1]; decide), e1]
    refine (open_many A n c w h5).mono ?_
    rintro e w' ⟨rfl, rfl⟩
    exact RowOut.nil _ _ _ _
  obtain ⟨m, rfl⟩ : ∃ m, n = m + 4 := ⟨n - 4, by omega⟩
  obtain ⟨b, o, rfl, _, _⟩ := h.seq.at_ (by rw [ints_length, h.len]; omega)
  by_cases he : leTo (t.drop m) 4 = sum (t.take m)
  · have e1 : opE t = 0 := by unfold opE; rw [h.len, if_neg h4, if_neg h5, Nat.add_sub_cancel, if_pos he]
    have e2 : opB t = t.take m := by unfold opB; rw [if_pos e1, h.len, Nat.add_sub_cancel]
    rw [e1, e2]
    exact open_ok b o m c t w h.seq h.len h.max h.cap hb (by omega) he
  · have e1 : opE t = 20 := by unfold opE; rw [h.len, if_neg h4, if_neg h5, Nat.add_sub_cancel, if_neg he]
    rw [opB_not (by rw [e1]; decide), e1]
    exact open_sum b o m c t w h.seq h.len h.max h.cap hb (by omega) he

end Go.Proofs.Ytdgfofemogmmkaa
