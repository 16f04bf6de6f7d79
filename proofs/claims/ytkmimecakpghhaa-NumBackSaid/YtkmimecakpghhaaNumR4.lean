/- Layer 1: what the document's own Read returns, and whether two lists are the same. -/
import Derived.Test.YtkmimecakpghhaaNumR3
namespace Go.Proofs.Ytkmimecakpghhaa
open Go.RowKit
set_option linter.unusedVariables false

theorem rread_arg (A S : Option Addr) (n c m cs : Nat) (s : List Int) (w : World) (B : Nat) (h : Seq w B S (ints .i64 s)) (hs : s.length = m) (hm : m ≤ 1000) (hno : okB s = false) :
    Calls Try.prog 14 #[.slice A n c, .slice S m cs] w fun e w' => e = .returned (.tuple #[.slice none 0 0, .int .i64 2]) ∧ w = w' := by
  go_enter Try.func14, Try.ntmps14
  go_wp2_with fail
  refine (total_no S m cs s _ B h hs hm hno).mono ?_
  rintro e w' ⟨rfl, rfl⟩
  go_wp2
  go_ret2
  exact ⟨rfl, rfl⟩

theorem rread_short (A S : Option Addr) (n c m cs : Nat) (s : List Int) (w : World) (B : Nat) (h : Seq w B S (ints .i64 s)) (hs : s.length = m) (hok : okB s = true) (hne : n ≠ atTo s m) (hn : n ≤ 1000) :
    Calls Try.prog 14 #[.slice A n c, .slice S m cs] w fun e w' => e = .returned (.tuple #[.slice none 0 0, .int .i64 10]) ∧ w = w' := by
  have hoo : okTo s s.length = true := by simp [okB] at hok; exact hok.2
  have hle := atTo_le hoo (Nat.le_refl _)
  have h16 : s.length ≤ 16 := by simp [okB] at hok; exact hok.1
  rw [hs] at hle
  have ht := Lib.hid (total_ok S m cs s w B h hs hok)
  obtain ⟨t, hte⟩ : ∃ t, t = atTo s m := ⟨_, rfl⟩
  rw [← hte] at hne hle ht
  have hb : ((n : Int) != (t : Int)) = true := by rw [bne_iff_ne]; omega
  clear hte
  go_enter Try.func14, Try.ntmps14
  go_wp2_with fail
  refine ht.out.mono ?_
  rintro e w' ⟨rfl, rfl⟩
  go_wp2_with fail
  refine ht.out.mono ?_
  rintro e w' ⟨rfl, rfl⟩
  go_wp2
  go_ret2
  exact ⟨rfl, rfl⟩

set_option maxHeartbeats 400000 in
theorem rread_ok (A S : Option Addr) (n c m cs : Nat) (b s : List Int) (w : World) (h : Seq w w.heap.size S (ints .i64 s)) (hs : s.length = m) (hok : okB s = true) (hb : Seq w w.heap.size A (ints .u8 b)) (hbl : b.length = n) (hn : n = atTo s m) (hnc : n ≤ c) (hc : c ≤ maxLen) (hby : ∀ z ∈ b, isByte z) :
    Calls Try.prog 14 #[.slice A n c, .slice S m cs] w (RowOut .u64 26 w (numsTo b s m) 0) := by
  obtain ⟨i0, hi0, hz0, hz1, hz2⟩ := info_parts rword_info
  have hoo : okTo s s.length = true := by simp [okB] at hok; exact hok.2
  have hle := atTo_le hoo (Nat.le_refl _)
  have h16 : s.length ≤ 16 := by simp [okB] at hok; exact hok.1
  rw [hs] at hle hoo h16
  have hn0 : ((n : Int) != (atTo s m : Int)) = false := by rw [hn]; simp
  have ht := Lib.hid (total_ok S m cs s w _ h hs hok)
  have HOO := Lib.hid hoo
  have HS := Lib.hid hs
  have HBL := Lib.hid hbl
  have HBY := Lib.hid hby
  have HN := Lib.hid hn
  clear hoo hs hbl hby hn hok
  go_enter Try.func14, Try.ntmps14
  go_wp2_with fail
  refine ht.out.mono ?_
  rintro e w' ⟨rfl, rfl⟩
  go_wp2_with fail
  refine ht.out.mono ?_
  rintro e w' ⟨rfl, rfl⟩
  go_wp2
  clear hn0
  go_loopw [6, 7, 8] (fun out at_ i wr => ∃ k : Nat, k ≤ m ∧ i = .int .i64 k ∧ at_ = .int .i64 (atTo s k) ∧ (∃ A c, out = .slice A k c) ∧ wr.ownsRow w.heap.size 26 1 out k (ints .u64 (numsTo b s k)) ∧ Below w.heap.size w wr) (fun _ _ i _ => m - (intOf i).toNat)
  case atStart => exact ⟨0, Nat.zero_le _, rfl, rfl, ⟨_, _, rfl⟩, World.ownsRow_nil _ _ _ _, Below.refl _ _⟩
  case round =>
    obtain ⟨k, hk, rfl, rfl, ⟨A', c', rfl⟩, hown, hbel⟩ := hrel
    by_cases hkn : k < m
    · obtain ⟨bs, os, rfl, hbs, hsw⟩ := h.int (j := k) (by have := HS.out; omega)
      have hsc := (hbel.cell (p := ⟨bs, os + k, none⟩) hbs).trans hsw
      have hz := okTo_sz HOO.out hkn
      have hm := atTo_mono s (show k + 1 ≤ m by omega)
      rw [← HN.out, atTo] at hm
      obtain ⟨g, o, rfl, hg, _⟩ := hb.int (j := 0) (by have := HBL.out; omega)
      have hpiece : Seq wr w.heap.size (some ⟨g, o + atTo s k, none⟩) (ints .u8 ((b.drop (atTo s k)).take (szOf s k))) := by
        have e : ints .u8 ((b.drop (atTo s k)).take (szOf s k)) = ((ints .u8 b).drop (atTo s k)).take (szOf s k) := by simp [ints, List.map_take, List.map_drop]
        rw [e]; exact ((hb.below hbel).drop _).take _
      have hpl : ((b.drop (atTo s k)).take (szOf s k)).length = szOf s k := by have := HBL.out; simp; omega
      have hpb : ∀ z ∈ (b.drop (atTo s k)).take (szOf s k), isByte z := fun z hz => HBY.out z (List.mem_of_mem_drop (List.mem_of_mem_take hz))
      obtain ⟨zs, hzs⟩ : ∃ zs, zs = (b.drop (atTo s k)).take (szOf s k) := ⟨_, rfl⟩
      have hvs : numsTo b s (k + 1) = numsTo b s k ++ [val zs] := by rw [numsTo, hzs]
      rw [← hzs] at hpiece hpl hpb
      have hat : atTo s (k + 1) = atTo s k + szOf s k := rfl
      obtain ⟨hz1', hz2', hz3⟩ := hz
      rw [← hz3] at hsc hsw
      obtain ⟨z, hzz⟩ : ∃ z, z = szOf s k := ⟨_, rfl⟩
      rw [← hzz] at hsc hsw hat hpl hm hz1' hz2'
      have HSW := Lib.hid hsw
      clear hsw
      obtain ⟨a, ha⟩ : ∃ a, a = atTo s k := ⟨_, rfl⟩
      rw [← ha] at hat hpiece hm ⊢
      have hnum := number_any _ z (c - a) zs wr _ hpiece hpl hz2' hpb
      have HNUM := Lib.hid hnum
      have HV := Lib.hid hvs
      have HAT := Lib.hid hat
      have HO := Lib.hid hown
      have HBL2 := Lib.hid hbel
      have hsz := hbel.size
      have hnl := Lib.hid (numsTo_length b s k)
      clear hzs hvs hzz ha hat hown hbel hpiece hpl hpb hnum hz3 h hb hle
      unfold maxLen at hc
      go_wp2_with fail
      refine HNUM.out.mono ?_
      rintro e w' ⟨rfl, rfl⟩
      have hsrc := Blk.seq (Blk.new wr 26 [.int .u64 (val zs)]) 0 1
      have HSRC := Lib.hid hsrc
      have HAL := Lib.hid (HO.out.alloc (.cells #[.int .u64 (val zs)] 26))
      clear hsrc
      go_wp2_with (at_builtin; go_must (refine wpList_app _ rfl (.tmp 23) (.tmp 34) _ rfl w.heap.size 26 i0 _ 8 Try.underlying27 hi0 hz0 hz1 hz2 rfl _ k _ rfl HAL.out _ _ 1 1 [.int .u64 (val zs)] rfl rfl HSRC.out (ints_one .u64 [val zs]) (by simp only [maxLen]; omega) (by omega) (by simp; omega) ?_); intro v' w3 hown3 hg3 hob3; obtain ⟨A3, c3, rfl⟩ := owns_slice hown3; have HO3 := Lib.hid hown3; have HB3 := Lib.hid ((HBL2.out.alloc hsz (.cells #[.int .u64 (val zs)] 26)).grown hg3 (by simp; omega) (fun g e => (HAL.out.lt g e).1)); have hsc3 := (HB3.out.cell (p := ⟨bs, os + k, none⟩) hbs).trans HSW.out; clear hown3 hg3 hob3 hsc)
      go_roundw
      case rel =>
        refine ⟨k + 1, by omega, by go_num, by rw [HAT.out]; go_num, ⟨A3, c3, rfl⟩, ?_, HB3.out⟩
        rw [HV.out, ints_app]; exact HO3.out
      case measure => simp [intOf]; omega
    · obtain rfl : k = m := by omega
      have HO := Lib.hid hown
      have HBL2 := Lib.hid hbel
      clear hown hbel h hb
      go_wp2
      go_ret2
      have hl := numsTo_length b s k
      exact ⟨A', c', by rw [hl]; rfl, by rw [hl]; exact HO.out, HBL2.out⟩

/-! ### Lists that are the same -/
set_option maxHeartbeats 400000 in
theorem same_self (A A2 : Option Addr) (n c c2 : Nat) (l : List Int) (w : World) (B : Nat) (h : Seq w B A (ints .u64 l)) (h2 : Seq w B A2 (ints .u64 l)) (hl : l.length = n) (hn : n ≤ 1000000) :
    Calls Try.prog 15 #[.slice A n c, .slice A2 n c2] w fun e w' => e = .returned (.bool true) ∧ ∃ k, w' = w.drewN k := by
  subst hl
  go_enter Try.func15, Try.ntmps15
  go_wp2
  go_loopw [5] (fun i wr => ∃ k : Nat, k ≤ l.length ∧ i = .int .i64 k ∧ ∃ q, wr = w.drewN q) (fun i _ => l.length - (intOf i).toNat)
  case atStart => exact ⟨0, Nat.zero_le _, rfl, 0, rfl⟩
  case round =>
    obtain ⟨k, hk, rfl, q, rfl⟩ := hrel
    by_cases hkn : k < l.length
    · obtain ⟨ba, oa, rfl, hba, hac⟩ := h.int hkn
      obtain ⟨bb, ob, rfl, hbb, hbc⟩ := h2.int hkn
      obtain ⟨v, hv⟩ : ∃ v, v = l.getD k 0 := ⟨_, rfl⟩
      rw [← hv] at hac hbc
      clear hv h h2
      go_wp2
      go_quiet (fail)
      go_wp2
      go_roundw
      case rel => exact ⟨k + 1, by omega, by go_num, _, rfl⟩
      case measure => simp [intOf]; omega
    · obtain rfl : k = l.length := by omega
      go_wp2
      go_ret
      exact ⟨rfl, q, rfl⟩

set_option maxHeartbeats 400000 in
theorem same_ints (A A2 : Option Addr) (n c c2 : Nat) (l : List Int) (w : World) (B : Nat) (h : Seq w B A (ints .i64 l)) (h2 : Seq w B A2 (ints .i64 l)) (hl : l.length = n) (hn : n ≤ 1000000) :
    Calls Try.prog 16 #[.slice A n c, .slice A2 n c2] w fun e w' => e = .returned (.bool true) ∧ ∃ k, w' = w.drewN k := by
  subst hl
  go_enter Try.func16, Try.ntmps16
  go_wp2
  go_loopw [5] (fun i wr => ∃ k : Nat, k ≤ l.length ∧ i = .int .i64 k ∧ ∃ q, wr = w.drewN q) (fun i _ => l.length - (intOf i).toNat)
  case atStart => exact ⟨0, Nat.zero_le _, rfl, 0, rfl⟩
  case round =>
    obtain ⟨k, hk, rfl, q, rfl⟩ := hrel
    by_cases hkn : k < l.length
    · obtain ⟨ba, oa, rfl, hba, hac⟩ := h.int hkn
      obtain ⟨bb, ob, rfl, hbb, hbc⟩ := h2.int hkn
      obtain ⟨v, hv⟩ : ∃ v, v = l.getD k 0 := ⟨_, rfl⟩
      rw [← hv] at hac hbc
      clear hv h h2
      go_wp2
      go_quiet (fail)
      go_wp2
      go_roundw
      case rel => exact ⟨k + 1, by omega, by go_num, _, rfl⟩
      case measure => simp [intOf]; omega
    · obtain rfl : k = l.length := by omega
      go_wp2
      go_ret
      exact ⟨rfl, q, rfl⟩

end Go.Proofs.Ytkmimecakpghhaa
