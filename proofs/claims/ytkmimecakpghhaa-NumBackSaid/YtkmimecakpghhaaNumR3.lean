/- Layer 1: what the document's own Write and Read return, and whether two lists are the same. -/
import Derived.Test.YtkmimecakpghhaaNumR2
import Derived.Test.YtkmimecakpghhaaNumW
namespace Go.Proofs.Ytkmimecakpghhaa
open Go.RowKit
set_option linter.unusedVariables false

theorem rwrite_arg (A S : Option Addr) (n c m cs : Nat) (s : List Int) (w : World) (B : Nat) (h : Seq w B S (ints .i64 s)) (hs : s.length = m) (hm : m ≤ 1000) (hno : okB s = false) :
    Calls Try.prog 13 #[.slice A n c, .slice S m cs] w fun e w' => e = .returned (.tuple #[.slice none 0 0, .int .i64 2]) ∧ w = w' := by
  go_enter Try.func13, Try.ntmps13
  go_wp2_with fail
  refine (total_no S m cs s _ B h hs hm hno).mono ?_
  rintro e w' ⟨rfl, rfl⟩
  go_wp2
  go_ret2
  exact ⟨rfl, rfl⟩

theorem rwrite_many (A S : Option Addr) (n c m cs : Nat) (s : List Int) (w : World) (B : Nat) (h : Seq w B S (ints .i64 s)) (hs : s.length = m) (hok : okB s = true) (hne : n ≠ m) (hn : n ≤ 1000) :
    Calls Try.prog 13 #[.slice A n c, .slice S m cs] w fun e w' => e = .returned (.tuple #[.slice none 0 0, .int .i64 2]) ∧ w = w' := by
  have h16 : s.length ≤ 16 := by simp [okB] at hok; exact hok.1
  have hb : ((n : Int) != (m : Int)) = true := by rw [bne_iff_ne]; omega
  go_enter Try.func13, Try.ntmps13
  go_wp2_with fail
  refine (total_ok S m cs s _ B h hs hok).mono ?_
  rintro e w' ⟨rfl, rfl⟩
  go_wp2
  go_ret2
  exact ⟨rfl, rfl⟩

set_option maxHeartbeats 400000 in
theorem rwrite_ok (A S : Option Addr) (n c m cs : Nat) (l s : List Int) (w : World) (h : Seq w w.heap.size S (ints .i64 s)) (hs : s.length = m) (hok : okB s = true) (hl : Seq w w.heap.size A (ints .u64 l)) (hln : l.length = n) (hnm : n = m) (hw : ∀ z ∈ l, isWord z) :
    Calls Try.prog 13 #[.slice A n c, .slice S m cs] w (WroteOut w l s) := by
  subst hs
  subst hnm
  have hoo : okTo s s.length = true := by simp [okB] at hok; exact hok.2
  have h16 : s.length ≤ 16 := by simp [okB] at hok; exact hok.1
  have HOO := Lib.hid hoo
  have HLN := Lib.hid hln
  have HW := Lib.hid hw
  have HOK := Lib.hid hok
  clear hoo hln hw
  go_enter Try.func13, Try.ntmps13
  go_wp2_with fail
  refine (total_ok S s.length cs s _ _ h rfl hok).mono ?_
  rintro e w' ⟨rfl, rfl⟩
  clear hok
  go_wp2
  go_loopw [6] (fun i wr => ∃ k : Nat, k ≤ s.length ∧ i = .int .i64 k ∧ Hid (fitsTo l s k = true) ∧ Below w.heap.size w wr) (fun i _ => s.length - (intOf i).toNat)
  case atStart => exact ⟨0, Nat.zero_le _, rfl, rfl, Below.refl _ _⟩
  case round =>
    obtain ⟨k, hk, rfl, hfk, hbel⟩ := hrel
    by_cases hkn : k < s.length
    · obtain ⟨ba, oa, rfl, hba, hac⟩ := (hl.below hbel).int (j := k) (by have := HLN.out; omega)
      obtain ⟨bs, os, rfl, hbs, hsc⟩ := (h.below hbel).int (j := k) (by omega)
      have hz := okTo_sz HOO.out hkn
      have hft : fitsTo l s (k + 1) = (fitsTo l s k && decide (l.getD k 0 / 256 ^ szOf s k = 0)) := rfl
      have hvw := getD_word HW.out k
      obtain ⟨v, hv⟩ : ∃ v, v = l.getD k 0 := ⟨_, rfl⟩
      rw [← hv] at hac hft hvw
      rw [← hz.2.2] at hsc
      obtain ⟨z, hzz⟩ : ∃ z, z = szOf s k := ⟨_, rfl⟩
      rw [← hzz] at hsc hft hz
      have hd := digits_any z v wr.drew (by omega) hvw.1 hvw.2
      have HD := Lib.hid hd
      have HBL := Lib.hid hbel
      have hsz := hbel.size
      clear hv hzz hbel hvw hz hd h hl
      by_cases hfit : v / 256 ^ z = 0
      · have HF := Lib.hid (decide_eq_true hfit)
        have HFT := Lib.hid hft
        clear hfit hft
        go_wp2
        go_region_with (go_at_call 22; refine HD.out.mono ?_; rintro e w2 ⟨A2, c2, he, hown2, hbel2⟩; rw [HF.out] at he; subst he)
        all_goals
          have HBL2 := Lib.hid (Below.trans (Below.drew HBL.out) (hbel2.mono hsz))
          clear hown2 hbel2
          go_wp2
          go_roundw
          case rel => exact ⟨k + 1, by omega, by go_num, by show fitsTo l s (k + 1) = true; rw [HFT.out, hfk.out, HF.out]; rfl, HBL2.out⟩
          case measure => simp [intOf]; omega
      · have HF := Lib.hid (decide_eq_false hfit)
        have HFT := Lib.hid hft
        clear hfit hft
        go_wp2
        go_region_with (go_at_call 22; refine HD.out.mono ?_; rintro e w2 ⟨A2, c2, he, hown2, hbel2⟩; rw [HF.out] at he; subst he)
        all_goals
          have HBL2 := Lib.hid (Below.trans (Below.drew HBL.out) (hbel2.mono hsz))
          clear hown2 hbel2
          go_wp2
          go_ret2
          refine .inr ⟨?_, rfl, HBL2.out⟩
          have hno : fitsTo l s (k + 1) = false := by rw [HFT.out, HF.out]; simp
          rcases hft : fitsTo l s s.length with _ | _
          · rfl
          · rw [fitsTo_le hft hkn] at hno; cases hno
    · obtain rfl : k = s.length := by omega
      have hr := row_any A S s.length c cs l s wr ((h.below hbel).more hbel.size) HOK.out ((hl.below hbel).more hbel.size) HLN.out rfl HW.out
      have HR := Lib.hid hr
      have HBL := Lib.hid hbel
      clear hbel h hl hr
      go_wp2_with fail
      refine HR.out.mono ?_
      rintro e w2 ⟨A2, c2, rfl, hown2, hbel2⟩
      have HO2 := Lib.hid hown2
      have HB2 := Lib.hid hbel2
      clear hown2 hbel2
      go_wp2
      go_ret2
      exact .inl ⟨hfk.out, A2, c2, rfl, owns_base HO2.out HBL.out.size, HBL.out.trans (HB2.out.mono HBL.out.size)⟩

end Go.Proofs.Ytkmimecakpghhaa
