/- Layer 1, package num: what Write returns. -/
import Derived.Test.YtkmimecakpghhaaNum
import Derived.StillTailTactics
import Derived.Deep.RegionHeld3
namespace Go.Proofs.Ytkmimecakpghhaa
open Go.RowKit
set_option linter.unusedVariables false

/-- Write where sizes may not be: ErrArg. -/
theorem write_arg (A S : Option Addr) (n c m cs : Nat) (s : List Int) (w : World) (B : Nat) (h : Seq w B S (ints .i64 s)) (hs : s.length = m) (hm : m ≤ 1000) (hno : okB s = false) :
    Calls Try.prog 8 #[.slice A n c, .slice S m cs] w fun e w' => e = .returned (.tuple #[.slice none 0 0, .int .i64 2]) ∧ w = w' := by
  go_enter Try.func8, Try.ntmps8
  go_wp2_with fail
  refine (size_no S m cs s _ B h hs hm hno).mono ?_
  rintro e w' ⟨rfl, rfl⟩
  go_wp2
  go_ret2
  exact ⟨rfl, rfl⟩

/-- Write of more or fewer numbers than sizes: ErrArg. -/
theorem write_many (A S : Option Addr) (n c m cs : Nat) (s : List Int) (w : World) (B : Nat) (h : Seq w B S (ints .i64 s)) (hs : s.length = m) (hok : okB s = true) (hne : n ≠ m) (hn : n ≤ 1000) :
    Calls Try.prog 8 #[.slice A n c, .slice S m cs] w fun e w' => e = .returned (.tuple #[.slice none 0 0, .int .i64 2]) ∧ w = w' := by
  have h16 : s.length ≤ 16 := by simp [okB] at hok; exact hok.1
  have hb : ((n : Int) != (m : Int)) = true := by rw [bne_iff_ne]; omega
  go_enter Try.func8, Try.ntmps8
  go_wp2_with fail
  refine (size_ok S m cs s _ B h hs hok).mono ?_
  rintro e w' ⟨rfl, rfl⟩
  go_wp2
  go_ret2
  exact ⟨rfl, rfl⟩

/-- Write of as many numbers: the row, if each fits; else ErrMany. -/
def WroteOut (w : World) (l s : List Int) (e : Ending) (w' : World) : Prop :=
  (fitsTo l s s.length = true ∧ RowOut .u8 5 w (rowTo l s s.length) 0 e w') ∨ (fitsTo l s s.length = false ∧ e = .returned (.tuple #[.slice none 0 0, .int .i64 4]) ∧ Below w.heap.size w w')

theorem WroteOut.yes {w : World} {l s : List Int} {e : Ending} {w' : World} (h : WroteOut w l s e w') (hf : fitsTo l s s.length = true) : RowOut .u8 5 w (rowTo l s s.length) 0 e w' := by
  rcases h with ⟨_, h⟩ | ⟨h, _⟩
  · exact h
  · rw [hf] at h; cases h
theorem WroteOut.no {w : World} {l s : List Int} {e : Ending} {w' : World} (h : WroteOut w l s e w') (hf : fitsTo l s s.length = false) : e = .returned (.tuple #[.slice none 0 0, .int .i64 4]) ∧ Below w.heap.size w w' := by
  rcases h with ⟨h, _⟩ | ⟨_, h⟩
  · rw [hf] at h; cases h
  · exact h

set_option maxHeartbeats 400000 in
theorem write_ok (A S : Option Addr) (n c m cs : Nat) (l s : List Int) (w : World) (h : Seq w w.heap.size S (ints .i64 s)) (hs : s.length = m) (hok : okB s = true) (hl : Seq w w.heap.size A (ints .u64 l)) (hln : l.length = n) (hnm : n = m) (hw : ∀ z ∈ l, isWord z) :
    Calls Try.prog 8 #[.slice A n c, .slice S m cs] w (WroteOut w l s) := by
  subst hs
  subst hnm
  have hoo : okTo s s.length = true := by simp [okB] at hok; exact hok.2
  have hle := atTo_le hoo (Nat.le_refl _)
  have h16 : s.length ≤ 16 := by simp [okB] at hok; exact hok.1
  obtain ⟨i0, hi0, hz0, hz1, hz2⟩ := info_parts byte_info
  obtain ⟨t, ht⟩ : ∃ t, t = atTo s s.length := ⟨_, rfl⟩
  have hmk := fun wx => run_make1 (P := Try.prog) 22 5 i0 _ Try.underlying22 hi0 hz0 hz1 rfl t (by rw [hz2]; omega) (by simp only [maxLen]; omega) wx
  have HOO := Lib.hid hoo
  have HLN := Lib.hid hln
  have HW := Lib.hid hw
  have HT := Lib.hid ht
  rw [← ht] at hle
  clear hi0 hz0 hz1 hz2 hoo hln hw ht
  go_enter Try.func8, Try.ntmps8
  go_wp2_with fail
  refine (size_ok S s.length cs s _ _ h rfl hok).mono ?_
  rintro e w' ⟨rfl, rfl⟩
  rw [← HT.out]
  go_wp2_with fail
  refine (parts_any _ S w.heap.size 0 t t cs s _ _ (h.alloc (Nat.le_refl _) _) hok HT.out (Nat.le_refl _) (by simp only [maxLen]; omega) (fun _ => rfl) (by simp)).mono ?_
  rintro e w1 ⟨rfl, hp, hg1⟩
  have hp2 : Blk w1 (w.heap.size + 1) 22 (partsTo w.heap.size 0 s s.length) := by simpa using hp
  have hb1 : Blk w1 w.heap.size 5 (ints .u8 (List.replicate t 0)) := by
    have e : rep t (.int .u8 0) = (ints .u8 (List.replicate t 0)).toArray := by simp [rep, ints]
    rw [e] at hg1
    exact (Blk.new w 5 (ints .u8 (List.replicate t 0))).grown hg1 (by simp)
  have HP := Lib.hid hp2
  have HB1 := Lib.hid hb1
  have HG := Lib.hid (grownBy_trans (World.grownBy_alloc w _ none) (hg1.weak (by simp)))
  clear hp hg1 hmk hp2 hb1
  go_wp2
  go_loopw [31] (fun i wr => ∃ k : Nat, k ≤ s.length ∧ i = .int .i64 k ∧ Hid (fitsTo l s k = true) ∧ Blk wr w.heap.size 5 (ints .u8 (rowTo l s k ++ List.replicate (t - atTo s k) 0)) ∧ Blk wr (w.heap.size + 1) 22 (partsTo w.heap.size 0 s s.length) ∧ w.grownBy wr none) (fun i _ => s.length - (intOf i).toNat)
  case atStart => exact ⟨0, Nat.zero_le _, rfl, rfl, by simpa [rowTo, atTo] using HB1.out, HP.out, HG.out⟩
  case round =>
    obtain ⟨k, hk, rfl, hfk, hbk, hpk, hgk⟩ := hrel
    by_cases hkn : k < s.length
    · obtain ⟨ba, oa, rfl, hba, hac⟩ := (hl.grown hgk (Nat.le_refl _) (fun _ h => by cases h)).int (j := k) (by have := HLN.out; omega)
      have hz := okTo_sz HOO.out hkn
      have hm := atTo_mono s (show k + 1 ≤ s.length by omega)
      rw [← HT.out, atTo] at hm
      have hpc := hpk.cell k
      rw [partsTo_get _ _ _ _ _ hkn, Nat.zero_add] at hpc
      have hput := put_any w.heap.size (atTo s k) (szOf s k) (szOf s k) (rowTo l s k) (List.replicate (szOf s k) 0) (List.replicate (t - atTo s (k + 1)) 0) (l.getD k 0) wr.drew
        (by rw [List.append_assoc, List.replicate_append_replicate, atTo, show szOf s k + (t - (atTo s k + szOf s k)) = t - atTo s k from by omega]; exact hbk) (rowTo_length _ _ _) (by simp) hz.1 (by omega)
        (by rw [show l.getD k 0 = l[k]'(by have := HLN.out; omega) from by simp [List.getD, show k < l.length from by have := HLN.out; omega]]; exact (HW.out _ (List.getElem_mem _)).1)
      rw [List.append_assoc] at hput
      have hrow : rowTo l s (k + 1) = rowTo l s k ++ digs (szOf s k) (l.getD k 0) := rfl
      have hft : fitsTo l s (k + 1) = (fitsTo l s k && decide (l.getD k 0 / 256 ^ szOf s k = 0)) := rfl
      obtain ⟨v, hv⟩ : ∃ v, v = l.getD k 0 := ⟨_, rfl⟩
      rw [← hv] at hput hac hrow hft
      have HROW := Lib.hid hrow
      have HFT := Lib.hid hft
      have HPK := Lib.hid hpk
      have HGK := Lib.hid hgk
      clear hv hrow hft
      by_cases hfit : v / 256 ^ szOf s k = 0
      · rw [decide_eq_true hfit] at hput HFT
        have HPUT := Lib.hid hput
        clear hput h hl hbk hpk hgk hfit
        go_wp2
        go_still_tail 8, (by kernel_rfl)
        change wpList _ _ _ _ _ wr.drew
        go_wp2_with fail
        refine HPUT.out.mono ?_
        rintro e w2 ⟨rfl, hb2, hg2⟩
        have HB2 := Lib.hid hb2
        have HG2 := Lib.hid hg2
        clear hb2 hg2
        go_wp2
        go_roundw
        case rel =>
          refine ⟨k + 1, by omega, by go_num, ?_, ?_, ?_, ?_⟩
          · show fitsTo l s (k + 1) = true
            rw [HFT.out, hfk.out]; rfl
          · rw [HROW.out, List.append_assoc]; exact HB2.out
          · exact Blk.grown (w := wr.drew) HPK.out HG2.out (by simp)
          · exact grownBy_then (grownBy_drew HGK.out) HG2.out (fun g e => by injection e with e; omega)
        case measure => simp [intOf]; omega
      · rw [decide_eq_false hfit] at hput HFT
        have HPUT := Lib.hid hput
        clear hput h hl hbk hpk hgk hfit
        go_wp2
        go_still_tail 8, (by kernel_rfl)
        change wpList _ _ _ _ _ wr.drew
        go_wp2_with fail
        refine HPUT.out.mono ?_
        rintro e w2 ⟨rfl, hb2, hg2⟩
        have HB2 := Lib.hid hb2
        have HG2 := Lib.hid hg2
        clear hb2 hg2
        go_wp2
        go_ret2
        refine .inr ⟨?_, rfl, ?_⟩
        · have hno : fitsTo l s (k + 1) = false := by rw [HFT.out]; simp
          rcases hft : fitsTo l s s.length with _ | _
          · rfl
          · rw [fitsTo_le hft hkn] at hno; cases hno
        · exact below_of_grown (grownBy_then (grownBy_drew HGK.out) HG2.out (fun g e => by injection e with e; omega))
    · obtain rfl : k = s.length := by omega
      have HB := Lib.hid hbk
      have HGK := Lib.hid hgk
      clear hbk hpk hgk h hl
      go_wp2
      have hl : (rowTo l s s.length).length = t := by rw [rowTo_length, HT.out]
      have hb2 := HB.out
      rw [← HT.out, Nat.sub_self, List.replicate_zero, List.append_nil] at hb2
      go_ret2
      refine .inl ⟨hfk.out, some ⟨w.heap.size, 0, none⟩, t, by rw [hl]; rfl, ?_, below_of_grown HGK.out⟩
      rw [hl]
      exact hb2.owns (Nat.le_refl _) (by rw [ints_length, hl]) (by simp only [maxLen]; omega)

end Go.Proofs.Ytkmimecakpghhaa
