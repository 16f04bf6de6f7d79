/- Layer 11: the document's Rows and Notes, at all arguments. -/
import Derived.Test.YthoflogegopikaaRecPut
import Derived.Test.YthoflogegopikaaTexts
namespace Go.Proofs.Ythoflogegopikaa
open Go.RowKit
set_option linter.unusedVariables false

set_option maxRecDepth 100000 in
set_option maxHeartbeats 1600000 in
theorem rrows11_any (A : Option Addr) (n c : Nat) (t : List Rc) (w : World) (ht : Recs w A n c t) (hm : mayTab t) :
    Calls Try.prog 43 #[.slice A n c] w fun e w' => ∃ A' c', e = .returned (.slice A' n c') ∧ OwnTexts w' w.heap.size A' n c' (t.map recT) ∧ Below w.heap.size w w' := by
  obtain ⟨i1, hi1, hy0, hy1, hy2⟩ := info_parts texts_info
  have hml : (1000 : Nat) ≤ maxLen := by decide
  have hlen := ht.len
  have hn : n ≤ 3 := by have := tab_three hm; rw [hlen] at this; exact this
  have HT := Lib.hid ht
  have MAY := Lib.hid (fun k (hk : k < n) => ((mayTab_idx t).1 hm k (by rw [hlen]; exact hk)).1)
  have TF := Lib.hid (show (t.map recT).take n = t.map recT by rw [← hlen, ← List.length_map (f := recT), List.take_length])
  have TS := Lib.hid (fun k (hk : k < n) => show (t.map recT).take (k + 1) = (t.map recT).take k ++ [recT (t.getD k zR)] by
    rw [List.take_succ_eq_append_getElem (by rw [List.length_map, hlen]; exact hk)]
    simp [List.getD_eq_getElem?_getD, show k < t.length by rw [hlen]; exact hk])
  obtain ⟨Z, hZ⟩ : ∃ Z, Z = t.map recT := ⟨_, rfl⟩
  rw [← hZ] at TF TS ⊢
  clear ht hm hlen hZ
  go_enter Try.func43, Try.ntmps43
  go_wp2
  go_loopw [3, 4] (fun v i wr => ∃ k : Nat, k ≤ n ∧ i = .int .i64 k ∧ (∃ A' c', v = .slice A' k c' ∧ OwnTexts wr w.heap.size A' k c' (Z.take k)) ∧ Below w.heap.size w wr) (fun _ i _ => n - (intOf i).toNat)
  case atStart => exact ⟨0, Nat.zero_le _, rfl, ⟨none, 0, rfl, OwnTexts.nil _ _⟩, Below.refl _ _⟩
  case round =>
    obtain ⟨k, hk, rfl, ⟨A1, c1, rfl, hown⟩, hbel⟩ := hrel
    by_cases hkn : k < n
    · have HW := HT.out.below hbel
      obtain ⟨b, o, rfl, hlt, d0, d1, d2, d3, d4, d5, d6, d7⟩ := HW.row hkn
      have his := HW.is_at hkn
      have hmy := MAY.out k hkn
      have hst := TS.out k hkn
      obtain ⟨r, hr⟩ : ∃ r, r = t.getD k zR := ⟨_, rfl⟩
      rw [← hr] at d0 d1 d2 d3 d4 d5 d6 d7 his hmy hst
      obtain ⟨Q, hQ⟩ : ∃ Q, Q = Z.take k := ⟨_, rfl⟩
      rw [← hQ] at hown hst
      have HST := Lib.hid hst
      have O := Lib.hid hown
      have B := Lib.hid hbel
      have RW := Lib.hid (rrow11_any r wr his hmy)
      clear hr hQ hown hbel his hmy hst HW
      go_wp2_with fail
      refine RW.out.mono ?_
      rintro e w2 ⟨A2, c2, rfl, hown2, hb2⟩
      have O2 := Lib.hid (owns_base hown2 B.out.size)
      have O1 := Lib.hid (O.out.below hb2)
      have B2 := Lib.hid (B.out.trans (hb2.mono B.out.size))
      clear hown2 hb2 d0 d1 d2 d3 d4 d5 d6 d7
      go_wp2_with (at_builtin; (refine wpList_text w _ rfl (.tmp 11) (.tmp 17) _ rfl i1 _ Try.underlying33 hi1 hy0 hy1 hy2 rfl w.heap.size A1 k c1 Q rfl O1.out A2 14 c2 (recT r) (recT_byte r) O2.out rfl (by omega) (by omega) B2.out (Nat.le_refl _) ?_); intro A3 c3 w3 hown3 hbel3; have O3 := Lib.hid hown3; have B3 := Lib.hid hbel3; clear hown3 hbel3)
      go_roundw
      case rel => exact ⟨k + 1, by omega, by go_num, ⟨A3, c3, rfl, by rw [HST.out]; exact O3.out⟩, B3.out⟩
      case measure => simp [intOf]; omega
    · obtain rfl : k = n := by omega
      rw [TF.out] at hown
      have O := Lib.hid hown
      have B := Lib.hid hbel
      clear hown hbel
      go_wp2
      go_ret
      exact ⟨A1, c1, rfl, O.out, B.out⟩

def NotesOut (w : World) (x : List Txt) (E : Int) (e : Ending) (w' : World) : Prop := ∃ A' c', e = .returned (.tuple #[.slice A' x.length c', .int .i64 E]) ∧ OwnTexts w' w.heap.size A' x.length c' x ∧ Below w.heap.size w w'
theorem rnotes11_any (A : Option Addr) (n c : Nat) (t : List Rc) (w : World) (ht : Recs w A n c t) (hn : n ≤ 100000) :
    Calls Try.prog 24 #[.slice A n c] w (NotesOut w (rnL t) (rnE t)) := by
  have M := rmayAll_any A n c t w ht hn
  have hlen := ht.len
  by_cases hm : mayTab t
  · rw [decide_eq_true hm] at M
    have M := Lib.hid M
    have HE := Lib.hid (show rnE t = 0 from if_pos hm)
    have HL := Lib.hid (show rnL t = t.map recT from if_pos hm)
    have LN := Lib.hid (show (t.map recT).length = n by rw [List.length_map, hlen])
    have R := Lib.hid (fun wx (hx : Below w.heap.size w wx) => rrows11_any A n c t wx (ht.below hx) hm)
    clear ht hm hlen
    go_enter Try.func24, Try.ntmps24
    go_wp2_with fail
    refine M.out.mono ?_
    rintro e w1 ⟨rfl, hb⟩
    have B := Lib.hid hb
    clear hb
    go_wp2_with fail
    refine (R.out _ B.out).mono ?_
    rintro e w2 ⟨A2, c2, rfl, hO, hb⟩
    have O := Lib.hid (hO.lower B.out.size)
    have B2 := Lib.hid (B.out.trans (hb.mono B.out.size))
    clear hO hb
    go_wp2
    go_ret2
    unfold NotesOut
    rw [HE.out, HL.out, LN.out]
    exact ⟨A2, c2, rfl, O.out, B2.out⟩
  · rw [decide_eq_false hm] at M
    have M := Lib.hid M
    have HE := Lib.hid (show rnE t = 110 from if_neg hm)
    have HL := Lib.hid (show rnL t = [] from if_neg hm)
    clear ht hm hlen
    go_enter Try.func24, Try.ntmps24
    go_wp2_with fail
    refine M.out.mono ?_
    rintro e w1 ⟨rfl, hb⟩
    have B := Lib.hid hb
    clear hb
    go_wp2
    go_ret2
    unfold NotesOut
    rw [HE.out, HL.out]
    exact ⟨none, 0, rfl, OwnTexts.nil _ _, B.out⟩
end Go.Proofs.Ythoflogegopikaa
