/- Layer 16, package net: texts in new memory, Twin, Same, Check. No statement is proved here. -/
import Derived.Test.YtibegaoegpanpaaNtD
import Derived.BigQuiet
namespace Go.Proofs.Ytibegaoegpanpaa
open Go.RowKit
set_option linter.unusedVariables false
set_option maxRecDepth 100000

theorem pcheck16_any (A : Option Addr) (n c : Nat) (q : List Text) (w : World) (hl : q.length = n) :
    Calls Try.prog 18 #[.slice A n c] w fun e w' => e = .returned (.int .i64 (ntE q)) ∧ w' = w := by
  by_cases h : 64 < n
  · have e : ntE q = 8 := if_pos (by omega)
    have hi : (64 : Int) < (n : Int) := by omega
    rw [e]
    clear e hl h
    go_enter Try.func18, Try.ntmps18
    go_wp2
    go_ret
    exact ⟨rfl, rfl⟩
  · have e : ntE q = 0 := if_neg (by omega)
    have hi : ¬ (64 : Int) < (n : Int) := by omega
    rw [e]
    clear e hl h
    go_enter Try.func18, Try.ntmps18
    go_wp2
    go_ret
    exact ⟨rfl, rfl⟩

theorem equal16_any (A : Option Addr) (n c : Nat) (x : Text) (A' : Option Addr) (n' c' : Nat) (y : Text) (w : World) (hx : Arg w .u8 A n c x) (hy : Arg w .u8 A' n' c' y) (bx : ∀ z ∈ x, isByte z) (by_ : ∀ z ∈ y, isByte z) :
    Calls Try.prog 28 #[.slice A n c, .slice A' n' c'] w fun e w' => e = .returned (.bool (decide (x = y))) ∧ w' = w := by
  have hst1 := run_str (P := Try.prog) w 26 9 5 Try.underlying26 Try.underlying5 Try.underlying9 (c := c) hx.seq hx.len
  have hst2 := run_str (P := Try.prog) w 26 9 5 Try.underlying26 Try.underlying5 Try.underlying9 (c := c') hy.seq hy.len
  have hse := strs_eq bx by_
  obtain ⟨R, hR⟩ : ∃ R, R = decide (x = y) := ⟨_, rfl⟩
  rw [← hR] at hse ⊢
  clear hR hx hy bx by_
  go_enter Try.func28, Try.ntmps28
  go_wp2
  go_ret
  exact ⟨rfl, rfl⟩

/-- A text in new memory. -/
theorem ptwin16_any (A : Option Addr) (n c : Nat) (x : Text) (w : World) (hx : Arg w .u8 A n c x) (hn : n ≤ 1000) :
    Calls Try.prog 27 #[.slice A n c] w fun e w' => ∃ A' c', e = .returned (.slice A' n c') ∧ w'.ownsRow w.heap.size 5 1 (.slice A' n c') n (ints .u8 x) ∧ Below w.heap.size w w' := by
  obtain ⟨i0, hi0, hz0, hz1, hz2⟩ := info_parts byte_info
  have hml : (1000 : Nat) ≤ maxLen := by decide
  have HX := Lib.hid hx
  clear hx
  go_enter Try.func27, Try.ntmps27
  go_wp2_with (at_builtin; go_must (refine wpList_behind_g w w rfl (.const (.slice none 0 0)) (.tmp 3) _ rfl w.heap.size 5 i0 _ 1 Try.underlying26 hi0 hz0 hz1 hz2 rfl none 0 0 [] rfl (World.ownsRow_nil _ _ _ _) w.heap.size A n c (ints .u8 x) rfl (by rw [ints_length]; exact HX.out.len) HX.out.seq (ints_one _ _) (by omega) (by omega) (Below.refl _ _) (Nat.le_refl _) ?_); intro A' c' w' hown hb; have O := Lib.hid hown; have B := Lib.hid hb; clear hown hb)
  go_ret
  have o := O.out
  rw [List.nil_append, Nat.zero_add] at o
  exact ⟨A', c', rfl, o, B.out⟩

set_option maxHeartbeats 1600000 in
theorem pTwin16_any (A : Option Addr) (n c : Nat) (q : List Text) (w : World) (hq : Texts w A n c q) (hs : Small q) :
    Calls Try.prog 15 #[.slice A n c] w fun e w' => ∃ A' c', e = .returned (.slice A' n c') ∧ OwnTexts w' w.heap.size A' n c' q ∧ Below w.heap.size w w' := by
  obtain ⟨i1, hi1, hy0, hy1, hy2⟩ := info_parts texts_info
  have hml : (1000 : Nat) ≤ maxLen := by decide
  have hn := hs.many
  rw [hq.len] at hn
  have HQ := Lib.hid hq
  have HS := Lib.hid hs
  have TF := Lib.hid (show q.take n = q by rw [← hq.len, List.take_length])
  have TS := Lib.hid (fun k (hk : k < n) => show q.take (k + 1) = q.take k ++ [q.getD k []] by
    rw [List.take_succ_eq_append_getElem (by rw [hq.len]; exact hk)]
    simp [List.getD_eq_getElem?_getD, show k < q.length by rw [hq.len]; exact hk])
  clear hq hs
  go_enter Try.func15, Try.ntmps15
  go_wp2
  go_loopw [3, 8] (fun v i wr => ∃ k : Nat, k ≤ n ∧ i = .int .i64 k ∧ (∃ A' c', v = .slice A' k c' ∧ OwnTexts wr w.heap.size A' k c' (q.take k)) ∧ Below w.heap.size w wr) (fun _ i _ => n - (intOf i).toNat)
  case atStart => exact ⟨0, Nat.zero_le _, rfl, ⟨none, 0, rfl, OwnTexts.nil _ _⟩, Below.refl _ _⟩
  case round =>
    obtain ⟨k, hk, rfl, ⟨A1, c1, rfl, hown⟩, hbel⟩ := hrel
    by_cases hkn : k < n
    · obtain ⟨b, o, Ai, ni, ci, rfl, hlt, hc, ha⟩ := (HQ.out.below hbel).at_ k hkn
      have hby := HQ.out.byte_at k
      have hsm := HS.out.at_ k
      have hst := TS.out k hkn
      obtain ⟨t, ht⟩ : ∃ t, t = q.getD k [] := ⟨_, rfl⟩
      rw [← ht] at ha hby hsm hst
      obtain ⟨Q, hQ⟩ : ∃ Q, Q = q.take k := ⟨_, rfl⟩
      rw [← hQ] at hown hst
      have hni : ni ≤ 200 := by rw [← ha.len]; exact hsm
      have TW := Lib.hid (ptwin16_any Ai ni ci t wr ha (by omega))
      have HST := Lib.hid hst
      have HBY := Lib.hid hby
      have O := Lib.hid hown
      have B := Lib.hid hbel
      clear ht hQ hown hbel ha hby hst hsm
      go_wp2_with fail
      refine TW.out.mono ?_
      rintro e w2 ⟨A2, c2, rfl, hown2, hb2⟩
      have O2 := Lib.hid hown2
      have B2 := Lib.hid hb2
      clear hown2 hb2 TW
      go_wp2_with (at_builtin; go_must (refine wpList_text w w2 rfl (.tmp 12) (.tmp 15) _ rfl i1 _ Try.underlying22 hi1 hy0 hy1 hy2 rfl w.heap.size A1 k c1 Q rfl (O.out.below B2.out) A2 ni c2 t HBY.out (owns_base O2.out B.out.size) rfl (by omega) (by omega) (B.out.trans (B2.out.mono B.out.size)) (Nat.le_refl _) ?_); intro A3 c3 w3 hown3 hbel3; have O3 := Lib.hid hown3; have B3 := Lib.hid hbel3; clear hown3 hbel3)
      go_roundw
      case rel => exact ⟨k + 1, by omega, by go_num, ⟨A3, c3, rfl, by rw [HST.out]; exact O3.out⟩, B3.out⟩
      case measure => simp [intOf]; omega
    · obtain rfl : k = n := by omega
      rw [TF.out] at hown
      have O := Lib.hid hown
      have B := Lib.hid hbel
      clear hown hbel
      go_wp2
      go_ret
      exact ⟨A1, c1, rfl, O.out, B.out⟩

theorem psame16_len (A : Option Addr) (n c : Nat) (A' : Option Addr) (n' c' : Nat) (w : World) (hne : n ≠ n') :
    Calls Try.prog 17 #[.slice A n c, .slice A' n' c'] w fun e w' => e = .returned (.bool false) ∧ Below w.heap.size w w' := by
  have h2 : ¬ (n : Int) = (n' : Int) := by omega
  have h3 : ((n : Int) != (n' : Int)) = true := bne_iff_ne.2 h2
  go_enter Try.func17, Try.ntmps17
  go_wp2
  go_ret
  exact ⟨rfl, Below.refl _ _⟩
set_option maxHeartbeats 1600000 in
theorem psame16_any (A : Option Addr) (n c : Nat) (a : List Text) (A' : Option Addr) (n' c' : Nat) (b : List Text) (w : World) (ha : Texts w A n c a) (hb : Texts w A' n' c' b) :
    Calls Try.prog 17 #[.slice A n c, .slice A' n' c'] w fun e w' => e = .returned (.bool (decide (a = b))) ∧ Below w.heap.size w w' := by
  by_cases hn : n = n'
  · subst hn
    have HA := Lib.hid ha
    have HB := Lib.hid hb
    have hcm := Nat.le_trans ha.cap ha.max
    unfold maxLen at hcm
    have YES := Lib.hid fun h => (show decide (a = b) = true from decide_eq_true (list_same ha.len hb.len h))
    have NO := Lib.hid fun k (h : a.getD k [] ≠ b.getD k []) => (show decide (a = b) = false from decide_eq_false fun e => h (by rw [e]))
    obtain ⟨R, hR⟩ : ∃ R, R = decide (a = b) := ⟨_, rfl⟩
    rw [← hR] at YES NO ⊢
    clear ha hb hR
    go_enter Try.func17, Try.ntmps17
    go_wp2
    go_loopw [13] (fun i wr => ∃ k : Nat, k ≤ n ∧ i = .int .i64 k ∧ (∀ y, y < k → a.getD y [] = b.getD y []) ∧ Below w.heap.size w wr) (fun i _ => n - (intOf i).toNat)
    case atStart => exact ⟨0, Nat.zero_le _, rfl, fun y hy => by omega, Below.refl _ _⟩
    case round =>
      obtain ⟨k, hk, rfl, hall, hbel⟩ := hrel
      have ALL := Lib.hid hall
      clear hall
      by_cases hkn : k < n
      · obtain ⟨b1, o1, A1, n1, c1, rfl, hlt1, hc1, ha1⟩ := (HA.out.below hbel).at_ k hkn
        obtain ⟨b2, o2, A2, n2, c2, rfl, hlt2, hc2, ha2⟩ := (HB.out.below hbel).at_ k hkn
        have EQ := Lib.hid (fun q => equal16_any A1 n1 c1 (a.getD k []) A2 n2 c2 (b.getD k []) (wr.drewN q) (ha1.below (below_drewN (Below.refl _ _) q)) (ha2.below (below_drewN (Below.refl _ _) q)) (HA.out.byte_at k) (HB.out.byte_at k))
        have NOK := Lib.hid (NO.out k)
        obtain ⟨x, hx⟩ : ∃ x, x = a.getD k [] := ⟨_, rfl⟩
        obtain ⟨y, hy⟩ : ∃ y, y = b.getD k [] := ⟨_, rfl⟩
        rw [← hx, ← hy] at EQ
        rw [← hx] at NOK
        rw [← hy] at NOK
        have HX := Lib.hid hx
        have HY := Lib.hid hy
        have hkm : (k : Int) < (n : Int) := by omega
        have B := Lib.hid hbel
        clear hx hy ha1 ha2 hbel
        by_cases hxy : x = y
        · rw [decide_eq_true hxy] at EQ
          have HXY := Lib.hid hxy
          clear hxy
          go_wp2
          go_quiet ((go_at_call 28; exact Calls.quiet_of_same (EQ.out _)))
          go_wp2
          go_roundw
          case rel =>
            refine ⟨k + 1, by omega, by go_num, fun y' hy' => ?_, below_drewN B.out _⟩
            rcases Nat.lt_or_ge y' k with h' | h'
            · exact ALL.out y' h'
            · obtain rfl : y' = k := by omega
              rw [← HX.out, ← HY.out]
              exact HXY.out
          case measure => simp [intOf]; omega
        · rw [decide_eq_false hxy] at EQ
          have HN := Lib.hid (NOK.out hxy)
          clear hxy
          go_wp2
          go_quiet ((go_at_call 28; exact Calls.quiet_of_same (EQ.out _)))
          go_wp2
          go_ret
          rw [HN.out]
          exact ⟨rfl, below_drewN B.out _⟩
      · obtain rfl : k = n := by omega
        have HY := Lib.hid (YES.out ALL.out)
        go_wp2
        go_ret
        rw [HY.out]
        exact ⟨rfl, hbel⟩
  · rw [show decide (a = b) = false from decide_eq_false fun e => hn (by rw [← ha.len, ← hb.len, e])]
    exact psame16_len A n c A' n' c' w hn
end Go.Proofs.Ytibegaoegpanpaa
