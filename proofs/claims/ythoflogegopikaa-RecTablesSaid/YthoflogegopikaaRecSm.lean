/- Layer 11: TwinAll and SameAll, told for texts. -/
import Derived.Test.YthoflogegopikaaRecFind
import Derived.Test.YthoflogegopikaaRecR5
import Derived.BigQuiet
import Derived.Lib.Bytes
import Derived.WalkMore
import Derived.ScopeJumps
import Derived.StillTailTactics
namespace Go.Proofs.Ythoflogegopikaa
open Go.RowKit
set_option linter.unusedVariables false

structure SmallT (q : List Txt) : Prop where
  many : q.length ≤ 100
  long : ∀ t ∈ q, t.length ≤ 200
theorem SmallT.at_ {q : List Txt} (h : SmallT q) (k : Nat) : (q.getD k []).length ≤ 200 := by
  rcases Nat.lt_or_ge k q.length with hk | hk
  · rw [List.getD_eq_getElem?_getD, List.getElem?_eq_getElem hk]
    exact h.long _ (List.getElem_mem hk)
  · rw [List.getD_eq_getElem?_getD, List.getElem?_eq_none hk]
    simp
set_option maxRecDepth 100000 in
set_option maxHeartbeats 1600000 in
theorem twin11_all (A : Option Addr) (n c : Nat) (q : List Txt) (w : World) (hq : Texts w A n c q) (hs : SmallT q) :
    Calls Try.prog 19 #[.slice A n c] w fun e w' => ∃ A' c', e = .returned (.slice A' n c') ∧ OwnTexts w' w.heap.size A' n c' q ∧ Below w.heap.size w w' := by
  obtain ⟨i0, hi0, hz0, hz1, hz2⟩ := info_parts byte_info
  obtain ⟨i1, hi1, hy0, hy1, hy2⟩ := info_parts texts_info
  have hml : (1000 : Nat) ≤ maxLen := by decide
  have hn := hs.many
  rw [hq.len] at hn
  have HQ := Lib.hid hq
  have HS := Lib.hid hs
  have TF := Lib.hid (show q.take n = q by rw [← hq.len, List.take_length])
  have TS := Lib.hid (fun k (hk : k < n) => show q.take (k + 1) = q.take k ++ [q.getD k []] by
    rw [List.take_succ_eq_append_getElem (by rw [hq.len]; exact hk)]
    simp [List.getD_eq_getElem?_getD, show k < q.length by rw [hq.len]; exact hk])
  clear hq hs
  go_enter Try.func19, Try.ntmps19
  go_wp2
  go_loopw [3, 4] (fun v i wr => ∃ k : Nat, k ≤ n ∧ i = .int .i64 k ∧ (∃ A' c', v = .slice A' k c' ∧ OwnTexts wr w.heap.size A' k c' (q.take k)) ∧ Below w.heap.size w wr) (fun _ i _ => n - (intOf i).toNat)
  case atStart => exact ⟨0, Nat.zero_le _, rfl, ⟨none, 0, rfl, OwnTexts.nil _ _⟩, Below.refl _ _⟩
  case round =>
    obtain ⟨k, hk, rfl, ⟨A1, c1, rfl, hown⟩, hbel⟩ := hrel
    by_cases hkn : k < n
    · obtain ⟨b, o, Ai, ni, ci, rfl, hlt, hc, ha⟩ := (HQ.out.below hbel).at_ k hkn
      have hby := HQ.out.byte_at k
      have hsm := HS.out.at_ k
      have hst := TS.out k hkn
      obtain ⟨t, ht⟩ : ∃ t, t = q.getD k [] := ⟨_, rfl⟩
      rw [← ht] at ha hby hsm hst
      obtain ⟨Q, hQ⟩ : ∃ Q, Q = q.take k := ⟨_, rfl⟩
      rw [← hQ] at hown hst
      have hni : ni ≤ 200 := by rw [← ha.len]; exact hsm
      have hc2 : (wr.alloc (.cells #[] 5)).cell? ⟨b, o + k, none⟩ = some (.slice Ai ni ci) := (World.cell?_alloc_lt wr _ _ hlt).trans hc
      have HST := Lib.hid hst
      have HA := Lib.hid ha
      have HBY := Lib.hid hby
      have O := Lib.hid hown
      have B := Lib.hid hbel
      clear ht hQ hown hbel ha hby hst
      go_wp2_with (first
        | (at_builtin; (refine wpList_dup_g wr rfl (.tmp 12) (.tmp 16) _ rfl 5 i0 _ 1 Try.underlying26 hi0 hz0 hz1 hz2 rfl rfl Ai ni ci (ints .u8 t) rfl (by rw [ints_length, HA.out.len]) HA.out.seq (ints_one _ _) (by omega) (by omega) ?_); intro A2 c2 w2 hown2 hbel2; have O2 := Lib.hid hown2; have B2 := Lib.hid hbel2; clear hown2 hbel2)
        | (at_builtin; go_must (refine wpList_text w w2 rfl (.tmp 11) (.tmp 18) _ rfl i1 _ Try.underlying33 hi1 hy0 hy1 hy2 rfl w.heap.size A1 k c1 Q rfl (O.out.below B2.out) A2 ni c2 t HBY.out (owns_base O2.out B.out.size) rfl (by omega) (by omega) (B.out.trans (B2.out.mono B.out.size)) (Nat.le_refl _) ?_); intro A3 c3 w3 hown3 hbel3; have O3 := Lib.hid hown3; have B3 := Lib.hid hbel3; clear hown3 hbel3))
      go_roundw
      case rel => exact ⟨k + 1, by omega, by go_num, ⟨A3, c3, rfl, by rw [HST.out]; exact O3.out⟩, B3.out⟩
      case measure => simp [intOf]; omega
    · obtain rfl : k = n := by omega
      rw [TF.out] at hown
      have O := Lib.hid hown
      have B := Lib.hid hbel
      clear hown hbel
      go_wp2
      go_ret
      exact ⟨A1, c1, rfl, O.out, B.out⟩
theorem list_same11 {a b : List Txt} {n : Nat} (ha : a.length = n) (hb : b.length = n) (h : ∀ y, y < n → a.getD y [] = b.getD y []) : a = b := by
  refine List.ext_getElem (ha.trans hb.symm) fun i h1 h2 => ?_
  have := h i (by omega)
  simpa [List.getD_eq_getElem?_getD, h1, h2] using this

theorem sall11_len (A : Option Addr) (n c : Nat) (A' : Option Addr) (n' c' : Nat) (w : World) (hne : n ≠ n') :
    Calls Try.prog 28 #[.slice A n c, .slice A' n' c'] w fun e w' => e = .returned (.bool false) ∧ ∃ q, w' = w.drewN q := by
  have h2 : ¬ (n : Int) = (n' : Int) := by omega
  go_enter Try.func28, Try.ntmps28
  go_wp2
  go_ret
  exact ⟨rfl, 0, rfl⟩
set_option maxRecDepth 100000 in
set_option maxHeartbeats 1600000 in
theorem sall11_any (A : Option Addr) (n c : Nat) (a : List Txt) (A' : Option Addr) (n' c' : Nat) (b : List Txt) (w : World) (ha : Texts w A n c a) (hb : Texts w A' n' c' b) :
    Calls Try.prog 28 #[.slice A n c, .slice A' n' c'] w fun e w' => e = .returned (.bool (decide (a = b))) ∧ ∃ q, w' = w.drewN q := by
  by_cases hn : n = n'
  · subst hn
    have HA := Lib.hid ha
    have HB := Lib.hid hb
    have hcm := Nat.le_trans ha.cap ha.max
    unfold maxLen at hcm
    have YES := Lib.hid fun h => (show decide (a = b) = true from decide_eq_true (list_same11 ha.len hb.len h))
    have NO := Lib.hid fun k (h : a.getD k [] ≠ b.getD k []) => (show decide (a = b) = false from decide_eq_false fun e => h (by rw [e]))
    obtain ⟨R, hR⟩ : ∃ R, R = decide (a = b) := ⟨_, rfl⟩
    rw [← hR] at YES NO ⊢
    clear ha hb hR
    go_enter Try.func28, Try.ntmps28
    go_wp2
    go_loopw [5] (fun i wr => ∃ k : Nat, k ≤ n ∧ i = .int .i64 k ∧ (∀ y, y < k → a.getD y [] = b.getD y []) ∧ ∃ q, wr = w.drewN q) (fun i _ => n - (intOf i).toNat)
    case atStart => exact ⟨0, Nat.zero_le _, rfl, fun y hy => by omega, 0, rfl⟩
    case round =>
      obtain ⟨k, hk, rfl, hall, q, rfl⟩ := hrel
      have ALL := Lib.hid hall
      clear hall
      by_cases hkn : k < n
      · obtain ⟨b1, o1, A1, n1, c1, rfl, hlt1, hc1, ha1⟩ := HA.out.at_ k hkn
        obtain ⟨b2, o2, A2, n2, c2, rfl, hlt2, hc2, ha2⟩ := HB.out.at_ k hkn
        have hst1 := fun q => run_str (P := Try.prog) (w.drewN q) 26 9 5 Try.underlying26 Try.underlying5 Try.underlying9 (c := c1) (ha1.seq.keep (w' := w.drewN q) fun _ _ => rfl) ha1.len
        have hst2 := fun q => run_str (P := Try.prog) (w.drewN q) 26 9 5 Try.underlying26 Try.underlying5 Try.underlying9 (c := c2) (ha2.seq.keep (w' := w.drewN q) fun _ _ => rfl) ha2.len
        have hse := strs_eq (HA.out.byte_at k) (HB.out.byte_at k)
        have NOK := Lib.hid (NO.out k)
        obtain ⟨x, hx⟩ : ∃ x, x = a.getD k [] := ⟨_, rfl⟩
        obtain ⟨y, hy⟩ : ∃ y, y = b.getD k [] := ⟨_, rfl⟩
        rw [← hx] at hst1 hse NOK
        rw [← hy] at hst2 hse NOK
        have HX := Lib.hid hx
        have HY := Lib.hid hy
        clear hx hy ha1 ha2
        by_cases hxy : x = y
        · have hse2 : ((strOfNums x).toList == (strOfNums y).toList) = true := hse.trans (decide_eq_true hxy)
          have HXY := Lib.hid hxy
          clear hxy hse
          go_wp2
          go_quiet (fail)
          go_wp2
          go_roundw
          case rel =>
            refine ⟨k + 1, by omega, by go_num, fun y' hy' => ?_, _, rfl⟩
            rcases Nat.lt_or_ge y' k with h' | h'
            · exact ALL.out y' h'
            · obtain rfl : y' = k := by omega
              rw [← HX.out, ← HY.out]
              exact HXY.out
          case measure => simp [intOf]; omega
        · have hse2 : ((strOfNums x).toList == (strOfNums y).toList) = false := hse.trans (decide_eq_false hxy)
          have HN := Lib.hid (NOK.out hxy)
          clear hxy hse
          go_wp2
          go_quiet (fail)
          go_wp2
          go_ret
          rw [HN.out]
          exact ⟨rfl, _, by rw [World.drewN_drewN]⟩
      · obtain rfl : k = n := by omega
        have HY := Lib.hid (YES.out ALL.out)
        go_wp2
        go_ret
        rw [HY.out]
        exact ⟨rfl, q, rfl⟩
  · rw [show decide (a = b) = false from decide_eq_false fun e => hn (by rw [← ha.len, ← hb.len, e])]
    exact sall11_len A n c A' n' c' w hn
end Go.Proofs.Ythoflogegopikaa
