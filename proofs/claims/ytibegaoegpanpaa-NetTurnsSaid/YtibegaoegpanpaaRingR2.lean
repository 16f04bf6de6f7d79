/- Layer 4: the document's own: whether two queues are the same, whether one may be, a new one, its list. -/
import Derived.Test.YtibegaoegpanpaaRingR
import Derived.Test.YtibegaoegpanpaaDiskQ
import Derived.BigQuiet
namespace Go.Proofs.Ytibegaoegpanpaa
open Go.RowKit
set_option linter.unusedVariables false

theorem list_same {a b : List Text} {n : Nat} (ha : a.length = n) (hb : b.length = n) (h : ∀ y, y < n → a.getD y [] = b.getD y []) : a = b := by
  refine List.ext_getElem (ha.trans hb.symm) fun i h1 h2 => ?_
  have := h i (by omega)
  simpa [List.getD_eq_getElem?_getD, h1, h2] using this

theorem sameAll_len (A : Option Addr) (n c : Nat) (A' : Option Addr) (n' c' : Nat) (w : World) (hne : n ≠ n') :
    Calls Try.prog 16 #[.slice A n c, .slice A' n' c'] w fun e w' => e = .returned (.bool false) ∧ ∃ q, w' = w.drewN q := by
  have h2 : ¬ (n : Int) = (n' : Int) := by omega
  go_enter Try.func16, Try.ntmps16
  go_wp2
  go_ret
  exact ⟨rfl, 0, rfl⟩
set_option maxRecDepth 100000 in
set_option maxHeartbeats 1600000 in
theorem sameAll_any (A : Option Addr) (n c : Nat) (a : List Text) (A' : Option Addr) (n' c' : Nat) (b : List Text) (w : World) (ha : Texts w A n c a) (hb : Texts w A' n' c' b) :
    Calls Try.prog 16 #[.slice A n c, .slice A' n' c'] w fun e w' => e = .returned (.bool (decide (a = b))) ∧ ∃ q, w' = w.drewN q := by
  by_cases hn : n = n'
  · subst hn
    have HA := Lib.hid ha
    have HB := Lib.hid hb
    have hcm := Nat.le_trans ha.cap ha.max
    unfold maxLen at hcm
    have YES := Lib.hid fun h => (show decide (a = b) = true from decide_eq_true (list_same ha.len hb.len h))
    have NO := Lib.hid fun k (h : a.getD k [] ≠ b.getD k []) => (show decide (a = b) = false from decide_eq_false fun e => h (by rw [e]))
    obtain ⟨R, hR⟩ : ∃ R, R = decide (a = b) := ⟨_, rfl⟩
    rw [← hR] at YES NO ⊢
    clear ha hb hR
    go_enter Try.func16, Try.ntmps16
    go_wp2
    go_loopw [5] (fun i wr => ∃ k : Nat, k ≤ n ∧ i = .int .i64 k ∧ (∀ y, y < k → a.getD y [] = b.getD y []) ∧ ∃ q, wr = w.drewN q) (fun i _ => n - (intOf i).toNat)
    case atStart => exact ⟨0, Nat.zero_le _, rfl, fun y hy => by omega, 0, rfl⟩
    case round =>
      obtain ⟨k, hk, rfl, hall, q, rfl⟩ := hrel
      have ALL := Lib.hid hall
      clear hall
      by_cases hkn : k < n
      · obtain ⟨b1, o1, A1, n1, c1, rfl, hlt1, hc1, ha1⟩ := HA.out.at_ k hkn
        obtain ⟨b2, o2, A2, n2, c2, rfl, hlt2, hc2, ha2⟩ := HB.out.at_ k hkn
        have hst1 := fun q => run_str (P := Try.prog) (w.drewN q) 26 9 5 Try.underlying26 Try.underlying5 Try.underlying9 (c := c1) (ha1.seq.keep (w' := w.drewN q) fun _ _ => rfl) ha1.len
        have hst2 := fun q => run_str (P := Try.prog) (w.drewN q) 26 9 5 Try.underlying26 Try.underlying5 Try.underlying9 (c := c2) (ha2.seq.keep (w' := w.drewN q) fun _ _ => rfl) ha2.len
        have hse := strs_eq (HA.out.byte_at k) (HB.out.byte_at k)
        have NOK := Lib.hid (NO.out k)
        obtain ⟨x, hx⟩ : ∃ x, x = a.getD k [] := ⟨_, rfl⟩
        obtain ⟨y, hy⟩ : ∃ y, y = b.getD k [] := ⟨_, rfl⟩
        rw [← hx] at hst1 hse NOK
        rw [← hy] at hst2 hse NOK
        have HX := Lib.hid hx
        have HY := Lib.hid hy
        clear hx hy ha1 ha2
        by_cases hxy : x = y
        · have hse2 : ((strOfNums x).toList == (strOfNums y).toList) = true := hse.trans (decide_eq_true hxy)
          have HXY := Lib.hid hxy
          clear hxy hse
          go_wp2
          go_quiet (fail)
          go_wp2
          go_roundw
          case rel =>
            refine ⟨k + 1, by omega, by go_num, fun y' hy' => ?_, _, rfl⟩
            rcases Nat.lt_or_ge y' k with h' | h'
            · exact ALL.out y' h'
            · obtain rfl : y' = k := by omega
              rw [← HX.out, ← HY.out]
              exact HXY.out
          case measure => simp [intOf]; omega
        · have hse2 : ((strOfNums x).toList == (strOfNums y).toList) = false := hse.trans (decide_eq_false hxy)
          have HN := Lib.hid (NOK.out hxy)
          clear hxy hse
          go_wp2
          go_quiet (fail)
          go_wp2
          go_ret
          rw [HN.out]
          exact ⟨rfl, _, by rw [World.drewN_drewN]⟩
      · obtain rfl : k = n := by omega
        have HY := Lib.hid (YES.out ALL.out)
        go_wp2
        go_ret
        rw [HY.out]
        exact ⟨rfl, q, rfl⟩
  · rw [show decide (a = b) = false from decide_eq_false fun e => hn (by rw [← ha.len, ← hb.len, e])]
    exact sameAll_len A n c A' n' c' w hn

end Go.Proofs.Ytibegaoegpanpaa
