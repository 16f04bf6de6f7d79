/- Layer 7, package place: bounds, and the numbers of parts. No statement is proved here. -/
import Derived.Test.YtghdcajojbbllaaPlRef
import Derived.Deep.RegionHeld3
namespace Go.Proofs.Ytghdcajojbbllaa
open Go.RowKit
set_option linter.unusedVariables false

/-- A bound: a number, the least and the most that it may be. -/
abbrev Bnd := Int × Int × Int
def okBnd (b : Bnd) : Prop := b.2.1 ≤ b.1 ∧ b.1 ≤ b.2.2
/-- Bounds as they lie in a block. -/
def Bnds (w : World) (g n : Nat) (bs : List Bnd) : Prop := bs.length = n ∧ g < w.heap.size ∧ ∀ j, j < n → w.cell? ⟨g, j * 3, none⟩ = some (.int .i64 (bs.getD j (0, 0, 0)).1) ∧ w.cell? ⟨g, j * 3 + 1, none⟩ = some (.int .i64 (bs.getD j (0, 0, 0)).2.1) ∧ w.cell? ⟨g, j * 3 + 2, none⟩ = some (.int .i64 (bs.getD j (0, 0, 0)).2.2)
theorem Bnds.below {w w' : World} {g n : Nat} {bs : List Bnd} (h : Bnds w g n bs) (hb : Below w.heap.size w w') : Bnds w' g n bs :=
  ⟨h.1, Nat.lt_of_lt_of_le h.2.1 hb.size, fun j hj => by obtain ⟨a, b, c⟩ := h.2.2 j hj; exact ⟨(hb.cell h.2.1).trans a, (hb.cell h.2.1).trans b, (hb.cell h.2.1).trans c⟩⟩

set_option maxHeartbeats 1600000 in
theorem within_any (g n : Nat) (bs : List Bnd) (w : World) (h : Bnds w g n bs) (hn : n ≤ 100) (r : Bool) (hy : (∀ j, j < n → okBnd (bs.getD j (0, 0, 0))) → r = true) (hno : ∀ j, j < n → ¬ okBnd (bs.getD j (0, 0, 0)) → r = false) :
    Calls Try.prog 69 #[.slice (some ⟨g, 0, none⟩) n n] w fun e w' => e = .returned (.bool r) ∧ Below w.heap.size w w' := by
  have H := Lib.hid h
  have HY := Lib.hid hy
  have HN := Lib.hid hno
  clear h hy hno
  go_enter Try.func69, Try.ntmps69
  go_wp2
  go_loopw [7] (fun i wr => ∃ k : Nat, k ≤ n ∧ i = .int .i64 k ∧ (∀ y, y < k → okBnd (bs.getD y (0, 0, 0))) ∧ Below w.heap.size w wr) (fun i _ => n - (intOf i).toNat)
  case atStart => exact ⟨0, Nat.zero_le _, rfl, fun y hy => by omega, Below.refl _ _⟩
  case round =>
    obtain ⟨k, hk, rfl, hall, hbel⟩ := hrel
    have ALL := Lib.hid hall
    have BEL := Lib.hid hbel
    by_cases hkn : k < n
    · obtain ⟨c0, c1, c2⟩ := (H.out.below hbel).2.2 k hkn
      clear hall hbel
      obtain ⟨b, hb⟩ : ∃ b, b = bs.getD k (0, 0, 0) := ⟨_, rfl⟩
      rw [← hb] at c0 c1 c2
      obtain ⟨x, l, m⟩ := b
      simp only at c0 c1 c2
      have HB := Lib.hid hb
      clear hb
      have y := Blk.new wr 106 [.int .i64 x, .int .i64 l, .int .i64 m]
      have d0 := y.cell 0
      have d1 := y.cell 1
      have d2 := y.cell 2
      simp only [List.getElem?_cons_zero, List.getElem?_cons_succ] at d0 d1 d2
      have B2 := Lib.hid (BEL.out.alloc BEL.out.size (.cells #[.int .i64 x, .int .i64 l, .int .i64 m] 106))
      clear y
      by_cases h1 : x < l
      · have HR := Lib.hid (HN.out k hkn (by rw [← HB.out]; unfold okBnd; simp only; omega))
        go_wp2
        go_ret
        rw [HR.out]
        exact ⟨rfl, B2.out⟩
      · by_cases h2 : m < x
        · have HR := Lib.hid (HN.out k hkn (by rw [← HB.out]; unfold okBnd; simp only; omega))
          go_wp2
          go_ret
          rw [HR.out]
          exact ⟨rfl, B2.out⟩
        · have HO := Lib.hid (show okBnd (bs.getD k (0, 0, 0)) by rw [← HB.out]; unfold okBnd; simp only; omega)
          go_wp2
          go_roundw
          case rel =>
            refine ⟨k + 1, by omega, by go_num, fun y hy => ?_, B2.out⟩
            rcases Nat.lt_or_ge y k with h | h
            · exact ALL.out y h
            · obtain rfl : y = k := by omega
              exact HO.out
          case measure => simp [intOf]; omega
    · obtain rfl : k = n := by omega
      have HR := Lib.hid (HY.out fun y hy => ALL.out y hy)
      clear hall hbel
      go_wp2
      go_ret
      rw [HR.out]
      exact ⟨rfl, BEL.out⟩

end Go.Proofs.Ytghdcajojbbllaa
