/- Texts of bytes as strings: different bytes read as different strings. Nothing of the program. -/
import Derived.Test.YteinfkjlcpfeiaaBase3
import Derived.Lib.Bytes
namespace Go.Proofs.Yteinfkjlcpfeiaa
open Go.RowKit
set_option linter.unusedVariables false

theorem bytes_inj : ∀ (x y : List Int), (∀ z ∈ x, isByte z) → (∀ z ∈ y, isByte z) → (x.map fun n => UInt8.ofNat n.toNat) = (y.map fun n => UInt8.ofNat n.toNat) → x = y := by
  intro x
  induction x with
  | nil => intro y _ _ h; cases y with
    | nil => rfl
    | cons b y => cases h
  | cons a x ih =>
    intro y hx hy h
    cases y with
    | nil => cases h
    | cons b y =>
      simp only [List.map_cons, List.cons.injEq] at h
      have ha := hx a (by simp)
      have hb := hy b (by simp)
      unfold isByte at ha hb
      have e : (UInt8.ofNat a.toNat).toNat = (UInt8.ofNat b.toNat).toNat := by rw [h.1]
      rw [UInt8.toNat_ofNat', UInt8.toNat_ofNat'] at e
      have e2 : a = b := by omega
      rw [e2, ih y (fun z hz => hx z (by simp [hz])) (fun z hz => hy z (by simp [hz])) h.2]
/-- The test of two texts that are read as strings. -/
theorem strs_eq {x y : List Int} (hx : ∀ z ∈ x, isByte z) (hy : ∀ z ∈ y, isByte z) : ((strOfNums x).toList == (strOfNums y).toList) = decide (x = y) := by
  by_cases h : x = y
  · subst h; simp
  · rw [decide_eq_false h, beq_eq_false_iff_ne]
    intro e
    rw [Lib.toList_data, Lib.toList_data, strOfNums_data, strOfNums_data] at e
    exact h (bytes_inj x y hx hy e)

end Go.Proofs.Yteinfkjlcpfeiaa
