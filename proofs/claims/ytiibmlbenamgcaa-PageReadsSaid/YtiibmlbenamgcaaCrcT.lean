/- Layer 2: what the document's own Seal and Open return, in the words of CrcMath. -/
import Derived.Test.YtiibmlbenamgcaaCrcS
import Derived.Test.YtiibmlbenamgcaaCopy
import Derived.Test.YtiibmlbenamgcaaBase3
import Derived.Deep.RegionWith
import Derived.Lib.Bytes
namespace Go.Proofs.Ytiibmlbenamgcaa
open Go.RowKit
set_option linter.unusedVariables false

/-- What a call hands back: a row of its own, and nothing that was there has turned. -/
def OneOut (k : IntKind) (t : TypeId) (w : World) (zs : List Int) (n : Nat) (e : Ending) (w' : World) : Prop :=
  ∃ A c, e = .returned (.slice A n c) ∧ w'.ownsRow w.heap.size t 1 (.slice A n c) n (ints k zs) ∧ Below w.heap.size w w'

theorem map_byte_inj : ∀ (x y : List Int), (∀ z ∈ x, isByte z) → (∀ z ∈ y, isByte z) → (x.map fun n => UInt8.ofNat n.toNat) = (y.map fun n => UInt8.ofNat n.toNat) → x = y := by
  intro x
  induction x with
  | nil => intro y _ _ h; cases y with
    | nil => rfl
    | cons b y => cases h
  | cons a x ih =>
    intro y hx hy h
    cases y with
    | nil => cases h
    | cons b y =>
      simp only [List.map_cons, List.cons.injEq] at h
      have ha := hx a (by simp)
      have hb := hy b (by simp)
      unfold isByte at ha hb
      have e : (UInt8.ofNat a.toNat).toNat = (UInt8.ofNat b.toNat).toNat := by rw [h.1]
      rw [UInt8.toNat_ofNat', UInt8.toNat_ofNat'] at e
      have e2 : a = b := by omega
      rw [e2, ih y (fun z hz => hx z (by simp [hz])) (fun z hz => hy z (by simp [hz])) h.2]
/-- Two texts that are read the same are the same bytes. -/
theorem str_ne {x y : List Int} (hx : ∀ z ∈ x, isByte z) (hy : ∀ z ∈ y, isByte z) (h : x ≠ y) : ((strOfNums x).toList == (strOfNums y).toList) = false := by
  rw [beq_eq_false_iff_ne]
  intro e
  rw [Lib.toList_data, Lib.toList_data, strOfNums_data, strOfNums_data] at e
  exact h (map_byte_inj x y hx hy e)

end Go.Proofs.Ytiibmlbenamgcaa
