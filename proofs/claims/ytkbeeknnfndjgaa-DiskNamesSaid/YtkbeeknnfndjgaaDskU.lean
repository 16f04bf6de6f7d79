/- Layer 5: the product of one and a small number, as math/bits has it; a byte repeated. -/
import Derived.Test.YtkbeeknnfndjgaaDskP
import Derived.Laws.BitsAllLaws
import Derived.Laws.ShiftsVarLaws
import Derived.Lib.QuoteBits
namespace Go.Proofs.Ytkbeeknnfndjgaa
open Go.RowKit
set_option linter.unusedVariables false

theorem and_low (m : Nat) (hm : m < 4294967296) : bits .and .u64 (m : Int) 4294967295 = (m : Int) := by
  have h := u64_and_nat m 4294967295 (by omega) (by omega)
  have e : m &&& 4294967295 = m := by
    have := Nat.and_two_pow_sub_one_eq_mod m 32
    rw [show (2 : Nat) ^ 32 - 1 = 4294967295 from rfl, show (2 : Nat) ^ 32 = 4294967296 from rfl] at this
    rw [this, Nat.mod_eq_of_lt hm]
  rw [e] at h
  exact h
theorem wrap_u64 (m : Nat) (hm : m < 4294967296) : IntKind.u64.wrap (m : Int) = (m : Int) := by
  simp [IntKind.wrap, IntKind.bits, IntKind.signed]
  omega
theorem mul64_any (m : Nat) (hm : m < 4294967296) (w : World) : Calls Try.prog 102 #[.int .u64 1, .int .u64 (m : Int)] w fun e w' => e = .returned (.tuple #[.int .u64 0, .int .u64 (m : Int)]) ∧ w' = w := by
  have h1 : bits .and .u64 1 4294967295 = 1 := and_low 1 (by decide)
  have h5 : bits .and .u64 0 4294967295 = 0 := and_low 0 (by decide)
  have h2 := and_low m hm
  have h3 : (m : Int) / 4294967296 = 0 := by omega
  have h4 := wrap_u64 m hm
  have h6 : IntKind.u64.wrap 0 = 0 := wrap_u64 0 (by decide)
  go_enter Try.func102, Try.ntmps102
  go_wp2
  go_ret2
  exact ⟨rfl, rfl⟩
theorem mul_any (m : Nat) (hm : m < 4294967296) (w : World) : Calls Try.prog 90 #[.int .u64 1, .int .u64 (m : Int)] w fun e w' => e = .returned (.tuple #[.int .u64 0, .int .u64 (m : Int)]) ∧ w' = w := by
  have MU := Lib.hid (mul64_any m hm w)
  have h4 := wrap_u64 m hm
  go_enter Try.func90, Try.ntmps90
  go_wp2_with fail
  refine MU.out.mono ?_
  rintro e w' ⟨rfl, rfl⟩
  go_wp2
  go_ret2
  exact ⟨rfl, rfl⟩

end Go.Proofs.Ytkbeeknnfndjgaa
