/- Layer 2: what the document's own sums return, in the words of CrcMath. -/
/- Layer 2, package crc: a sum's four bytes are put down, and taken out again. -/
import Derived.Test.YtiibmlbenamgcaaCrc
namespace Go.Proofs.Ytiibmlbenamgcaa
open Go.RowKit
set_option linter.unusedVariables false

theorem u32_trn_r (x : Nat) (h : x < 4294967296) : bits .xor .u32 (x : Int) 4294967295 = ((trn x : Nat) : Int) := by
  rw [trn_eq, ones_eq, Nat.xor_comm]
  exact u32_xor_nat x 4294967295 h (by omega)

end Go.Proofs.Ytiibmlbenamgcaa

namespace Go.Proofs.Ytiibmlbenamgcaa
open Go.RowKit
set_option linter.unusedVariables false

theorem or_le (y v k : Nat) (hy : y < 2 ^ (8 * k)) (hv : v < 256) (hk : k < 4) :
    bits .or .u32 (y : Int) ((v : Int) * 2 ^ (8 * k) % 4294967296) = ((y + v * 2 ^ (8 * k) : Nat) : Int) := by
  have h1 : v * 2 ^ (8 * k) < 4294967296 := by
    rcases (show k = 0 ∨ k = 1 ∨ k = 2 ∨ k = 3 by omega) with rfl | rfl | rfl | rfl <;> omega
  have h2 : y < 4294967296 := by
    rcases (show k = 0 ∨ k = 1 ∨ k = 2 ∨ k = 3 by omega) with rfl | rfl | rfl | rfl <;> omega
  have e : ((v : Int) * 2 ^ (8 * k) % 4294967296) = ((v * 2 ^ (8 * k) : Nat) : Int) := by
    have e1 : ((v : Int) * 2 ^ (8 * k)) = ((v * 2 ^ (8 * k) : Nat) : Int) := by rw [Int.natCast_mul, Int.natCast_pow]; rfl
    rw [e1]
    omega
  rw [e, u32_or_nat y _ h2 h1]
  have := Nat.two_pow_add_eq_or_of_lt hy v
  rw [Nat.or_comm, Nat.mul_comm, ← this, Nat.add_comm]

theorem le4_put (s : Nat) (P M : List Int) {n k : Nat} (hP : P.length = n) (hM : M.length = 4) (hk : k < 4) :
    (P ++ (le4 s).take k ++ M.drop k).set (n + k) ((s / 2 ^ (8 * k) % 256 : Nat) : Int) = P ++ (le4 s).take (k + 1) ++ M.drop (k + 1) := by
  subst hP
  match M, hM with
  | [a, b, c, d], _ =>
    rw [List.append_assoc, List.set_append, if_neg (by omega), show P.length + k - P.length = k from by omega, List.append_assoc]
    congr 1
    rcases (show k = 0 ∨ k = 1 ∨ k = 2 ∨ k = 3 by omega) with rfl | rfl | rfl | rfl <;> simp [le4]

end Go.Proofs.Ytiibmlbenamgcaa
