/- Layer 3: the document's own small functions: a power, a track of a set, Check, Has, what two sets' first error is. -/
import Derived.Test.YtiibmlbenamgcaaBitsO
import Derived.BigQuiet
namespace Go.Proofs.Ytiibmlbenamgcaa
open Go.RowKit
set_option linter.unusedVariables false
set_option maxRecDepth 100000

set_option maxHeartbeats 400000 in
theorem power_any (k : Nat) (w : World) (hk : k < 8) : Calls Try.prog 76 #[.int .i64 (k : Int)] w fun e w' => e = .returned (.int .i64 ((2 ^ k : Nat) : Int)) ∧ w = w' := by
  obtain ⟨P, hP⟩ : ∃ P, P = 2 ^ k := ⟨_, rfl⟩
  rw [← hP]
  have HP := Lib.hid hP
  clear hP
  go_enter Try.func76, Try.ntmps76
  go_wp2
  go_loop [3, 4] (fun n i => ∃ j : Nat, j ≤ k ∧ i = .int .i64 j ∧ n = .int .i64 ((2 ^ j : Nat) : Int)) (fun _ i => k - (intOf i).toNat)
  case atStart => exact ⟨0, Nat.zero_le _, rfl, rfl⟩
  case round =>
    obtain ⟨j, hj, rfl, rfl⟩ := hrel
    have hp : 2 ^ j < 2 ^ 8 := Nat.pow_lt_pow_right (by decide) (by omega)
    have hs : 2 ^ (j + 1) = 2 * 2 ^ j := by rw [Nat.pow_succ, Nat.mul_comm]
    obtain ⟨y, hy⟩ : ∃ y, y = 2 ^ j := ⟨_, rfl⟩
    rw [← hy] at hp hs ⊢
    have HS := Lib.hid hs
    have hp2 : y < 256 := hp
    have HY := Lib.hid hy
    clear hs hy hp
    by_cases hjk : j < k
    · go_wp2
      go_round
      case rel => exact ⟨j + 1, by omega, by go_num, by rw [HS.out]; go_num⟩
      case measure => simp [intOf]; omega
    · obtain rfl : j = k := by omega
      obtain rfl : P = y := HP.out.trans HY.out.symm
      go_wp2
      go_ret
      exact ⟨rfl, rfl⟩

theorem in_bit {x i : Nat} : (x / 2 ^ i % 2 == 1) = x.testBit i := by
  rw [Nat.testBit_eq_decide_div_mod_eq]
  rfl
end Go.Proofs.Ytiibmlbenamgcaa
