/- Layer 11: cmp.Compare of ints, sorted's closure, bits.Len of few. -/
import Derived.Test.YthoflogegopikaaRecM
namespace Go.Proofs.Ythoflogegopikaa
open Go.RowKit
set_option linter.unusedVariables false

def cmpI (a b : Int) : Int := if a < b then -1 else if b < a then 1 else 0
theorem cmpI_neg (a b : Int) : decide (cmpI a b < 0) = decide (a < b) := by
  unfold cmpI
  by_cases h : a < b
  · simp [h]
  · by_cases k : b < a <;> simp [h, k]
theorem pnan_any (n : Int) (w : World) : Calls Try.prog 62 #[.int .i64 n] w fun e w' => e = .returned (.bool false) ∧ w' = w := by
  have hb : (n != n) = false := by simp
  go_enter Try.func62, Try.ntmps62
  go_wp2
  go_ret
  exact ⟨rfl, rfl⟩
theorem pcompare_any (a b : Int) (w : World) : Calls Try.prog 56 #[.int .i64 a, .int .i64 b] w fun e w' => e = .returned (.int .i64 (cmpI a b)) ∧ w' = w := by
  have N := Lib.hid (fun n wx => pnan_any n wx)
  by_cases h : a < b
  · rw [show cmpI a b = -1 from if_pos h]
    go_enter Try.func56, Try.ntmps56
    go_wp2_with fail
    refine (N.out _ _).mono ?_
    rintro e w1 ⟨rfl, rfl⟩
    go_wp2_with fail
    refine (N.out _ _).mono ?_
    rintro e w2 ⟨rfl, rfl⟩
    go_wp2
    go_ret
    exact ⟨rfl, rfl⟩
  · by_cases k : b < a
    · rw [show cmpI a b = 1 from (if_neg h).trans (if_pos k)]
      go_enter Try.func56, Try.ntmps56
      go_wp2_with fail
      refine (N.out _ _).mono ?_
      rintro e w1 ⟨rfl, rfl⟩
      go_wp2_with fail
      refine (N.out _ _).mono ?_
      rintro e w2 ⟨rfl, rfl⟩
      go_wp2
      go_ret
      exact ⟨rfl, rfl⟩
    · rw [show cmpI a b = 0 from (if_neg h).trans (if_neg k)]
      go_enter Try.func56, Try.ntmps56
      go_wp2_with fail
      refine (N.out _ _).mono ?_
      rintro e w1 ⟨rfl, rfl⟩
      go_wp2_with fail
      refine (N.out _ _).mono ?_
      rintro e w2 ⟨rfl, rfl⟩
      go_wp2
      go_ret
      exact ⟨rfl, rfl⟩
set_option maxRecDepth 100000 in
set_option maxHeartbeats 1600000 in
theorem pclos_any (r s : Rc) (w : World) : Calls Try.prog 55 #[recV r, recV s] w fun e w' => e = .returned (.int .i64 (cmpI r.p s.p)) ∧ Below w.heap.size w w' := by
  obtain ⟨x, hbx⟩ := rec_box w r
  obtain ⟨y, hby⟩ := rec_box (w.alloc (.cells (recL r).toArray 24)) s
  have x2 := x.below hby x.lt
  have B := Lib.hid (hbx.trans (hby.mono hbx.size))
  have C := Lib.hid (fun wx => pcompare_any r.p s.p wx)
  obtain ⟨c0, c1, c2, c3, c4, c5, c6, c7⟩ := x2.rec
  obtain ⟨d0, d1, d2, d3, d4, d5, d6, d7⟩ := y.rec
  clear x y hbx hby x2 c1 c2 c3 c4 c5 c6 c7 d1 d2 d3 d4 d5 d6 d7
  go_enter Try.func55, Try.ntmps55
  go_wp2_with fail
  refine (C.out _).mono ?_
  rintro e w1 ⟨rfl, rfl⟩
  go_wp2
  go_ret
  exact ⟨rfl, B.out⟩

set_option maxRecDepth 100000 in
set_option maxHeartbeats 1600000 in
theorem plen64_0 (w : World) : Calls Try.prog 73 #[.int .u64 0] w fun e w' => (∃ k, e = .returned (.int .i64 k)) ∧ w' = w := by
  go_enter Try.func73, Try.ntmps73
  go_wp2
  go_ret
  exact ⟨⟨_, rfl⟩, rfl⟩
set_option maxRecDepth 100000 in
set_option maxHeartbeats 1600000 in
theorem plen64_1 (w : World) : Calls Try.prog 73 #[.int .u64 1] w fun e w' => (∃ k, e = .returned (.int .i64 k)) ∧ w' = w := by
  go_enter Try.func73, Try.ntmps73
  go_wp2
  go_ret
  exact ⟨⟨_, rfl⟩, rfl⟩
set_option maxRecDepth 100000 in
set_option maxHeartbeats 1600000 in
theorem plen64_2 (w : World) : Calls Try.prog 73 #[.int .u64 2] w fun e w' => (∃ k, e = .returned (.int .i64 k)) ∧ w' = w := by
  go_enter Try.func73, Try.ntmps73
  go_wp2
  go_ret
  exact ⟨⟨_, rfl⟩, rfl⟩
set_option maxRecDepth 100000 in
set_option maxHeartbeats 1600000 in
theorem plen64_3 (w : World) : Calls Try.prog 73 #[.int .u64 3] w fun e w' => (∃ k, e = .returned (.int .i64 k)) ∧ w' = w := by
  go_enter Try.func73, Try.ntmps73
  go_wp2
  go_ret
  exact ⟨⟨_, rfl⟩, rfl⟩
end Go.Proofs.Ythoflogegopikaa
