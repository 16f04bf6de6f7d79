/- Layer 3, BitsNames: the walk: the examples hold. -/
import Derived.Test.YtpkecbejnpkieaaBitsL
namespace Go.Proofs.Ytpkecbejnpkieaa
open Go.RowKit
set_option linter.unusedVariables false

set_option maxRecDepth 100000 in
set_option maxHeartbeats 3200000 in
theorem walk_BitsNames (w : World) :
    Calls Try.prog 3 #[] w fun e w' => e = .returned (.bool true) ∧ Below w.heap.size w w' := by
  have hml : (1000 : Nat) ≤ maxLen := by decide
  have e1 : strOfNums [2, 2] = ⟨#[2, 2]⟩ := by decide
  have e2 : strOfNums [255, 1] = ⟨#[255, 1]⟩ := by decide
  have E1 := Lib.hid e1
  have E2 := Lib.hid e2
  clear e1 e2
  go_enter Try.func3, Try.ntmps3
  go_wp2_with fail
  have x1 := Next_any 10 _ 2 2 [2, 3] 9 _ (lit_arg w 5 .u8 [2, 3] 2 rfl (by omega)) (tiny_byte _ rfl)
  rw [show nextV 10 [2, 3] 9 = 9 by kernel_rfl, show trkE 10 [2, 3] 9 = 0 by kernel_rfl] at x1
  refine x1.mono ?_
  clear x1
  rintro e w1 ⟨rfl, hbel⟩
  have B1 := Lib.hid (((Below.refl w.heap.size w).alloc (Nat.le_refl _) (.cells (ints .u8 [2, 3]).toArray 5)).trans (hbel.mono (by simp)))
  clear hbel
  go_wp2_with fail
  have x2 := Minus_any 10 (some ⟨w1.heap.size, 0, none⟩) 2 2 [2, 3] (some ⟨w1.heap.size + 1, 0, none⟩) 2 2 [0, 1] ((w1.alloc (.cells (ints .u8 [2, 3]).toArray 5)).alloc (.cells (ints .u8 [0, 1]).toArray 5))
    ((lit_arg w1 5 .u8 [2, 3] 2 rfl (by omega)).below ((Below.refl _ _).alloc (Nat.le_refl _) _)) (tiny_byte _ rfl)
    (by have := lit_arg (w1.alloc (.cells (ints .u8 [2, 3]).toArray 5)) 5 .u8 [0, 1] 2 rfl (by omega); rwa [World.size_alloc] at this) (tiny_byte _ rfl)
  refine x2.mono ?_
  clear x2
  intro e w2 hout
  obtain ⟨A2, c2, rfl, hown, hbel⟩ := hout.is (zs' := [2, 2]) (E' := 0) (by kernel_rfl) (by kernel_rfl) rfl
  have B2 := Lib.hid (((B1.out.alloc B1.out.size (.cells (ints .u8 [2, 3]).toArray 5)).alloc (by have := B1.out.size; simp; omega) (.cells (ints .u8 [0, 1]).toArray 5)).trans (hbel.mono (by have := B1.out.size; simp; omega)))
  have S2 := Lib.hid (Arg.own hown)
  clear hout hown hbel B1
  have x3 := Of_any 17 none 0 0 [] w2 (Arg.nil w2 .i64)
  have X3 := Lib.hid x3
  clear x3
  go_wp2_with fail
  refine X3.out.mono ?_
  intro e w3 hout
  obtain ⟨A3, c3, rfl, hown, hbel⟩ := hout.is (zs' := []) (E' := 2) (by kernel_rfl) (by kernel_rfl) rfl
  have B3 := Lib.hid (B2.out.trans (hbel.mono B2.out.size))
  have S3 := Lib.hid (S2.out.below hbel)
  clear hout hown hbel B2 S2 X3
  go_wp2_with fail
  have x4 := Of_any 10 _ 1 1 [10] _ (lit_arg w3 3 .i64 [10] 1 rfl (by omega))
  refine x4.mono ?_
  clear x4
  intro e w4 hout
  obtain ⟨A4, c4, rfl, hown, hbel⟩ := hout.is (zs' := []) (E' := 2) (by kernel_rfl) (by kernel_rfl) rfl
  have B4 := Lib.hid ((B3.out.alloc B3.out.size (.cells (ints .i64 [10]).toArray 3)).trans (hbel.mono (by have := B3.out.size; simp; omega)))
  have S4 := Lib.hid ((S3.out.below ((Below.refl _ _).alloc (Nat.le_refl _) (.cells (ints .i64 [10]).toArray 3))).below hbel)
  clear hout hown hbel B3 S3
  go_wp2_with fail
  have x5 := Next_any 3 _ 1 1 [0] 0 _ (lit_arg w4 5 .u8 [0] 1 rfl (by omega)) (tiny_byte _ rfl)
  rw [show nextV 3 [0] 0 = -1 by kernel_rfl, show trkE 3 [0] 0 = 0 by kernel_rfl] at x5
  refine x5.mono ?_
  clear x5
  rintro e w5 ⟨rfl, hbel⟩
  have B5 := Lib.hid ((B4.out.alloc B4.out.size (.cells (ints .u8 [0]).toArray 5)).trans (hbel.mono (by have := B4.out.size; simp; omega)))
  have S5 := Lib.hid ((S4.out.below ((Below.refl _ _).alloc (Nat.le_refl _) (.cells (ints .u8 [0]).toArray 5))).below hbel)
  clear hbel B4 S4
  go_wp2_with fail
  have x6 := Next_any 3 _ 1 1 [1] 2 _ (lit_arg w5 5 .u8 [1] 1 rfl (by omega)) (tiny_byte _ rfl)
  rw [show nextV 3 [1] 2 = 0 by kernel_rfl, show trkE 3 [1] 2 = 0 by kernel_rfl] at x6
  refine x6.mono ?_
  clear x6
  rintro e w6 ⟨rfl, hbel⟩
  have B6 := Lib.hid ((B5.out.alloc B5.out.size (.cells (ints .u8 [1]).toArray 5)).trans (hbel.mono (by have := B5.out.size; simp; omega)))
  have S6 := Lib.hid ((S5.out.below ((Below.refl _ _).alloc (Nat.le_refl _) (.cells (ints .u8 [1]).toArray 5))).below hbel)
  clear hbel B5 S5
  have X7 := Lib.hid (All_any 9 w6)
  go_wp2_with fail
  refine X7.out.mono ?_
  intro e w7 hout
  obtain ⟨A7, c7, rfl, hown, hbel⟩ := hout.is (zs' := [255, 1]) (E' := 0) (by kernel_rfl) (by kernel_rfl) rfl
  have B7 := Lib.hid (B6.out.trans (hbel.mono B6.out.size))
  have S7 := Lib.hid (S6.out.below hbel)
  have T7 := Lib.hid (Arg.own hown)
  clear hout hown hbel B6 S6 X7
  go_wp2_with fail
  refine (alive_any w7).mono ?_
  rintro e w8 ⟨rfl, hbel⟩
  have B8 := Lib.hid (B7.out.trans (hbel.mono B7.out.size))
  have S8 := Lib.hid (S7.out.below hbel)
  have T8 := Lib.hid (T7.out.below hbel)
  have hst1 := run_str (P := Try.prog) w8 25 9 5 Try.underlying25 Try.underlying5 Try.underlying9 (c := c2) S8.out.seq (show ([2, 2] : List Int).length = 2 from rfl)
  rw [E1.out] at hst1
  clear hbel B7 S7 T7
  go_wp2_with fail
  have x9 := check_any 10 _ 2 2 [0, 4] _ (lit_arg w8 5 .u8 [0, 4] 2 rfl (by omega)) (tiny_byte _ rfl)
  rw [show chk 10 [0, 4] = 8 by kernel_rfl] at x9
  refine x9.mono ?_
  clear x9 hst1
  rintro e w9 ⟨rfl, rfl⟩
  have B9 := Lib.hid (B8.out.alloc B8.out.size (.cells (ints .u8 [0, 4]).toArray 5))
  have T9 := Lib.hid (T8.out.below ((Below.refl _ _).alloc (Nat.le_refl _) (.cells (ints .u8 [0, 4]).toArray 5)))
  have hst2 := run_str (P := Try.prog) _ 25 9 5 Try.underlying25 Try.underlying5 Try.underlying9 (c := c7) T9.out.seq (show ([255, 1] : List Int).length = 2 from rfl)
  rw [E2.out] at hst2
  go_wp2_with fail
  have x10 := check_any 0 none 0 0 [] (w8.alloc (.cells (ints .u8 [0, 4]).toArray 5)) (Arg.nil _ .u8) (by simp)
  rw [show chk 0 [] = 2 by kernel_rfl] at x10
  refine x10.mono ?_
  clear x10 hst2
  rintro e w10 ⟨rfl, rfl⟩
  go_wp2_with fail
  have x11 := check_any 8 _ 2 2 [0, 0] _ (lit_arg (w8.alloc (.cells (ints .u8 [0, 4]).toArray 5)) 5 .u8 [0, 0] 2 rfl (by omega)) (tiny_byte _ rfl)
  rw [show chk 8 [0, 0] = 8 by kernel_rfl, World.size_alloc] at x11
  refine x11.mono ?_
  clear x11
  rintro e w11 ⟨rfl, rfl⟩
  go_wp2
  go_ret
  exact ⟨rfl, B9.out.alloc B9.out.size _⟩

end Go.Proofs.Ytpkecbejnpkieaa
