/- Layer 16, the law's: alive. No statement is proved here. -/
import Derived.Test.YtibegaoegpanpaaNtD
import Derived.Test.YtibegaoegpanpaaLits
namespace Go.Proofs.Ytibegaoegpanpaa
open Go.RowKit
set_option linter.unusedVariables false
set_option maxRecDepth 100000

set_option maxHeartbeats 6400000 in
theorem alive16_of (ND : NetDoes) (w : World) : Calls Try.prog 9 #[] w fun e w' => e = .returned (.bool true) ∧ Below w.heap.size w w' := by
  have hml : (1000 : Nat) ≤ maxLen := by decide
  have HML := Lib.hid hml
  have PP := Lib.hid ND
  have ST : strOfNums [98] = ⟨#[98]⟩ := by decide
  have ST := Lib.hid ST
  have kc := fun (w : World) (C : Array Value) (n c : Nat) => Lib.run_convert_bytes_const (P := Try.prog) w 26 5 C n c Try.underlying26 Try.underlying5
  have K : Below w.heap.size w (w.alloc (.cells (ints .u8 [97]).toArray 5 (1, 2))) := (Below.refl _ _).alloc (Nat.le_refl _) _
  have N := Lib.hid (PP.out.send none 0 0 [] (some ⟨w.heap.size, 0, none⟩) 1 1 [97] (w.alloc (.cells (ints .u8 [97]).toArray 5 (1, 2))) (Texts.nil _) small_nil (lit_text w _ (1, 2) [97] 1 rfl rfl (by have := HML.out; omega)) (few_bytes _ (by decide)) (by decide))
  have B := Lib.hid K
  clear ND hml K
  go_enter Try.func9, Try.ntmps9
  go_wp2_with fail
  refine N.out.mono ?_
  intro e w1 hout
  obtain ⟨A1, c1, rfl, hown, hb⟩ := hout.is (q' := [[97]]) (E' := 0) (n := 1) (by kernel_rfl) (by kernel_rfl) rfl
  have B := Lib.hid (B.out.trans (hb.mono B.out.size))
  have T1 := Texts.of_own hown
  have K : Below w1.heap.size w1 (w1.alloc (.cells (ints .u8 [98]).toArray 5 (1, 2))) := (Below.refl _ _).alloc (Nat.le_refl _) _
  have N := Lib.hid (PP.out.send A1 1 c1 [[97]] (some ⟨w1.heap.size, 0, none⟩) 1 1 [98] (w1.alloc (.cells (ints .u8 [98]).toArray 5 (1, 2))) (T1.below K) (few_small _ (by decide)) (lit_text w1 _ (1, 2) [98] 1 rfl rfl (by have := HML.out; omega)) (few_bytes _ (by decide)) (by decide))
  have B := Lib.hid (B.out.trans (K.mono B.out.size))
  clear hout hown hb T1 K
  go_wp2_with fail
  refine N.out.mono ?_
  intro e w2 hout
  obtain ⟨A2, c2, rfl, hown, hb⟩ := hout.is (q' := [[97], [98]]) (E' := 0) (n := 2) (by kernel_rfl) (by kernel_rfl) rfl
  have B := Lib.hid (B.out.trans (hb.mono B.out.size))
  have T2 := Texts.of_own hown
  have N := Lib.hid (PP.out.twice A2 2 c2 [[97], [98]] 0 w2 T2 (few_small _ (by decide)))
  clear hout hown hb T2
  go_wp2_with fail
  refine N.out.mono ?_
  intro e w3 hout
  obtain ⟨A3, c3, rfl, hown, _, hb⟩ := hout.is (q' := [[97], [98], [97]]) (E' := 0) (n := 3) (by kernel_rfl) (by kernel_rfl) rfl
  have B := Lib.hid (B.out.trans (hb.mono B.out.size))
  have T3 := Lib.hid (Texts.of_own hown)
  have N := Lib.hid (PP.out.take A3 3 c3 [[97], [98], [97]] 1 w3 T3.out (few_small _ (by decide)))
  clear hout hown hb
  go_wp2_with fail
  refine N.out.mono ?_
  intro e w4 hout
  obtain ⟨A4, c4, A5, c5, rfl, hown, hrow, hb⟩ := hout.is (q' := [[97], [97]]) (b' := [98]) (E' := 0) (n := 2) (k := 1) (by kernel_rfl) (by kernel_rfl) (by kernel_rfl) rfl rfl
  have B := Lib.hid (B.out.trans (hb.mono B.out.size))
  have T3 := Lib.hid (T3.out.below hb)
  have T4 := Lib.hid (Texts.of_own hown)
  have X4 := Lib.hid (Arg.own hrow)
  clear hout hown hrow hb N
  have l1 : Arg (w4.alloc (.cells #[.int .u8 97] 5 (1, 2))) .u8 (some ⟨w4.heap.size, 0, none⟩) 1 1 [97] := lit_text w4 w4.heap.size (1, 2) [97] 1 rfl rfl (by have := HML.out; omega)
  obtain ⟨s1, hs1⟩ : ∃ x : World, x = w4.alloc (.cells #[.int .u8 97] 5 (1, 2)) := ⟨_, rfl⟩
  have z1 : s1.heap.size = w4.heap.size + 1 := by rw [hs1, World.size_alloc]
  have k1 : Below w4.heap.size w4 s1 := by rw [hs1]; exact (Below.refl _ _).alloc (Nat.le_refl _) _
  rw [← hs1] at l1
  have l2 : Arg (s1.alloc (.cells #[.int .u8 98] 5 (1, 2))) .u8 (some ⟨w4.heap.size + 1, 0, none⟩) 1 1 [98] := lit_text s1 (w4.heap.size + 1) (1, 2) [98] 1 z1.symm rfl (by have := HML.out; omega)
  have d2 := conv_lit s1 (w4.heap.size + 1) #[.int .u8 98] 1 1 1 z1.symm rfl
  obtain ⟨s2, hs2⟩ : ∃ x : World, x = s1.alloc (.cells #[.int .u8 98] 5 (1, 2)) := ⟨_, rfl⟩
  have z2 : s2.heap.size = w4.heap.size + 1 + 1 := by rw [hs2, World.size_alloc, z1]
  have k2 : Below s1.heap.size s1 s2 := by rw [hs2]; exact (Below.refl _ _).alloc (Nat.le_refl _) _
  rw [← hs2] at l2
  have l3 : Arg (s2.alloc (.cells #[.int .u8 97] 5 (1, 2))) .u8 (some ⟨w4.heap.size + 1 + 1, 0, none⟩) 1 1 [97] := lit_text s2 (w4.heap.size + 1 + 1) (1, 2) [97] 1 z2.symm rfl (by have := HML.out; omega)
  have d3 := conv_lit s2 (w4.heap.size + 1 + 1) #[.int .u8 97] 1 1 1 z2.symm rfl
  obtain ⟨s3, hs3⟩ : ∃ x : World, x = s2.alloc (.cells #[.int .u8 97] 5 (1, 2)) := ⟨_, rfl⟩
  have z3 : s3.heap.size = w4.heap.size + 1 + 1 + 1 := by rw [hs3, World.size_alloc, z2]
  have k3 : Below s2.heap.size s2 s3 := by rw [hs3]; exact (Below.refl _ _).alloc (Nat.le_refl _) _
  rw [← hs3] at l3
  have tl := lit_three (b := w4.heap.size + 1 + 1 + 1) z3.symm ((l1.below k2).below k3) (l2.below k3) l3 (few_bytes _ (by decide)) (few_bytes _ (by decide)) (few_bytes _ (by decide))
  obtain ⟨s4, hs4⟩ : ∃ x : World, x = s3.alloc (.cells #[.slice (some ⟨w4.heap.size, 0, none⟩) 1 1, .slice (some ⟨w4.heap.size + 1, 0, none⟩) 1 1, .slice (some ⟨w4.heap.size + 1 + 1, 0, none⟩) 1 1] 26) := ⟨_, rfl⟩
  have k4 : Below s3.heap.size s3 s4 := by rw [hs4]; exact (Below.refl _ _).alloc (Nat.le_refl _) _
  rw [← hs4] at tl
  have kk : Below w4.heap.size w4 s4 := k1.trans ((k2.trans ((k3.trans (k4.mono k3.size)).mono k2.size)).mono k1.size)
  have S := Lib.hid (sameAll_any A3 3 c3 _ _ 3 3 _ s4 (T3.out.below kk) tl)
  have B := Lib.hid (B.out.trans (kk.mono B.out.size))
  have T4 := Lib.hid (T4.out.below kk)
  have X4 := Lib.hid (X4.out.below kk)
  rw [show decide (([[97], [98], [97]] : List Text) = [[97], [98], [97]]) = true from decide_eq_true rfl] at S
  rw [hs1] at d2
  rw [hs2, hs1] at d3
  rw [hs4, hs3, hs2, hs1] at S
  clear l1 l2 l3 tl k1 k2 k3 k4 kk z1 z2 z3 T3
  go_wp2_with fail
  rw [← hs1, ← hs2, ← hs3, ← hs4]
  rw [← hs1, ← hs2, ← hs3, ← hs4] at S
  refine S.out.mono ?_
  rintro e w5 ⟨rfl, r, hr⟩
  have hb5 : Below s4.heap.size s4 w5 := by rw [hr]; exact below_drewN (Below.refl _ _) r
  have B := Lib.hid (B.out.trans (hb5.mono B.out.size))
  have T4 := Lib.hid (T4.out.below hb5)
  have X4 := Lib.hid (X4.out.below hb5)
  clear S hs1 hs2 hs3 hs4 d2 d3 hr hb5
  have hst := str_arg0 X4.out
  rw [ST.out] at hst
  have l1 : Arg (w5.alloc (.cells #[.int .u8 97] 5 (1, 2))) .u8 (some ⟨w5.heap.size, 0, none⟩) 1 1 [97] := lit_text w5 w5.heap.size (1, 2) [97] 1 rfl rfl (by have := HML.out; omega)
  obtain ⟨s1, hs1⟩ : ∃ x : World, x = w5.alloc (.cells #[.int .u8 97] 5 (1, 2)) := ⟨_, rfl⟩
  have z1 : s1.heap.size = w5.heap.size + 1 := by rw [hs1, World.size_alloc]
  have k1 : Below w5.heap.size w5 s1 := by rw [hs1]; exact (Below.refl _ _).alloc (Nat.le_refl _) _
  rw [← hs1] at l1
  have l2 : Arg (s1.alloc (.cells #[.int .u8 97] 5 (1, 2))) .u8 (some ⟨w5.heap.size + 1, 0, none⟩) 1 1 [97] := lit_text s1 (w5.heap.size + 1) (1, 2) [97] 1 z1.symm rfl (by have := HML.out; omega)
  have d2 := conv_lit s1 (w5.heap.size + 1) #[.int .u8 97] 1 1 1 z1.symm rfl
  obtain ⟨s2, hs2⟩ : ∃ x : World, x = s1.alloc (.cells #[.int .u8 97] 5 (1, 2)) := ⟨_, rfl⟩
  have z2 : s2.heap.size = w5.heap.size + 1 + 1 := by rw [hs2, World.size_alloc, z1]
  have k2 : Below s1.heap.size s1 s2 := by rw [hs2]; exact (Below.refl _ _).alloc (Nat.le_refl _) _
  rw [← hs2] at l2
  have tl := lit_two (b := w5.heap.size + 1 + 1) z2.symm (l1.below k2) l2 (few_bytes _ (by decide)) (few_bytes _ (by decide))
  obtain ⟨s3, hs3⟩ : ∃ x : World, x = s2.alloc (.cells #[.slice (some ⟨w5.heap.size, 0, none⟩) 1 1, .slice (some ⟨w5.heap.size + 1, 0, none⟩) 1 1] 26) := ⟨_, rfl⟩
  have k3 : Below s2.heap.size s2 s3 := by rw [hs3]; exact (Below.refl _ _).alloc (Nat.le_refl _) _
  rw [← hs3] at tl
  have kk : Below w5.heap.size w5 s3 := k1.trans ((k2.trans (k3.mono k2.size)).mono k1.size)
  have S := Lib.hid (sameAll_any A4 2 c4 _ _ 2 2 _ s3 (T4.out.below kk) tl)
  have B := Lib.hid (B.out.trans (kk.mono B.out.size))
  rw [show decide (([[97], [97]] : List Text) = [[97], [97]]) = true from decide_eq_true rfl] at S
  rw [hs1] at d2
  clear l1 l2 tl k1 k2 k3 kk z1 z2 T4
  go_wp2_with fail
  rw [← hs1, ← hs2, ← hs3]
  refine S.out.mono ?_
  rintro e w6 ⟨rfl, r, hr⟩
  have B := Lib.hid (show Below w.heap.size w w6 by rw [hr]; exact below_drewN B.out r)
  clear S hs1 hs2 hs3 d2 hr hst
  go_wp2
  go_ret
  exact ⟨rfl, B.out⟩
end Go.Proofs.Ytibegaoegpanpaa
