/- Layer 16, NetNames: the walk, told of what the program's calls do. No statement is proved here. -/
import Derived.Test.YtibegaoegpanpaaNtA
namespace Go.Proofs.Ytibegaoegpanpaa
open Go.RowKit
set_option linter.unusedVariables false
set_option maxRecDepth 100000

theorem make_nets (n : Nat) (hn : n ≤ 100) (w : World) :
    (Instr.makeSlice 22 (.int .i64 (n : Int)) (.int .i64 (n : Int))).run Try.prog w = .ok (.slice (some ⟨w.heap.size, 0, none⟩) n n) (w.alloc (.cells (List.replicate n (.slice none 0 0)).toArray 26)) := by
  obtain ⟨i0, hi0, hz0, hz1, hz2⟩ := info_parts texts_info
  have hml : (1000 : Nat) ≤ maxLen := by decide
  exact run_make1 (P := Try.prog) 22 26 i0 _ Try.underlying22 hi0 hz0 hz1 rfl n (by rw [hz2]; omega) (by omega) w
theorem texts_nets (n : Nat) (hn : n ≤ 100) (w : World) : Texts (w.alloc (.cells (List.replicate n (.slice none 0 0)).toArray 26)) (some ⟨w.heap.size, 0, none⟩) n n (List.replicate n []) := by
  have x := Blk.new w 26 (List.replicate n (.slice none 0 0))
  have hml : (1000 : Nat) ≤ maxLen := by decide
  refine ⟨List.length_replicate, Nat.le_refl _, by omega, fun zs hz z hzz => ?_, fun i hi => ?_⟩
  · rw [List.eq_of_mem_replicate hz] at hzz
    cases hzz
  · refine ⟨_, 0, none, 0, 0, rfl, x.lt, ?_, ?_⟩
    · rw [x.cell, Nat.zero_add, List.getElem?_replicate, if_pos hi]
    · rw [List.getD_eq_getElem?_getD, List.getElem?_replicate, if_pos hi]
      exact Arg.nil _ _
theorem small_nets (n : Nat) (hn : n ≤ 100) : Small (List.replicate n []) := ⟨by rw [List.length_replicate]; exact hn, fun t ht => by rw [List.eq_of_mem_replicate ht]; decide⟩
theorem lit_one {w : World} {b : Nat} (hb0 : b = w.heap.size) {A : Option Addr} {n c : Nat} {x : Text} (hx : Arg w .u8 A n c x) (bx : ∀ v ∈ x, isByte v) :
    Texts (w.alloc (.cells #[.slice A n c] 26)) (some ⟨b, 0, none⟩) 1 1 [x] := by
  subst hb0
  have hb : Below w.heap.size w (w.alloc (.cells #[.slice A n c] 26)) := (Below.refl _ _).alloc (Nat.le_refl _) _
  have x1 := Blk.new w 26 [.slice A n c]
  refine ⟨rfl, Nat.le_refl _, by decide, fun zs hzs => ?_, fun i hi => ?_⟩
  · rw [List.mem_singleton.1 hzs]; exact bx
  · match i, hi with
    | 0, _ => exact ⟨_, 0, A, n, c, rfl, x1.lt, x1.cell 0, hx.below hb⟩
theorem sd64 : (sdL (List.replicate 64 []) [120]).length = 64 ∧ ntE (List.replicate 64 []) = 0 := by decide
theorem tw64 : (twL (List.replicate 64 []) 3).length = 64 ∧ ntE2 (List.replicate 64 []) 3 = 0 := by decide
theorem sd65 : sdL (List.replicate 65 []) [] = [] ∧ ntE (List.replicate 65 []) = 8 := by decide
theorem tk0 : tkL [] 0 = [] ∧ tkB [] 0 = [] ∧ ntE2 [] 0 = 2 := by decide
theorem tw1 : twL [[1]] (-1) = [] ∧ ntE2 [[1]] (-1) = 2 := by decide

set_option maxHeartbeats 6400000 in
theorem names16_of (ND : NetDoes) (w : World) : Calls Try.prog 3 #[] w fun e w' => e = .returned (.bool true) ∧ Below w.heap.size w w' := by
  have hml : (1000 : Nat) ≤ maxLen := by decide
  have HML := Lib.hid hml
  have PP := Lib.hid ND
  have kc := fun (w : World) (C : Array Value) (n c : Nat) => Lib.run_convert_bytes_const (P := Try.prog) w 26 5 C n c Try.underlying26 Try.underlying5
  have mk : (Instr.makeSlice 22 (.int .i64 64) (.int .i64 64)).run Try.prog w = .ok (.slice (some ⟨w.heap.size, 0, none⟩) 64 64) (w.alloc (.cells (List.replicate 64 (.slice none 0 0)).toArray 26)) := make_nets 64 (by decide) w
  have T0 := texts_nets 64 (by decide) w
  obtain ⟨V0, hV0⟩ : ∃ V : Array Value, V = (List.replicate 64 (.slice none 0 0)).toArray := ⟨_, rfl⟩
  rw [← hV0] at mk T0
  have K : Below w.heap.size w (w.alloc (.cells V0 26)) := (Below.refl _ _).alloc (Nat.le_refl _) _
  obtain ⟨w1, hw1⟩ : ∃ x : World, x = w.alloc (.cells V0 26) := ⟨_, rfl⟩
  rw [← hw1] at T0 K
  rw [← hw1] at mk
  have B := Lib.hid K
  have T0 := Lib.hid T0
  have K : Below w1.heap.size w1 (w1.alloc (.cells (ints .u8 [120]).toArray 5 (1, 2))) := (Below.refl _ _).alloc (Nat.le_refl _) _
  have N := Lib.hid (PP.out.send _ 64 64 _ (some ⟨w1.heap.size, 0, none⟩) 1 1 [120] _ (T0.out.below K) (small_nets 64 (by decide)) (lit_text w1 _ (1, 2) [120] 1 rfl rfl (by have := HML.out; omega)) (few_bytes _ (by decide)) (by decide))
  have B2 := Lib.hid (B.out.trans (K.mono B.out.size))
  have T0 := Lib.hid (T0.out.below K)
  clear ND hml K hV0 hw1
  go_enter Try.func3, Try.ntmps3
  go_wp2_with fail
  refine N.out.mono ?_
  intro e w2 hout
  rw [sd64.2] at hout
  obtain ⟨A1, c1, rfl, _, hb⟩ := hout.is rfl rfl sd64.1
  have B := Lib.hid (B2.out.trans (hb.mono B2.out.size))
  have T0 := Lib.hid (T0.out.below hb)
  have N := Lib.hid (PP.out.twice _ 64 64 _ 3 _ T0.out (small_nets 64 (by decide)))
  clear hout hb mk
  go_wp2_with fail
  refine N.out.mono ?_
  intro e w3 hout
  obtain ⟨A2, c2, rfl, _, _, hb⟩ := hout.is rfl tw64.2 tw64.1
  have B := Lib.hid (B.out.trans (hb.mono B.out.size))
  have mk : (Instr.makeSlice 22 (.int .i64 65) (.int .i64 65)).run Try.prog w3 = .ok (.slice (some ⟨w3.heap.size, 0, none⟩) 65 65) (w3.alloc (.cells (List.replicate 65 (.slice none 0 0)).toArray 26)) := make_nets 65 (by decide) w3
  have T1 := texts_nets 65 (by decide) w3
  obtain ⟨V1, hV1⟩ : ∃ V : Array Value, V = (List.replicate 65 (.slice none 0 0)).toArray := ⟨_, rfl⟩
  rw [← hV1] at mk T1
  have K : Below w3.heap.size w3 (w3.alloc (.cells V1 26)) := (Below.refl _ _).alloc (Nat.le_refl _) _
  obtain ⟨w4, hw4⟩ : ∃ x : World, x = w3.alloc (.cells V1 26) := ⟨_, rfl⟩
  rw [← hw4] at T1 K mk
  have B := Lib.hid (B.out.trans (K.mono B.out.size))
  have N := Lib.hid (PP.out.send _ 65 65 _ none 0 0 [] _ T1 (small_nets 65 (by decide)) (Arg.nil _ _) (fun z hz => by cases hz) (by decide))
  rw [sd65.1, sd65.2] at N
  clear hout hb K T1 T0 hV1 hw4
  go_wp2_with fail
  refine N.out.mono ?_
  intro e w5 hout
  obtain ⟨A3, c3, rfl, _, hb⟩ := hout.is rfl rfl rfl
  have B := Lib.hid (B.out.trans (hb.mono B.out.size))
  have N := Lib.hid (PP.out.take none 0 0 [] 0 w5 (Texts.nil _) small_nil)
  rw [tk0.1, tk0.2.1, tk0.2.2] at N
  clear hout hb mk
  go_wp2_with fail
  refine N.out.mono ?_
  intro e w6 hout
  obtain ⟨A4, c4, A5, c5, rfl, _, _, hb⟩ := hout.is rfl rfl rfl rfl rfl
  have B := Lib.hid (B.out.trans (hb.mono B.out.size))
  have l1 : Arg (w6.alloc (.cells #[.int .u8 1] 5)) .u8 (some ⟨w6.heap.size, 0, none⟩) 1 1 [1] := lit_text w6 w6.heap.size (0, 0) [1] 1 rfl rfl (by have := HML.out; omega)
  obtain ⟨s1, hs1⟩ : ∃ x : World, x = w6.alloc (.cells #[.int .u8 1] 5) := ⟨_, rfl⟩
  have z1 : s1.heap.size = w6.heap.size + 1 := by rw [hs1, World.size_alloc]
  have k1 : Below w6.heap.size w6 s1 := by rw [hs1]; exact (Below.refl _ _).alloc (Nat.le_refl _) _
  rw [← hs1] at l1
  have tl := lit_one (b := w6.heap.size + 1) z1.symm l1 (few_bytes _ (by decide))
  obtain ⟨s2, hs2⟩ : ∃ x : World, x = s1.alloc (.cells #[.slice (some ⟨w6.heap.size, 0, none⟩) 1 1] 26) := ⟨_, rfl⟩
  have k2 : Below s1.heap.size s1 s2 := by rw [hs2]; exact (Below.refl _ _).alloc (Nat.le_refl _) _
  rw [← hs2] at tl
  have kk : Below w6.heap.size w6 s2 := k1.trans (k2.mono k1.size)
  have B := Lib.hid (B.out.trans (kk.mono B.out.size))
  have N := Lib.hid (PP.out.twice _ 1 1 [[1]] (-1) s2 tl (few_small _ (by decide)))
  clear hout hb l1 tl k1 k2 kk z1
  go_wp2_with fail
  rw [← hs1, ← hs2]
  refine N.out.mono ?_
  intro e w7 hout
  obtain ⟨A6, c6, rfl, _, _, hb⟩ := hout.is tw1.1 tw1.2 rfl
  have B := Lib.hid (B.out.trans (hb.mono B.out.size))
  have AL := Lib.hid (alive16_of PP.out w7)
  clear hout hb hs1 hs2 N
  go_wp2_with fail
  refine AL.out.mono ?_
  rintro e w8 ⟨rfl, hb⟩
  have B := Lib.hid (B.out.trans (hb.mono B.out.size))
  clear hb AL
  go_wp2
  go_ret
  exact ⟨rfl, B.out⟩
end Go.Proofs.Ytibegaoegpanpaa
