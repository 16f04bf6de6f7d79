/- Layer 4, RingNames: the walk: numbers, the chapter's example, and queues that may not be. -/
import Derived.Test.YtbbnfbclbhkneaaRingA
namespace Go.Proofs.Ytbbnfbclbhkneaa
open Go.RowKit
set_option linter.unusedVariables false

theorem RingDoes.checks (P : RingDoes) (h m : Int) (q : List Text) (E : Int) (hq : (decide (q.length ≤ 100) && q.all (fun l => decide (l.length ≤ 200))) = true) (hE : chkQ q h m = E) (A : Option Addr) (n c : Nat) (w : World) (ht : Texts w A n c q) :
    Calls Try.prog 10 #[queueV A n c h m] w fun e w' => e = .returned (.int .i64 E) ∧ Below w.heap.size w w' := by
  subst hE
  exact P.check A n c h m q w ht (few_small q hq)

set_option maxRecDepth 100000 in
set_option maxHeartbeats 6400000 in
theorem names_of (P : RingDoes) (w : World) : Calls Try.prog 3 #[] w fun e w' => e = .returned (.bool true) ∧ Below w.heap.size w w' := by
  have hml : (1000 : Nat) ≤ maxLen := by decide
  have HML := Lib.hid hml
  have PP := Lib.hid P
  have AL := Lib.hid (alive_of P)
  have kc := fun (w : World) (C : Array Value) (n c : Nat) => Lib.run_convert_bytes_const (P := Try.prog) w 28 5 C n c Try.underlying28 Try.underlying5
  have B := Lib.hid (Below.refl w.heap.size w)
  clear P hml
  go_enter Try.func3, Try.ntmps3
  have N := Lib.hid (PP.out.new 0 w)
  go_wp2_with fail
  refine N.out.mono ?_
  intro e w1 hout
  obtain ⟨A1, c1, rfl, hown, hb⟩ := hout.is (q' := []) (h' := 0) (m' := 0) (E' := 2) (n := 0) (by kernel_rfl) rfl rfl (by kernel_rfl) (by kernel_rfl)
  have B := Lib.hid (B.out.trans (hb.mono B.out.size))
  clear N
  go_upto_region 2 with fail
  have X := QBox.new 0 0 (Texts.of_own hown)
  have K : Below w1.heap.size w1 (w1.alloc (.cells #[.slice A1 0 c1, .int .i64 0, .int .i64 0] 24)) := (Below.refl _ _).alloc (Nat.le_refl _) _
  have B := B.out.trans (K.mono B.out.size)
  obtain ⟨b1, hB⟩ : ∃ x, x = w1.heap.size := ⟨_, rfl⟩
  rw [← hB] at X ⊢
  obtain ⟨v1, hW⟩ : ∃ x : World, x = w1.alloc (.cells #[.slice A1 0 c1, .int .i64 0, .int .i64 0] 24) := ⟨_, rfl⟩
  rw [← hW] at X B  ⊢
  clear hB hW hout hown hb K
  have B := Lib.hid B
  have X := Lib.hid X
  clear X
  have N := Lib.hid (PP.out.new 65 v1)
  go_wp2_with fail
  refine N.out.mono ?_
  intro e w2 hout
  obtain ⟨A2, c2, rfl, hown, hb⟩ := hout.is (q' := []) (h' := 0) (m' := 0) (E' := 2) (n := 0) (by kernel_rfl) rfl rfl (by kernel_rfl) (by kernel_rfl)
  have B := Lib.hid (B.out.trans (hb.mono B.out.size))
  clear N
  go_upto_region 3 with fail
  have X := QBox.new 0 0 (Texts.of_own hown)
  have K : Below w2.heap.size w2 (w2.alloc (.cells #[.slice A2 0 c2, .int .i64 0, .int .i64 0] 24)) := (Below.refl _ _).alloc (Nat.le_refl _) _
  have B := B.out.trans (K.mono B.out.size)
  obtain ⟨b2, hB⟩ : ∃ x, x = w2.heap.size := ⟨_, rfl⟩
  rw [← hB] at X ⊢
  obtain ⟨v2, hW⟩ : ∃ x : World, x = w2.alloc (.cells #[.slice A2 0 c2, .int .i64 0, .int .i64 0] 24) := ⟨_, rfl⟩
  rw [← hW] at X B  ⊢
  clear hB hW hout hown hb K
  have B := Lib.hid B
  have X := Lib.hid X
  clear X
  have N := Lib.hid (PP.out.new 64 v2)
  go_wp2_with fail
  refine N.out.mono ?_
  intro e w3 hout
  obtain ⟨A3, c3, rfl, hown, hb⟩ := hout.is (q' := (List.replicate 64 [])) (h' := 0) (m' := 0) (E' := 0) (n := 64) (by kernel_rfl) rfl rfl (by kernel_rfl) (by kernel_rfl)
  have B := Lib.hid (B.out.trans (hb.mono B.out.size))
  clear N
  go_upto_region 4 with fail
  have XQ := QBox.new 0 0 (Texts.of_own hown)
  have K : Below w3.heap.size w3 (w3.alloc (.cells #[.slice A3 64 c3, .int .i64 0, .int .i64 0] 24)) := (Below.refl _ _).alloc (Nat.le_refl _) _
  have B := B.out.trans (K.mono B.out.size)
  obtain ⟨b3, hB⟩ : ∃ x, x = w3.heap.size := ⟨_, rfl⟩
  rw [← hB] at XQ ⊢
  obtain ⟨v3, hW⟩ : ∃ x : World, x = w3.alloc (.cells #[.slice A3 64 c3, .int .i64 0, .int .i64 0] 24) := ⟨_, rfl⟩
  rw [← hW] at XQ B  ⊢
  clear hB hW hout hown hb K
  have B := Lib.hid B
  have XQ := Lib.hid XQ
  obtain ⟨u0, u1, u2⟩ := XQ.out.cells
  have N := Lib.hid (PP.out.pop A3 64 c3 0 0 (List.replicate 64 []) v3 XQ.out.txt (few_small _ (by kernel_rfl)))
  go_wp2_with fail
  refine N.out.mono ?_
  intro e w4 hout
  obtain ⟨A4, c4, AC, cC, rfl, hown, hrow, hb⟩ := hout.is (q' := []) (h' := 0) (m' := 0) (b' := []) (E' := 6) (n := 0) (k := 0) (by kernel_rfl) (by kernel_rfl) (by kernel_rfl) (by kernel_rfl) (by kernel_rfl) rfl rfl
  have B := Lib.hid (B.out.trans (hb.mono B.out.size))
  have XQ := Lib.hid (XQ.out.below hb)
  clear N u0 u1 u2 hrow
  go_upto_region 5 with fail
  have X := QBox.new 0 0 (Texts.of_own hown)
  have K : Below w4.heap.size w4 (w4.alloc (.cells #[.slice A4 0 c4, .int .i64 0, .int .i64 0] 24)) := (Below.refl _ _).alloc (Nat.le_refl _) _
  have B := B.out.trans (K.mono B.out.size)
  have XQ := XQ.out.below K
  obtain ⟨b4, hB⟩ : ∃ x, x = w4.heap.size := ⟨_, rfl⟩
  rw [← hB] at X ⊢
  obtain ⟨v4, hW⟩ : ∃ x : World, x = w4.alloc (.cells #[.slice A4 0 c4, .int .i64 0, .int .i64 0] 24) := ⟨_, rfl⟩
  rw [← hW] at X B XQ ⊢
  clear hB hW hout hown hb K
  have XQ := Lib.hid XQ
  have B := Lib.hid B
  have X := Lib.hid X
  clear X
  have q1 := lit_text v4 v4.heap.size (1, 2) [120] 1 rfl rfl (by have := HML.out; omega)
  have TL := lit_two (b := v4.heap.size + 1) (by rw [World.size_alloc]) q1 (Arg.nil _ _) (few_bytes _ (by decide)) (by simp)
  have K : Below v4.heap.size v4 ((v4.alloc (.cells (ints .u8 [120]).toArray 5 (1, 2))).alloc (.cells #[.slice (some ⟨v4.heap.size, 0, none⟩) 1 1, .slice none 0 0] 28)) := ((Below.refl _ _).alloc (Nat.le_refl _) _).alloc (by simp) _
  have B := Lib.hid (B.out.trans (K.mono B.out.size))
  have XQ := Lib.hid (XQ.out.below K)
  have TL := Lib.hid TL
  have AL := Lib.hid (AL.out ((v4.alloc (.cells (ints .u8 [120]).toArray 5 (1, 2))).alloc (.cells #[.slice (some ⟨v4.heap.size, 0, none⟩) 1 1, .slice none 0 0] 28)))
  clear q1 K
  go_wp2_with fail
  refine AL.out.mono ?_
  rintro e w5 ⟨rfl, hb⟩
  have B := Lib.hid (B.out.trans (hb.mono B.out.size))
  have XQ := Lib.hid (XQ.out.below hb)
  have TL := Lib.hid (TL.out.below hb)
  clear hb
  obtain ⟨u0, u1, u2⟩ := XQ.out.cells
  have lt := XQ.out.lt
  have N := Lib.hid (PP.out.checks 0 0 [] 8 (by kernel_rfl) (by kernel_rfl) none 0 0 w5 (Texts.nil _))
  go_wp2_with fail
  refine N.out.mono ?_
  rintro e w6 ⟨rfl, hb⟩
  clear N u0 u1 u2 lt
  have B := Lib.hid (B.out.trans (hb.mono B.out.size))
  have XQ := Lib.hid (XQ.out.below hb)
  have TL := Lib.hid (TL.out.below hb)
  clear hb
  have N := Lib.hid (PP.out.checks 1 1 [[120], []] 8 (by kernel_rfl) (by kernel_rfl) (some ⟨v4.heap.size + 1, 0, none⟩) 2 2 w6 TL.out)
  go_wp2_with fail
  refine N.out.mono ?_
  rintro e w7 ⟨rfl, hb⟩
  clear N
  have B := Lib.hid (B.out.trans (hb.mono B.out.size))
  have XQ := Lib.hid (XQ.out.below hb)
  have TL := Lib.hid (TL.out.below hb)
  clear hb
  have N := Lib.hid (PP.out.checks 0 1 [[120], []] 0 (by kernel_rfl) (by kernel_rfl) (some ⟨v4.heap.size + 1, 0, none⟩) 2 2 w7 TL.out)
  go_wp2_with fail
  refine N.out.mono ?_
  rintro e w8 ⟨rfl, hb⟩
  clear N
  have B := Lib.hid (B.out.trans (hb.mono B.out.size))
  have XQ := Lib.hid (XQ.out.below hb)
  have TL := Lib.hid (TL.out.below hb)
  clear hb
  have N := Lib.hid (PP.out.checks 2 1 [[120], []] 8 (by kernel_rfl) (by kernel_rfl) (some ⟨v4.heap.size + 1, 0, none⟩) 2 2 w8 TL.out)
  go_wp2_with fail
  refine N.out.mono ?_
  rintro e w9 ⟨rfl, hb⟩
  clear N
  have B := Lib.hid (B.out.trans (hb.mono B.out.size))
  have XQ := Lib.hid (XQ.out.below hb)
  have TL := Lib.hid (TL.out.below hb)
  clear hb
  go_wp2
  go_ret
  exact ⟨rfl, B.out⟩

end Go.Proofs.Ytbbnfbclbhkneaa
