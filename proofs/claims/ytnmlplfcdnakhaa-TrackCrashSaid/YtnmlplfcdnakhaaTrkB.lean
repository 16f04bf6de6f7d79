/- Layer 8: a config, a disk and four numbers, each in its box. -/
import Derived.Test.YtnmlplfcdnakhaaTrkA
import Derived.Laws.IdiomArrays
namespace Go.Proofs.Ytnmlplfcdnakhaa
open Go.RowKit
set_option linter.unusedVariables false

structure ABox (w : World) (G : Nat) (P T A M W Q : Int) (D : Option Addr) (n c : Nat) (D' : Option Addr) (n' c' : Nat) (S : List Sec) (C : List Pnd) (l0 l1 l2 l3 : Int) : Prop where
  two : TBox w G P T A M W Q D n c D' n' c' S C
  arr : Blk w (G + 2) 107 [.int .i64 l0, .int .i64 l1, .int .i64 l2, .int .i64 l3]
section
variable {w w' : World} {G : Nat} {P T A M W Q l0 l1 l2 l3 : Int} {D D' : Option Addr} {n c n' c' : Nat} {S : List Sec} {C : List Pnd}
theorem ABox.below (x : ABox w G P T A M W Q D n c D' n' c' S C l0 l1 l2 l3) (hb : Below w.heap.size w w') : ABox w' G P T A M W Q D n c D' n' c' S C l0 l1 l2 l3 := ⟨x.two.below hb, x.arr.below hb x.arr.lt⟩
theorem ABox.new (P T A M W Q l0 l1 l2 l3 : Int) (t : Dsk w D n c D' n' c' S C) : ABox (((w.alloc (.cells #[.int .i64 P, .int .i64 T, .int .i64 A, .int .i64 M, .int .i64 W, .int .i64 Q] 74)).alloc (.cells #[.slice D n c, .slice D' n' c'] 32)).alloc (.cells #[.int .i64 l0, .int .i64 l1, .int .i64 l2, .int .i64 l3] 107)) w.heap.size P T A M W Q D n c D' n' c' S C l0 l1 l2 l3 ∧ Below w.heap.size w (((w.alloc (.cells #[.int .i64 P, .int .i64 T, .int .i64 A, .int .i64 M, .int .i64 W, .int .i64 Q] 74)).alloc (.cells #[.slice D n c, .slice D' n' c'] 32)).alloc (.cells #[.int .i64 l0, .int .i64 l1, .int .i64 l2, .int .i64 l3] 107)) := by
  obtain ⟨x, hb⟩ := TBox.new P T A M W Q t
  have hk := (Below.refl ((w.alloc (.cells #[.int .i64 P, .int .i64 T, .int .i64 A, .int .i64 M, .int .i64 W, .int .i64 Q] 74)).alloc (.cells #[.slice D n c, .slice D' n' c'] 32)).heap.size _).alloc (Nat.le_refl _) (.cells #[.int .i64 l0, .int .i64 l1, .int .i64 l2, .int .i64 l3] 107)
  have y := Blk.new ((w.alloc (.cells #[.int .i64 P, .int .i64 T, .int .i64 A, .int .i64 M, .int .i64 W, .int .i64 Q] 74)).alloc (.cells #[.slice D n c, .slice D' n' c'] 32)) 107 [.int .i64 l0, .int .i64 l1, .int .i64 l2, .int .i64 l3]
  rw [World.size_alloc, World.size_alloc] at y
  exact ⟨⟨x.below hk, y⟩, hb.alloc hb.size _⟩
theorem ABox.cells (x : ABox w G P T A M W Q D n c D' n' c' S C l0 l1 l2 l3) : w.cell? ⟨G, 0, none⟩ = some (.int .i64 P) ∧ w.cell? ⟨G, 1, none⟩ = some (.int .i64 T) ∧ w.cell? ⟨G, 2, none⟩ = some (.int .i64 A) ∧ w.cell? ⟨G, 3, none⟩ = some (.int .i64 M) ∧ w.cell? ⟨G, 4, none⟩ = some (.int .i64 W) ∧ w.cell? ⟨G, 5, none⟩ = some (.int .i64 Q) ∧
    w.cell? ⟨G + 1, 0, none⟩ = some (.slice D n c) ∧ w.cell? ⟨G + 1, 1, none⟩ = some (.slice D' n' c') ∧ w.cell? ⟨G + 2, 0, none⟩ = some (.int .i64 l0) ∧ w.cell? ⟨G + 2, 1, none⟩ = some (.int .i64 l1) ∧ w.cell? ⟨G + 2, 2, none⟩ = some (.int .i64 l2) ∧ w.cell? ⟨G + 2, 3, none⟩ = some (.int .i64 l3) := by
  obtain ⟨c0, c1, c2, c3, c4, c5, d0, d1⟩ := x.two.cells
  exact ⟨c0, c1, c2, c3, c4, c5, d0, d1, x.arr.cell 0, x.arr.cell 1, x.arr.cell 2, x.arr.cell 3⟩
theorem ABox.lt (x : ABox w G P T A M W Q D n c D' n' c' S C l0 l1 l2 l3) : G < w.heap.size := x.two.lt
end

set_option maxRecDepth 100000 in
/-- What a law's frame hands over: four numbers. -/
theorem open_four {H : Type} {enc : TypeId × Value → H} {W : World} {b0 : Nat} {r : Reach} {v : Value} {d : DataW H} {p : List MemPlace} (hv : Value.okWide Try.prog W r b0 107 v) (h : DataW.Trod enc Try.prog W 0 (fun _ => true) true 107 v d p) :
    ∃ l0 l1 l2 l3, v = .agg #[.int .i64 l0, .int .i64 l1, .int .i64 l2, .int .i64 l3] ∧ (Lit.int .i64 l0).wf = true ∧ (Lit.int .i64 l1).wf = true ∧ (Lit.int .i64 l2).wf = true ∧ (Lit.int .i64 l3).wf = true := by
  obtain ⟨cs, rfl, hsz, _⟩ : ∃ cs, v = .agg cs ∧ cs.size = Try.prog.cellsOf 107 ∧ Row.okWide Try.prog W r b0 107 cs := by
    simpa [Value.okWide, Try.underlying107] using hv
  rw [show Try.prog.cellsOf 107 = 4 by kernel_rfl] at hsz
  obtain ⟨l⟩ := cs
  match l, hsz with
  | [c0, c1, c2, c3], _ =>
    obtain ⟨fuel, hf⟩ := h
    obtain ⟨y0, y1, y2, y3, m, hx, g0, g1, g2, g3⟩ := Go.ChangeShapes.trod_array4 Try.underlying107 (by kernel_rfl) hf
    obtain ⟨z0, e0, _, w0⟩ := DataW.trod_int Try.underlying3 g0
    obtain ⟨z1, e1, _, w1⟩ := DataW.trod_int Try.underlying3 g1
    obtain ⟨z2, e2, _, w2⟩ := DataW.trod_int Try.underlying3 g2
    obtain ⟨z3, e3, _, w3⟩ := DataW.trod_int Try.underlying3 g3
    injection e0 with e0 _
    injection e1 with e1 _
    injection e2 with e2 _
    injection e3 with e3 _
    subst e0; subst e1; subst e2; subst e3
    exact ⟨z0, z1, z2, z3, rfl, w0, w1, w2, w3⟩
end Go.Proofs.Ytnmlplfcdnakhaa
