/- Layer 4: a queue as a value: what a law's frame hands over, and its boxes. No statement is proved here. -/
import Derived.Test.YtbbnfbclbhkneaaTexts
namespace Go.Proofs.Ytbbnfbclbhkneaa
open Go.RowKit Go.OpenShut Go.ChangeShapes Go.WideShapes Go.Deep Go.Joins
set_option linter.unusedVariables false

/-- A queue's value. -/
abbrev queueV (A : Option Addr) (n c : Nat) (h m : Int) : Value := .agg #[.slice A n c, .int .i64 h, .int .i64 m]
theorem open_queue {H : Type} {enc : TypeId × Value → H} {W : World} {b0 : Nat} {r : Reach} {v : Value} {d : DataW H} {p : List MemPlace} (hv : Value.okWide Try.prog W r b0 24 v) (h : DataW.Trod enc Try.prog W 0 (fun _ => true) true 24 v d p) :
    ∃ A n c hd mn zss, v = queueV A n c hd mn ∧ Texts W A n c zss ∧ (Lit.int .i64 hd).wf = true ∧ (Lit.int .i64 mn).wf = true := by
  obtain ⟨v0, v1, v2, y0, y1, y2, n, rfl, _, _, h0, h1, h2⟩ := open_agg3 Try.underlying24 (by kernel_rfl) (by kernel_rfl) hv h
  obtain ⟨A, l, c, zss, rfl, ht⟩ := open_texts h0
  obtain ⟨hd, e1, _, w1⟩ := DataW.trod_int Try.underlying3 h1
  obtain ⟨mn, e2, _, w2⟩ := DataW.trod_int Try.underlying3 h2
  injection e1 with e1 _
  injection e2 with e2 _
  subst e1
  subst e2
  exact ⟨A, l, c, hd, mn, zss, rfl, ht, w1, w2⟩

end Go.Proofs.Ytbbnfbclbhkneaa
