/- Texts of layers 1 to 12, joined. -/
import Derived.Test.YtifgcfepbenpjaaGreatCr24
import Derived.StillTailTactics
import Derived.Deep.Cut
import Derived.Deep.CutBlock
import Derived.Deep.CutRange
import Derived.KernelRfl
set_option maxRecDepth 100000
set_option maxHeartbeats 12800000
set_option linter.unusedVariables false
namespace Go.Proofs.YtifgcfepbenpjaaGreat
open Go.RowKit
def OfOut (w : World) (t : Txt) (e : Ending) (w' : World) : Prop := ((isN t ∧ e = .returned (.tuple #[recV (rawR t), .bool true])) ∨ (¬ isN t ∧ ∃ s, e = .returned (.tuple #[recV s, .bool false]))) ∧ Below w.heap.size w w'
theorem OwnTxt.sub {w : World} {base g o n c lo hi : Nat} {zs : List Int} (h : OwnTxt w base (some ⟨g, o, none⟩) n c zs) (h1 : lo ≤ hi) (h2 : hi ≤ n) : OwnTxt w base (some ⟨g, o + lo, none⟩) (hi - lo) (c - lo) ((zs.drop lo).take (hi - lo)) := by
 obtain ⟨a1, a2, a3, a4⟩ := h
 refine ⟨by rw [List.length_take, List.length_drop]; omega, by omega, by omega, ?_⟩
 rcases a4 with a4 | ⟨g', o', cs, e, hb, hg, hc⟩
 ·exact .inl (by omega)
 ·injection e with e
  injection e with e1 e2 _
  subst e1
  subst e2
  refine .inr ⟨g, o + lo, cs, rfl, hb, hg, fun j hj => ?_⟩
  have e3 : ((zs.drop lo).take (hi - lo)).getD j 0 = zs.getD (lo + j) 0 := by
   rw [gtD, List.getElem?_take, if_pos hj, List.getElem?_drop, gtD]
  rw [e3, Nat.add_assoc]
  exact hc (lo + j) (by omega)
end Go.Proofs.YtifgcfepbenpjaaGreat
