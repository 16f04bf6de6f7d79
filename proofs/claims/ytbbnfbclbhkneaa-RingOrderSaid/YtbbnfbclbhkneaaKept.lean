/- What a round of a range over a function keeps: what lay before the call, and the iterator's own three boxes. No statement is proved here. -/
import Derived.RangeFuncNested
import Derived.RangeFuncBound
import Derived.RangeFuncCalls
import Derived.RangeFuncLeaves
import Derived.RangeFuncBox
import Derived.Shelf.Abstract
import Derived.Shelf.RegionOpen
import Derived.OwnWalkIn
import Derived.TacticsInMore
import Derived.LoopNIn
import Derived.LoopIn
import Derived.Test.YtbbnfbclbhkneaaBase3
namespace Go.Proofs.Ytbbnfbclbhkneaa
open Go.RowKit Go.Shelf
set_option linter.unusedVariables false

def KpT (B0 B1 : Nat) (W W' : World) : Prop := ∀ p : Addr, (p.block < B0 ∨ (B1 ≤ p.block ∧ p.block < B1 + 3)) → W'.cell? p = W.cell? p
theorem KpT.refl (B0 B1 : Nat) (W : World) : KpT B0 B1 W W := fun _ _ => rfl
theorem KpT.trans {B0 B1 : Nat} {A B C : World} (h : KpT B0 B1 A B) (k : KpT B0 B1 B C) : KpT B0 B1 A C := fun p hp => (k p hp).trans (h p hp)
theorem KpT.grown {B0 B1 : Nat} {W W' : World} {row : Option Nat} (h : W.grownBy W' row) (hB : B0 ≤ B1) (hs : B1 + 3 ≤ W.heap.size) (hr : ∀ g, row = some g → B0 ≤ g ∧ (g < B1 ∨ B1 + 3 ≤ g)) : KpT B0 B1 W W' := fun p hp =>
  World.cell?_of_block (h.block p.block (by omega) (fun e => by have := hr _ e.symm; omega))
theorem KpT.below {B0 B1 : Nat} {W W' : World} (h : Below W.heap.size W W') (hB : B0 ≤ B1) (hs : B1 + 3 ≤ W.heap.size) : KpT B0 B1 W W' := KpT.grown (grown_of_below h) hB hs (fun _ e => by cases e)
theorem KpT.putObj {B0 B1 : Nat} {W0 : World} (hB : B0 ≤ B1) (hs : B1 + 3 ≤ W0.heap.size) (W : World) (l : Nat) (o o' : Obj) (hl : W0.heap.size ≤ l) (h : W.heap[l]? = some o) (_ : o.isCells = false) (_ : o.isWalk = false) : KpT B0 B1 W (W.putObj l o') := fun p hp =>
  World.cell?_of_block (World.putObj_heap_other (by omega))
theorem KpT.drew {B0 B1 : Nat} (W : World) : KpT B0 B1 W W.drew := fun _ _ => rfl

end Go.Proofs.Ytbbnfbclbhkneaa
