/- Layer 6: the walk of CellNames. -/
import Derived.Test.YtkbeeknnfndjgaaCellNW
namespace Go.Proofs.Ytkbeeknnfndjgaa
open Go.RowKit
set_option linter.unusedVariables false

theorem walk_CellNames (w : World) :
    Calls Try.prog 8 #[] w fun e w' => e = .returned (.bool true) ∧ Below w.heap.size w w' :=
  cnames_of w

end Go.Proofs.Ytkbeeknnfndjgaa
