/- Layer 11: the walk of RecBack. -/
import Derived.Test.YthoflogegopikaaRecT3
import Derived.Test.YthoflogegopikaaRecBkW
import Derived.Test.YthoflogegopikaaRecO
import Derived.Lib.SmallJoins
namespace Go.Proofs.Ythoflogegopikaa
open Go.RowKit
set_option linter.unusedVariables false

theorem walk_RecBack (x0 : Rc) (x1 : Rc) (w : World) (w0a : isR x0) (w0b : wfR x0) (w1a : isR x1) (w1b : wfR x1) :
    Calls Try.prog 6 #[recV x0, recV x1] w fun e w' => e = .returned (.bool true) ∧ Below w.heap.size w w' := by
  exact recback_of rec_does x0 x1 w w0a w1a

end Go.Proofs.Ythoflogegopikaa
