/- Layer 11: the walk of RecNotes. -/
import Derived.Test.YthoflogegopikaaRecT3
import Derived.Test.YthoflogegopikaaRecNoW
import Derived.Test.YthoflogegopikaaRecO
import Derived.Lib.SmallJoins
namespace Go.Proofs.Ythoflogegopikaa
open Go.RowKit
set_option linter.unusedVariables false

theorem walk_RecNotes (x0 : Rc) (a1 : Int) (w : World) (w0a : isR x0) (w0b : wfR x0) (w1 : (Lit.int .i64 a1).wf = true) :
    Calls Try.prog 4 #[recV x0, .int .i64 a1] w fun e w' => e = .returned (.bool true) ∧ Below w.heap.size w w' := by
  exact recnotes_of rec_does x0 a1 w w0a

end Go.Proofs.Ythoflogegopikaa
