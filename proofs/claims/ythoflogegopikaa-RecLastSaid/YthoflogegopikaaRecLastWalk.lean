/- Layer 11: the walk of RecLast. -/
import Derived.Test.YthoflogegopikaaRecT3
import Derived.Test.YthoflogegopikaaRecLaW
import Derived.Test.YthoflogegopikaaRecO
import Derived.Lib.SmallJoins
namespace Go.Proofs.Ythoflogegopikaa
open Go.RowKit
set_option linter.unusedVariables false

theorem walk_RecLast (a0 : Option Addr) (len0 cap0 : Nat) (z0 : List Txt) (x1 : Rc) (a2 : Bool) (w : World) (w0 : Texts w a0 len0 cap0 z0) (w1a : isR x1) (w1b : wfR x1) :
    Calls Try.prog 8 #[.slice a0 len0 cap0, recV x1, .bool a2] w fun e w' => e = .returned (.bool true) ∧ Below w.heap.size w w' := by
  exact reclast_of rec_does a0 len0 cap0 z0 x1 a2 w w0 w1a

end Go.Proofs.Ythoflogegopikaa
