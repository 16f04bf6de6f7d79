/- Layer 11: the walk of RecNames. -/
import Derived.Test.YthoflogegopikaaRecT3
import Derived.Test.YthoflogegopikaaRecNmW
import Derived.Lib.SmallJoins
namespace Go.Proofs.Ythoflogegopikaa
open Go.RowKit
set_option linter.unusedVariables false

theorem walk_RecNames (w : World) :
    Calls Try.prog 3 #[] w fun e w' => e = .returned (.bool true) ∧ Below w.heap.size w w' := by
  exact recnames_of rec_does w

end Go.Proofs.Ythoflogegopikaa
