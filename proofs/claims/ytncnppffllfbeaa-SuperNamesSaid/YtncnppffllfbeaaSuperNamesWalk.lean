/- Layer 9: the walk of SuperNames. -/
import Derived.Test.YtncnppffllfbeaaSupNW
namespace Go.Proofs.Ytncnppffllfbeaa
open Go.RowKit
set_option linter.unusedVariables false

theorem walk_SuperNames (w : World) : Calls Try.prog 3 #[] w fun e w' => e = .returned (.bool true) ∧ Below w.heap.size w w' := snames_of w

end Go.Proofs.Ytncnppffllfbeaa
