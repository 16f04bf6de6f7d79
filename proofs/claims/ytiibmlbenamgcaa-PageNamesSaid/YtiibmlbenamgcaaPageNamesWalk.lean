/- Layer 13: the walk of PageNames. -/
import Derived.Test.YtiibmlbenamgcaaPgNW
namespace Go.Proofs.Ytiibmlbenamgcaa
open Go.RowKit
set_option linter.unusedVariables false

theorem walk_PageNames (w : World) : Calls Try.prog 3 #[] w fun e w' => e = .returned (.bool true) ∧ Below w.heap.size w w' := pnames_of w

end Go.Proofs.Ytiibmlbenamgcaa
