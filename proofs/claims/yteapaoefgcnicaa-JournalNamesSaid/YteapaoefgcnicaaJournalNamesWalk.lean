/- Layer 10: the walk of JournalNames. -/
import Derived.Test.YteapaoefgcnicaaJrnNW
import Derived.Test.YteapaoefgcnicaaJrnP6
namespace Go.Proofs.Yteapaoefgcnicaa
open Go.RowKit
set_option linter.unusedVariables false

theorem walk_JournalNames (w : World) : Calls Try.prog 3 #[] w fun e w' => e = .returned (.bool true) ∧ Below w.heap.size w w' := jnames_of jrn_does w

end Go.Proofs.Yteapaoefgcnicaa
