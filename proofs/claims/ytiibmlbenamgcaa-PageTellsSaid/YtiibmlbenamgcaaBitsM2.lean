/- Layer 3: the document's own calls that make a set: two put together, of a list, of all, with a track or without. -/
import Derived.Test.YtiibmlbenamgcaaBitsM
namespace Go.Proofs.Ytiibmlbenamgcaa
open Go.RowKit
set_option linter.unusedVariables false
set_option maxRecDepth 100000

end Go.Proofs.Ytiibmlbenamgcaa
