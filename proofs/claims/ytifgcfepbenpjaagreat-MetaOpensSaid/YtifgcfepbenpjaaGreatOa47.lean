/- Texts of layers 1 to 12, joined (MetP4). -/
import Derived.Test.YtifgcfepbenpjaaGreatOa46
import Derived.Deep.Cut
import Derived.Deep.CutRange
set_option maxRecDepth 100000
set_option maxHeartbeats 12800000
namespace Go.Proofs.YtifgcfepbenpjaaGreat
open Go.RowKit
set_option linter.unusedVariables false
end Go.Proofs.YtifgcfepbenpjaaGreat
