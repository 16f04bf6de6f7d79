/- Texts of the layers below, joined. -/
import Derived.Test.YtdbeiikaeccbhaaDa3
import Derived.StillTailTactics
import Derived.Deep.RegionWith
set_option maxRecDepth 100000
set_option maxHeartbeats 12800000
set_option linter.unusedVariables false
namespace Go.Proofs.Ytdbeiikaeccbhaa
open Go.RowKit
end Go.Proofs.Ytdbeiikaeccbhaa
