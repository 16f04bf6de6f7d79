/- Texts of the layers below, joined. -/
import Derived.Test.YtdbeiikaeccbhaaDa3
import Derived.Test.YtdbeiikaeccbhaaDa11
import Derived.Test.YtdbeiikaeccbhaaDa15
import Derived.Deep.RegionHeld3
import Derived.StillTailTactics
import Derived.Lib.EndianBits
import Derived.Deep.RegionWith
import Derived.WalkLawsBesides
import Derived.Defers
import Derived.Recover
import Derived.Laws.Pointers
set_option maxRecDepth 100000
set_option maxHeartbeats 12800000
set_option linter.unusedVariables false
namespace Go.Proofs.Ytdbeiikaeccbhaa
end Go.Proofs.Ytdbeiikaeccbhaa
namespace Go.Proofs.Ytdbeiikaeccbhaa
open Go.RowKit
end Go.Proofs.Ytdbeiikaeccbhaa
