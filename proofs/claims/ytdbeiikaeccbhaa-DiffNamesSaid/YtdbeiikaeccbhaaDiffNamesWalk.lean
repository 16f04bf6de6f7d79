/- Texts of the layers below, joined. -/
import Derived.Test.YtdbeiikaeccbhaaDa39
import Derived.Test.YtdbeiikaeccbhaaDa41
set_option maxRecDepth 100000
set_option maxHeartbeats 12800000
set_option linter.unusedVariables false
namespace Go.Proofs.Ytdbeiikaeccbhaa
open Go.RowKit
theorem walk_DiffNames (w:World):Calls Try.prog 3 #[] w fun e w'=>e=.returned (.bool true)∧Below w.heap.size w w':=dnames_of diff_does w
end Go.Proofs.Ytdbeiikaeccbhaa
