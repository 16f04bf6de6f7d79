/- Layer 16: the walk of NetNames. -/
import Derived.Test.YtibegaoegpanpaaNtNW
import Derived.Test.YtibegaoegpanpaaNtDo
namespace Go.Proofs.Ytibegaoegpanpaa
open Go.RowKit
set_option linter.unusedVariables false

theorem walk_NetNames (W : World) : Calls Try.prog 3 #[] W fun e W' => e = .returned (.bool true) ∧ Below W.heap.size W W' := names16_of net_does W

end Go.Proofs.Ytibegaoegpanpaa
