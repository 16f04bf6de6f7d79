/- Layer 15: the walk of FrameNames. -/
import Derived.Test.YtdgfofemogmmkaaFrNW
import Derived.Test.YtdgfofemogmmkaaFrDo
namespace Go.Proofs.Ytdgfofemogmmkaa
open Go.RowKit
set_option linter.unusedVariables false

theorem walk_FrameNames (W : World) : Calls Try.prog 3 #[] W fun e W' => e = .returned (.bool true) ∧ Below W.heap.size W W' := fnames_of frame_does W

end Go.Proofs.Ytdgfofemogmmkaa
