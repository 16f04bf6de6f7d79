/- Layer 8: the walk of TrackNames. -/
import Derived.Test.YtnmlplfcdnakhaaTrkNW
namespace Go.Proofs.Ytnmlplfcdnakhaa
open Go.RowKit
set_option linter.unusedVariables false

theorem walk_TrackNames (w : World) :
    Calls Try.prog 10 #[] w fun e w' => e = .returned (.bool true) ∧ Below w.heap.size w w' :=
  tnames_of w

end Go.Proofs.Ytnmlplfcdnakhaa
