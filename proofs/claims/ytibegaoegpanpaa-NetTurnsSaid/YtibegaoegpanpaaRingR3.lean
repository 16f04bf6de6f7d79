/- Layer 4: the document's own: a queue's list. -/
import Derived.Test.YtibegaoegpanpaaRingR2
import Derived.Test.YtibegaoegpanpaaSteps
import Derived.Lib.QuoteBits
namespace Go.Proofs.Ytibegaoegpanpaa
open Go.RowKit
set_option linter.unusedVariables false

/-- What a call hands back beside an error: texts of its own. -/
def TextsOut (w : World) (q : List Text) (E : Int) (e : Ending) (w' : World) : Prop :=
  ∃ A c, e = .returned (.tuple #[.slice A q.length c, .int .i64 E]) ∧ OwnTexts w' w.heap.size A q.length c q ∧ Below w.heap.size w w'

end Go.Proofs.Ytibegaoegpanpaa
