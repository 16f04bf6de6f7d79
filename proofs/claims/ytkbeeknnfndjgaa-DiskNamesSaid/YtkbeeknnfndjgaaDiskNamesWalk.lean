/- Layer 5: the walk of DiskNames. -/
import Derived.Test.YtkbeeknnfndjgaaDskDoes
import Derived.Test.YtkbeeknnfndjgaaDiskWNames
namespace Go.Proofs.Ytkbeeknnfndjgaa
open Go.RowKit
set_option linter.unusedVariables false

theorem walk_DiskNames (w : World) :
    Calls Try.prog 3 #[] w fun e w' => e = .returned (.bool true) ∧ Below w.heap.size w w' :=
  names_of dsk_does w

end Go.Proofs.Ytkbeeknnfndjgaa
