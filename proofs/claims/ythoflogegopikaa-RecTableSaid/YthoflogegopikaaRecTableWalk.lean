/- Layer 11: the walk of RecTable. -/
import Derived.Test.YthoflogegopikaaRecT3
import Derived.Test.YthoflogegopikaaRecTbW
import Derived.Lib.SmallJoins
namespace Go.Proofs.Ythoflogegopikaa
open Go.RowKit
set_option linter.unusedVariables false

theorem walk_RecTable (a0 : Option Addr) (len0 cap0 : Nat) (z0 : List Txt) (a1 : Option Addr) (len1 cap1 : Nat) (z1 : List Txt) (w : World) (w0 : Texts w a0 len0 cap0 z0) (w1 : Texts w a1 len1 cap1 z1) :
    Calls Try.prog 7 #[.slice a0 len0 cap0, .slice a1 len1 cap1] w fun e w' => e = .returned (.bool true) ∧ Below w.heap.size w w' := by
  exact rectable_of rec_does a0 len0 cap0 z0 a1 len1 cap1 z1 w w0 w1

end Go.Proofs.Ythoflogegopikaa
