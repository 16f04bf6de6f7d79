/- Layer 13: the walk of PageTells. -/
import Derived.Test.YtiibmlbenamgcaaPgTW
import Derived.Lib.SmallJoins
namespace Go.Proofs.Ytiibmlbenamgcaa
open Go.RowKit
set_option linter.unusedVariables false

theorem walk_PageTells (P T A M Wi Q : Int) (a1 a2 a3 : Int) (w : World) (w0a : (Lit.int .i64 P).wf = true) (w0b : (Lit.int .i64 T).wf = true) (w0c : (Lit.int .i64 A).wf = true) (w0d : (Lit.int .i64 M).wf = true) (w0e : (Lit.int .i64 Wi).wf = true) (w0f : (Lit.int .i64 Q).wf = true) (w1 : (Lit.int .i64 a1).wf = true) (w2 : (Lit.int .i64 a2).wf = true) (w3 : (Lit.int .u8 a3).wf = true) :
    Calls Try.prog 4 #[cfgV P T A M Wi Q, .int .i64 a1, .int .i64 a2, .int .u8 a3] w fun e w' => e = .returned (.bool true) ∧ Below w.heap.size w w' :=
  ptells_of P T A M Wi Q a1 a2 a3 w (wf_byte w3)

end Go.Proofs.Ytiibmlbenamgcaa
