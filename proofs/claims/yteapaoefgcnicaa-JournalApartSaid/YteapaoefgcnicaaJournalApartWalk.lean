/- Layer 10: the walk of JournalApart. -/
import Derived.Test.YteapaoefgcnicaaJrnP6
import Derived.Test.YteapaoefgcnicaaJrnPA
import Derived.Test.YteapaoefgcnicaaJrnA
import Derived.Lib.SmallJoins
namespace Go.Proofs.Yteapaoefgcnicaa
open Go.RowKit
set_option linter.unusedVariables false

theorem walk_JournalApart (a0 : Int) (a1 : Int) (a2 : Option Addr) (len2 cap2 : Nat) (z2 : List Int) (a3 : Int) (a4 : Int) (a5 : Option Addr) (len5 cap5 : Nat) (z5 : List Int) (w : World) (w0 : (Lit.int .u64 a0).wf = true) (w1 : (Lit.int .i64 a1).wf = true) (w2 : IsRow .u8 w a2 len2 cap2 z2) (w3 : (Lit.int .u64 a3).wf = true) (w4 : (Lit.int .i64 a4).wf = true) (w5 : IsRow .u8 w a5 len5 cap5 z5) :
    Calls Try.prog 6 #[.int .u64 a0, .int .i64 a1, .slice a2 len2 cap2, .int .u64 a3, .int .i64 a4, .slice a5 len5 cap5] w fun e w' => e = .returned (.bool true) ∧ Below w.heap.size w w' :=
  japart_of jrn_does (alive_jrn jrn_does) a0 a1 a2 len2 cap2 z2 a3 a4 a5 len5 cap5 z5 w (wf_word w0) w2 (wf_word w3) w5

end Go.Proofs.Yteapaoefgcnicaa
