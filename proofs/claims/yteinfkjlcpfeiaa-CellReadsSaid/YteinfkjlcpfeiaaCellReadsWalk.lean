/- Layer 6: the walk of CellReads. -/
import Derived.Test.YteinfkjlcpfeiaaCellRW
namespace Go.Proofs.Yteinfkjlcpfeiaa
open Go.RowKit
set_option linter.unusedVariables false

theorem walk_CellReads (a0 : Option Addr) (len0 cap0 : Nat) (b0 : Option Addr) (lenb0 capb0 : Nat) (S0 : List Sec) (C0 : List Pnd) (a1 a2 : Int) (w : World) (w0a : Dsk w a0 len0 cap0 b0 lenb0 capb0 S0 C0) (w0b : ∀ p ∈ C0, (Lit.int .i64 p.1).wf = true) (w1 : (Lit.int .i64 a1).wf = true) (w2 : (Lit.int .i64 a2).wf = true) :
    Calls Try.prog 9 #[diskV a0 len0 cap0 b0 lenb0 capb0, .int .i64 a1, .int .i64 a2] w fun e w' => e = .returned (.bool true) ∧ Below w.heap.size w w' :=
  creads_of a0 len0 cap0 b0 lenb0 capb0 S0 C0 a1 a2 w w0a

end Go.Proofs.Yteinfkjlcpfeiaa
