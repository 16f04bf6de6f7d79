/- Layer 6: the walk of CellCrash. -/
import Derived.Test.YteinfkjlcpfeiaaCellCW
namespace Go.Proofs.Yteinfkjlcpfeiaa
open Go.RowKit
set_option linter.unusedVariables false

theorem walk_CellCrash (a0 : Option Addr) (len0 cap0 : Nat) (b0 : Option Addr) (lenb0 capb0 : Nat) (S0 : List Sec) (C0 : List Pnd) (a1 : Int) (a2 : Option Addr) (len2 cap2 : Nat) (z2 : List Int) (a3 a4 : Int) (a5 : Option Addr) (len5 cap5 : Nat) (z5 : List Int) (w : World) (w0a : Dsk w a0 len0 cap0 b0 lenb0 capb0 S0 C0) (w0b : ∀ p ∈ C0, (Lit.int .i64 p.1).wf = true) (w1 : (Lit.int .i64 a1).wf = true) (w2 : IsRow .u8 w a2 len2 cap2 z2) (w3 : (Lit.int .i64 a3).wf = true) (w4 : (Lit.int .i64 a4).wf = true) (w5 : IsRow .u8 w a5 len5 cap5 z5) :
    Calls Try.prog 12 #[diskV a0 len0 cap0 b0 lenb0 capb0, .int .i64 a1, .slice a2 len2 cap2, .int .i64 a3, .int .i64 a4, .slice a5 len5 cap5] w fun e w' => e = .returned (.bool true) ∧ Below w.heap.size w w' :=
  ccrash_of a0 len0 cap0 b0 lenb0 capb0 S0 C0 a1 a2 len2 cap2 z2 a3 a4 a5 len5 cap5 z5 w w0a w2 w5

end Go.Proofs.Yteinfkjlcpfeiaa
