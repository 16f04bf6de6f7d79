/- Layer 10: the walk of JournalCrash. -/
import Derived.Test.YteapaoefgcnicaaJrnP6
import Derived.Test.YteapaoefgcnicaaJrnCW
import Derived.Test.YteapaoefgcnicaaJrnA
import Derived.Lib.SmallJoins
namespace Go.Proofs.Yteapaoefgcnicaa
open Go.RowKit
set_option linter.unusedVariables false

theorem walk_JournalCrash (P T A M Wi Q : Int) (a1 : Option Addr) (len1 cap1 : Nat) (b1 : Option Addr) (lenb1 capb1 : Nat) (S1 : List Sec) (C1 : List Pnd) (a2 : Int) (a3 : Int) (a4 : Option Addr) (len4 cap4 : Nat) (z4 : List Int) (a5 : Option Addr) (len5 cap5 : Nat) (z5 : List Int) (a6 : Int) (w : World) (w0a : (Lit.int .i64 P).wf = true) (w0b : (Lit.int .i64 T).wf = true) (w0c : (Lit.int .i64 A).wf = true) (w0d : (Lit.int .i64 M).wf = true) (w0e : (Lit.int .i64 Wi).wf = true) (w0f : (Lit.int .i64 Q).wf = true) (w1a : Dsk w a1 len1 cap1 b1 lenb1 capb1 S1 C1) (w1b : ∀ p ∈ C1, (Lit.int .i64 p.1).wf = true) (w2 : (Lit.int .i64 a2).wf = true) (w3 : (Lit.int .u64 a3).wf = true) (w4 : IsRow .u8 w a4 len4 cap4 z4) (w5 : IsRow .u8 w a5 len5 cap5 z5) (w6 : (Lit.int .u64 a6).wf = true) :
    Calls Try.prog 7 #[cfgV P T A M Wi Q, diskV a1 len1 cap1 b1 lenb1 capb1, .int .i64 a2, .int .u64 a3, .slice a4 len4 cap4, .slice a5 len5 cap5, .int .u64 a6] w fun e w' => e = .returned (.bool true) ∧ Below w.heap.size w w' :=
  jcrash_of jrn_does (alive_jrn jrn_does) P T A M Wi Q a1 len1 cap1 b1 lenb1 capb1 S1 C1 a2 a3 a4 len4 cap4 z4 a5 len5 cap5 z5 a6 w w1a (wf_word w3) w4 w5 (wf_word w6)

end Go.Proofs.Yteapaoefgcnicaa
