/- Layer 9: the walk of SuperCrash. -/
import Derived.Test.YtncnppffllfbeaaSupCW
import Derived.Lib.SmallJoins
namespace Go.Proofs.Ytncnppffllfbeaa
open Go.RowKit
set_option linter.unusedVariables false

theorem walk_SuperCrash (P T A M Wi Q : Int) (a1 : Option Addr) (len1 cap1 : Nat) (b1 : Option Addr) (lenb1 capb1 : Nat) (S1 : List Sec) (C1 : List Pnd) (v2 a2 g2 : Int) (a3 : Option Addr) (len3 cap3 : Nat) (z3 : List Int) (w : World) (w0a : (Lit.int .i64 P).wf = true) (w0b : (Lit.int .i64 T).wf = true) (w0c : (Lit.int .i64 A).wf = true) (w0d : (Lit.int .i64 M).wf = true) (w0e : (Lit.int .i64 Wi).wf = true) (w0f : (Lit.int .i64 Q).wf = true) (w1a : Dsk w a1 len1 cap1 b1 lenb1 capb1 S1 C1) (w1b : ∀ p ∈ C1, (Lit.int .i64 p.1).wf = true) (w2 : isS (v2, a2, g2)) (w2b : (Lit.int .i64 a2).wf = true) (w3 : IsRow .u8 w a3 len3 cap3 z3) :
    Calls Try.prog 5 #[cfgV P T A M Wi Q, diskV a1 len1 cap1 b1 lenb1 capb1, supV v2 a2 g2, .slice a3 len3 cap3] w fun e w' => e = .returned (.bool true) ∧ Below w.heap.size w w' :=
  scrash_of P T A M Wi Q a1 len1 cap1 b1 lenb1 capb1 S1 C1 v2 a2 g2 a3 len3 cap3 z3 w w1a w2 w3

end Go.Proofs.Ytncnppffllfbeaa
