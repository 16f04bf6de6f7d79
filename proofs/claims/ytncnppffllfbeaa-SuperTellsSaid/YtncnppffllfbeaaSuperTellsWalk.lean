/- Layer 9: the walk of SuperTells. -/
import Derived.Test.YtncnppffllfbeaaSupTW
import Derived.Lib.SmallJoins
namespace Go.Proofs.Ytncnppffllfbeaa
open Go.RowKit
set_option linter.unusedVariables false

theorem walk_SuperTells (P T A M Wi Q : Int) (a1 : Option Addr) (len1 cap1 : Nat) (b1 : Option Addr) (lenb1 capb1 : Nat) (S1 : List Sec) (C1 : List Pnd) (v2 a2 g2 : Int) (w : World) (w0a : (Lit.int .i64 P).wf = true) (w0b : (Lit.int .i64 T).wf = true) (w0c : (Lit.int .i64 A).wf = true) (w0d : (Lit.int .i64 M).wf = true) (w0e : (Lit.int .i64 Wi).wf = true) (w0f : (Lit.int .i64 Q).wf = true) (w1a : Dsk w a1 len1 cap1 b1 lenb1 capb1 S1 C1) (w1b : ∀ p ∈ C1, (Lit.int .i64 p.1).wf = true) (w2 : isS (v2, a2, g2)) (w2b : (Lit.int .i64 a2).wf = true) :
    Calls Try.prog 4 #[cfgV P T A M Wi Q, diskV a1 len1 cap1 b1 lenb1 capb1, supV v2 a2 g2] w fun e w' => e = .returned (.bool true) ∧ Below w.heap.size w w' :=
  stells_of P T A M Wi Q a1 len1 cap1 b1 lenb1 capb1 S1 C1 v2 a2 g2 w w1a w2

end Go.Proofs.Ytncnppffllfbeaa
