/- Layer 5: the walk of DiskDoes. -/
import Derived.Test.YtajocifomjgjhaaDskDoes
import Derived.Test.YtajocifomjgjhaaDiskWDoes
namespace Go.Proofs.Ytajocifomjgjhaa
open Go.RowKit
set_option linter.unusedVariables false

theorem walk_DiskDoes (a0 : Option Addr) (len0 cap0 : Nat) (b0 : Option Addr) (lenb0 capb0 : Nat) (S0 : List Sec) (C0 : List Pnd) (a1 : Int) (a2 : Option Addr) (len2 cap2 : Nat) (z2 : List Int) (w : World) (w0a : Dsk w a0 len0 cap0 b0 lenb0 capb0 S0 C0) (w0b : ∀ p ∈ C0, (Lit.int .i64 p.1).wf = true) (w1 : (Lit.int .i64 a1).wf = true) (w2 : IsRow .u8 w a2 len2 cap2 z2) :
    Calls Try.prog 4 #[diskV a0 len0 cap0 b0 lenb0 capb0, .int .i64 a1, .slice a2 len2 cap2] w fun e w' => e = .returned (.bool true) ∧ Below w.heap.size w w' :=
  does_of dsk_does a0 len0 cap0 b0 lenb0 capb0 S0 C0 a1 a2 len2 cap2 z2 w w0a w2

end Go.Proofs.Ytajocifomjgjhaa
