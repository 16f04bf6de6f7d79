/- Layer 5: the walk of DiskEnds. -/
import Derived.Test.YtajocifomjgjhaaDskDoes
import Derived.Test.YtajocifomjgjhaaDiskWEnds
namespace Go.Proofs.Ytajocifomjgjhaa
open Go.RowKit
set_option linter.unusedVariables false

theorem walk_DiskEnds (a0 : Option Addr) (len0 cap0 : Nat) (b0 : Option Addr) (lenb0 capb0 : Nat) (S0 : List Sec) (C0 : List Pnd) (a1 : Option Addr) (len1 cap1 : Nat) (b1 : Option Addr) (lenb1 capb1 : Nat) (S1 : List Sec) (C1 : List Pnd) (a2 : Option Addr) (len2 cap2 : Nat) (z2 : List Int) (a3 : Int) (w : World) (w0a : Dsk w a0 len0 cap0 b0 lenb0 capb0 S0 C0) (w0b : ∀ p ∈ C0, (Lit.int .i64 p.1).wf = true) (w1a : Dsk w a1 len1 cap1 b1 lenb1 capb1 S1 C1) (w1b : ∀ p ∈ C1, (Lit.int .i64 p.1).wf = true) (w2 : IsRow .u8 w a2 len2 cap2 z2) (w3 : (Lit.int .i64 a3).wf = true) :
    Calls Try.prog 5 #[diskV a0 len0 cap0 b0 lenb0 capb0, diskV a1 len1 cap1 b1 lenb1 capb1, .slice a2 len2 cap2, .int .i64 a3] w fun e w' => e = .returned (.bool true) ∧ Below w.heap.size w w' :=
  ends_of dsk_does a0 len0 cap0 b0 lenb0 capb0 S0 C0 a1 len1 cap1 b1 lenb1 capb1 S1 C1 a2 len2 cap2 z2 a3 w w0a w1a w2

end Go.Proofs.Ytajocifomjgjhaa
