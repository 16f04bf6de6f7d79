/- Layer 5: the walk of DiskCrash. -/
import Derived.Test.YtkbeeknnfndjgaaDskDoes
import Derived.Test.YtkbeeknnfndjgaaDiskWCrash
namespace Go.Proofs.Ytkbeeknnfndjgaa
open Go.RowKit
set_option linter.unusedVariables false

theorem walk_DiskCrash (a0 : Option Addr) (len0 cap0 : Nat) (b0 : Option Addr) (lenb0 capb0 : Nat) (S0 : List Sec) (C0 : List Pnd) (a1 : Option Addr) (len1 cap1 : Nat) (z1 : List Int) (a2 : Int) (w : World) (w0a : Dsk w a0 len0 cap0 b0 lenb0 capb0 S0 C0) (w0b : ∀ p ∈ C0, (Lit.int .i64 p.1).wf = true) (w1 : IsRow .u8 w a1 len1 cap1 z1) (w2 : (Lit.int .i64 a2).wf = true) :
    Calls Try.prog 7 #[diskV a0 len0 cap0 b0 lenb0 capb0, .slice a1 len1 cap1, .int .i64 a2] w fun e w' => e = .returned (.bool true) ∧ Below w.heap.size w w' :=
  crash_of dsk_does a0 len0 cap0 b0 lenb0 capb0 S0 C0 a1 len1 cap1 z1 a2 w w0a w1

end Go.Proofs.Ytkbeeknnfndjgaa
