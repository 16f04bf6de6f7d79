/- Layer 4: the four walks, with the binders of the frames, from what the program's seven calls do (ringDoes). -/
import Derived.Test.YtbbnfbclbhkneaaRingDoes
import Derived.Test.YtbbnfbclbhkneaaRingWNames
import Derived.Test.YtbbnfbclbhkneaaRingWTurns
import Derived.Test.YtbbnfbclbhkneaaRingWTells
import Derived.Test.YtbbnfbclbhkneaaRingWOrder
namespace Go.Proofs.Ytbbnfbclbhkneaa
open Go.RowKit
set_option linter.unusedVariables false

theorem walk_RingNames (w : World) : Calls Try.prog 3 #[] w fun e w' => e = .returned (.bool true) ∧ Below w.heap.size w w' := names_of ringDoes w
theorem walk_RingTurns (a0 : Option Addr) (len0 cap0 : Nat) (h0 m0 : Int) (z0 : List (List Int)) (a1 : Option Addr) (len1 cap1 : Nat) (z1 : List Int) (w : World) (w0a : Texts w a0 len0 cap0 z0) (w0b : (Lit.int .i64 h0).wf = true) (w0c : (Lit.int .i64 m0).wf = true) (w1 : IsRow .u8 w a1 len1 cap1 z1) :
    Calls Try.prog 4 #[queueV a0 len0 cap0 h0 m0, .slice a1 len1 cap1] w fun e w' => e = .returned (.bool true) ∧ Below w.heap.size w w' := turns_of ringDoes a0 len0 cap0 h0 m0 z0 a1 len1 cap1 z1 w w0a w1
theorem walk_RingTells (a0 : Option Addr) (len0 cap0 : Nat) (h0 m0 : Int) (z0 : List (List Int)) (a1 : Option Addr) (len1 cap1 : Nat) (h1 m1 : Int) (z1 : List (List Int)) (a2 : Int) (w : World) (w0a : Texts w a0 len0 cap0 z0) (w0b : (Lit.int .i64 h0).wf = true) (w0c : (Lit.int .i64 m0).wf = true) (w1a : Texts w a1 len1 cap1 z1) (w1b : (Lit.int .i64 h1).wf = true) (w1c : (Lit.int .i64 m1).wf = true) (w2 : (Lit.int .i64 a2).wf = true) :
    Calls Try.prog 5 #[queueV a0 len0 cap0 h0 m0, queueV a1 len1 cap1 h1 m1, .int .i64 a2] w fun e w' => e = .returned (.bool true) ∧ Below w.heap.size w w' := tells_of ringDoes a0 len0 cap0 h0 m0 z0 a1 len1 cap1 h1 m1 z1 a2 w w0a w1a
theorem walk_RingOrder (a0 : Option Addr) (len0 cap0 : Nat) (h0 m0 : Int) (z0 : List (List Int)) (a1 : Option Addr) (len1 cap1 : Nat) (z1 : List (List Int)) (w : World) (w0a : Texts w a0 len0 cap0 z0) (w0b : (Lit.int .i64 h0).wf = true) (w0c : (Lit.int .i64 m0).wf = true) (w1 : Texts w a1 len1 cap1 z1) :
    Calls Try.prog 6 #[queueV a0 len0 cap0 h0 m0, .slice a1 len1 cap1] w fun e w' => e = .returned (.bool true) ∧ Below w.heap.size w w' := order_of ringDoes a0 len0 cap0 h0 m0 z0 a1 len1 cap1 z1 w w0a w1

end Go.Proofs.Ytbbnfbclbhkneaa
