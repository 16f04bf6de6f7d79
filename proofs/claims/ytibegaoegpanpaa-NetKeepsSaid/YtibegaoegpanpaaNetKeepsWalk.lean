/- Layer 16: the walk of NetKeeps. -/
import Derived.Test.YtibegaoegpanpaaNtKW
import Derived.Test.YtibegaoegpanpaaNtDo
import Derived.Lib.SmallJoins
namespace Go.Proofs.Ytibegaoegpanpaa
open Go.RowKit
set_option linter.unusedVariables false

theorem walk_NetKeeps (a0 : Option Addr) (len0 cap0 : Nat) (z0 : List (List Int)) (a1 : Option Addr) (len1 cap1 : Nat) (z1 : List Int) (a2 : Int) (w : World) (w0 : Texts w a0 len0 cap0 z0) (w1 : IsRow .u8 w a1 len1 cap1 z1) (w2 : (Lit.int .i64 a2).wf = true) :
    Calls Try.prog 5 #[.slice a0 len0 cap0, .slice a1 len1 cap1, .int .i64 a2] w fun e w' => e = .returned (.bool true) ∧ Below w.heap.size w w' := by
  obtain ⟨l1, hl1, hw1⟩ := w1.arg
  exact keeps16_of net_does a0 len0 cap0 z0 a1 len1 cap1 l1 a2 w w0 hl1 (fun z hz => wf_byte (hw1 z hz))

end Go.Proofs.Ytibegaoegpanpaa
