/- Layer 16: the walk of NetTurns. -/
import Derived.Test.YtibegaoegpanpaaNtTW
import Derived.Test.YtibegaoegpanpaaNtDo
import Derived.Lib.SmallJoins
namespace Go.Proofs.Ytibegaoegpanpaa
open Go.RowKit
set_option linter.unusedVariables false

theorem walk_NetTurns (a0 : Option Addr) (len0 cap0 : Nat) (z0 : List (List Int)) (a1 : Option Addr) (len1 cap1 : Nat) (z1 : List (List Int)) (a2 : Option Addr) (len2 cap2 : Nat) (z2 : List Int) (a3 : Int) (w : World) (w0 : Texts w a0 len0 cap0 z0) (w1 : Texts w a1 len1 cap1 z1) (w2 : IsRow .u8 w a2 len2 cap2 z2) (w3 : (Lit.int .i64 a3).wf = true) :
    Calls Try.prog 4 #[.slice a0 len0 cap0, .slice a1 len1 cap1, .slice a2 len2 cap2, .int .i64 a3] w fun e w' => e = .returned (.bool true) ∧ Below w.heap.size w w' := by
  obtain ⟨l2, hl2, hw2⟩ := w2.arg
  exact turns16_of net_does a0 len0 cap0 z0 a1 len1 cap1 z1 a2 len2 cap2 l2 a3 w w0 w1 hl2 (fun z hz => wf_byte (hw2 z hz))

end Go.Proofs.Ytibegaoegpanpaa
