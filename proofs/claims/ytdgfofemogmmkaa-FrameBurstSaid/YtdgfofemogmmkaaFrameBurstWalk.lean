/- Layer 15: the walk of FrameBurst. -/
import Derived.Test.YtdgfofemogmmkaaFrBuW
import Derived.Test.YtdgfofemogmmkaaFrDo
namespace Go.Proofs.Ytdgfofemogmmkaa
open Go.RowKit
set_option linter.unusedVariables false

theorem walk_FrameBurst (fa0 fb0 fc0 fe0 : Int) (fA0 : Option Addr) (fn0 fk0 : Nat) (fz0 : List Int) (a1 a2 : Int) (W : World) (w0a : IsRow .u8 W fA0 fn0 fk0 fz0) (w0b : isV fa0) (w0c : isV fb0) (w0d : isV fc0) (w0e : isV fe0) (w1 : (Lit.int .i64 a1).wf = true) (w2 : (Lit.int .u32 a2).wf = true) :
    Calls Try.prog 6 #[frmV fa0 fb0 fc0 fe0 fA0 fn0 fk0, .int .i64 a1, .int .u32 a2] W fun e W' => e = .returned (.bool true) ∧ Below W.heap.size W W' := by
  obtain ⟨r0, h0, y0⟩ := w0a.arg
  obtain ⟨mask, rfl, hmask⟩ := wf_u32 w2
  exact fburst_of frame_does fa0 fb0 fc0 fe0 fA0 fn0 fk0 r0 a1 mask W h0 (fun x hx => wf_byte (y0 x hx)) w0b w0c w0d w0e (bounds_i64 w1) hmask

end Go.Proofs.Ytdgfofemogmmkaa
