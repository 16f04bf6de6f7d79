/- Layer 15: the walk of FrameBack. -/
import Derived.Test.YtdgfofemogmmkaaFrBaW
import Derived.Test.YtdgfofemogmmkaaFrDo
namespace Go.Proofs.Ytdgfofemogmmkaa
open Go.RowKit
set_option linter.unusedVariables false

theorem walk_FrameBack (fa0 fb0 fc0 fe0 : Int) (fA0 : Option Addr) (fn0 fk0 : Nat) (fz0 : List Int) (a1 : Option Addr) (len1 cap1 : Nat) (z1 : List Int) (W : World) (w0a : IsRow .u8 W fA0 fn0 fk0 fz0) (w0b : isV fa0) (w0c : isV fb0) (w0d : isV fc0) (w0e : isV fe0) (w1 : IsRow .u8 W a1 len1 cap1 z1) :
    Calls Try.prog 5 #[frmV fa0 fb0 fc0 fe0 fA0 fn0 fk0, .slice a1 len1 cap1] W fun e W' => e = .returned (.bool true) ∧ Below W.heap.size W W' := by
  obtain ⟨r0, h0, y0⟩ := w0a.arg
  obtain ⟨r1, h1, y1⟩ := w1.arg
  exact fback_of frame_does fa0 fb0 fc0 fe0 fA0 fn0 fk0 r0 a1 len1 cap1 r1 W h0 (fun x hx => wf_byte (y0 x hx)) w0b w0c w0d w0e h1 (fun x hx => wf_byte (y1 x hx))

end Go.Proofs.Ytdgfofemogmmkaa
