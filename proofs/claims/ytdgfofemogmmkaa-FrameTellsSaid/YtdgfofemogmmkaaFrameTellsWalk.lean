/- Layer 15: the walk of FrameTells. -/
import Derived.Test.YtdgfofemogmmkaaFrTW
import Derived.Test.YtdgfofemogmmkaaFrDo
namespace Go.Proofs.Ytdgfofemogmmkaa
open Go.RowKit
set_option linter.unusedVariables false

theorem walk_FrameTells (fa0 fb0 fc0 fe0 : Int) (fA0 : Option Addr) (fn0 fk0 : Nat) (fz0 : List Int) (fa1 fb1 fc1 fe1 : Int) (fA1 : Option Addr) (fn1 fk1 : Nat) (fz1 : List Int) (a2 : Option Addr) (len2 cap2 : Nat) (z2 : List Int) (W : World) (w0a : IsRow .u8 W fA0 fn0 fk0 fz0) (w0b : isV fa0) (w0c : isV fb0) (w0d : isV fc0) (w0e : isV fe0) (w1a : IsRow .u8 W fA1 fn1 fk1 fz1) (w1b : isV fa1) (w1c : isV fb1) (w1d : isV fc1) (w1e : isV fe1) (w2 : IsRow .u8 W a2 len2 cap2 z2) :
    Calls Try.prog 4 #[frmV fa0 fb0 fc0 fe0 fA0 fn0 fk0, frmV fa1 fb1 fc1 fe1 fA1 fn1 fk1, .slice a2 len2 cap2] W fun e W' => e = .returned (.bool true) ∧ Below W.heap.size W W' := by
  obtain ⟨r0, h0, y0⟩ := w0a.arg
  obtain ⟨r1, h1, y1⟩ := w1a.arg
  obtain ⟨r2, h2, y2⟩ := w2.arg
  exact ftells_of frame_does fa0 fb0 fc0 fe0 fA0 fn0 fk0 r0 fa1 fb1 fc1 fe1 fA1 fn1 fk1 r1 a2 len2 cap2 r2 W h0 (fun x hx => wf_byte (y0 x hx)) w0b w0c w0d w0e h1 (fun x hx => wf_byte (y1 x hx)) w1b w1c w1d w1e h2 (fun x hx => wf_byte (y2 x hx))

end Go.Proofs.Ytdgfofemogmmkaa
