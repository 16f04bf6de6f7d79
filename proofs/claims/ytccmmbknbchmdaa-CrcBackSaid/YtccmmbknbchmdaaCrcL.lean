/- Layer 2: the statements' own helper function: the examples hold. -/
import Derived.Test.YtccmmbknbchmdaaCrc
import Derived.KernelRfl
import Derived.Lib.SlBytesConst
namespace Go.Proofs.Ytccmmbknbchmdaa
open Go.RowKit
set_option linter.unusedVariables false

theorem sum_none : sum [] = 0 := by kernel_rfl
theorem sum_nine : sum [49, 50, 51, 52, 53, 54, 55, 56, 57] = 3421780262 := by kernel_rfl
theorem nine_byte : ∀ z ∈ ([49, 50, 51, 52, 53, 54, 55, 56, 57] : List Int), isByte z := by simp [isByte]

/-- A literal of bytes out of a constant text, in a block of its own. -/
theorem lit_mark (w : World) (t : TypeId) (mk : Nat × Nat) (k : IntKind) (zs : List Int) (cs : Array Value) (b B : Nat) (h : cs = (ints k zs).toArray) (hb : b = w.heap.size) (hB : w.heap.size < B) : Seq (w.alloc (.cells cs t mk)) B (some ⟨b, 0, none⟩) (ints k zs) := by
  subst h; subst hb
  refine Seq.of hB fun j v hv => ?_
  have h1 : (w.alloc (.cells (ints k zs).toArray t mk)).heap[w.heap.size]? = some (.cells (ints k zs).toArray t mk) := heap_alloc_new w _
  rw [cell_of_row _ _ _ _ _ _ h1, Nat.zero_add]
  simpa using hv

set_option maxHeartbeats 800000 in
theorem alive_any (w : World) : Calls Try.prog 11 #[] w fun e w' => e = .returned (.bool true) ∧ Below w.heap.size w w' := by
  have hnil : Calls Try.prog 12 #[.slice none 0 0] w fun e w' => e = .returned (.int .u32 0) ∧ w = w' := by
    have := sum_any none 0 0 [] w w.heap.size Seq.empty rfl (by decide) (by simp)
    rw [sum_none] at this
    exact this
  have hnine : ∀ (x : Option Addr) (wx : World), Seq wx wx.heap.size x (ints .u8 [49, 50, 51, 52, 53, 54, 55, 56, 57]) → Calls Try.prog 12 #[.slice x 9 9] wx fun e w' => e = .returned (.int .u32 3421780262) ∧ wx = w' := by
    intro x wx hx
    have := sum_any x 9 9 [49, 50, 51, 52, 53, 54, 55, 56, 57] wx _ hx rfl (by decide) nine_byte
    rw [sum_nine] at this
    exact this
  have NIL := Lib.hid hnil
  have NINE := Lib.hid hnine
  clear hnil hnine
  have kc := fun (w : World) (C : Array Value) (n c : Nat) => Lib.run_convert_bytes_const (P := Try.prog) w 22 5 C n c Try.underlying22 Try.underlying5
  go_enter Try.func11, Try.ntmps11
  go_wp2_with fail
  refine NIL.out.mono ?_
  rintro e w' ⟨rfl, rfl⟩
  go_wp2_with fail
  refine (NINE.out (some ⟨w.heap.size, 0, none⟩) _ ?_).mono ?_
  · exact lit_mark _ _ _ .u8 [49, 50, 51, 52, 53, 54, 55, 56, 57] _ _ _ rfl rfl (by simp)
  rintro e w' ⟨rfl, rfl⟩
  go_wp2
  go_ret
  exact ⟨rfl, (Below.refl _ _).alloc (Nat.le_refl _) _⟩

end Go.Proofs.Ytccmmbknbchmdaa
