/- Layer 15: what the program's five calls do (as a structure of contracts); the law's greeting. No statement is proved here. -/
import Derived.Test.YtdgfofemogmmkaaFrR4
namespace Go.Proofs.Ytdgfofemogmmkaa
open Go.RowKit
set_option linter.unusedVariables false
set_option maxRecDepth 100000

/-- What the program's calls do. -/
structure FrameDoes : Prop where
  check : ∀ (a b c d : Int) (A : Option Addr) (n k : Nat) (w : World), isV a → isV b → isV c → isV d → n ≤ 200 → Calls Try.prog 12 #[frmV a b c d A n k] w fun e w' => e = .returned (.int .i64 (if mayN a c n then 0 else 150)) ∧ Below w.heap.size w w'
  write : ∀ (a b c d : Int) (A : Option Addr) (n k : Nat) (z : List Int) (w : World), Arg w .u8 A n k z → (∀ x ∈ z, isByte x) → isV a → isV b → isV c → isV d → Calls Try.prog 8 #[frmV a b c d A n k] w (RowOut .u8 5 w (frB (a, b, c, d, z)) (frE (a, b, c, d, z)))
  read : ∀ (A : Option Addr) (n k : Nat) (t : List Int) (w : World), Arg w .u8 A n k t → (∀ x ∈ t, isByte x) → n ≤ 300 → Calls Try.prog 9 #[.slice A n k] w (FrdOut w (fdV t) (fdE t))
  same : ∀ (a b c d : Int) (A : Option Addr) (n k : Nat) (z : List Int) (a2 b2 c2 d2 : Int) (A2 : Option Addr) (n2 k2 : Nat) (z2 : List Int) (w : World), Arg w .u8 A n k z → Arg w .u8 A2 n2 k2 z2 → (∀ x ∈ z, isByte x) → (∀ x ∈ z2, isByte x) → isV a → isV b → isV c → isV d → isV a2 → isV b2 → isV c2 → isV d2 → n ≤ 200 → n2 ≤ 200 →
    Calls Try.prog 19 #[frmV a b c d A n k, frmV a2 b2 c2 d2 A2 n2 k2] w fun e w' => e = .returned (.bool (decide ((a, b, c, d, z) = ((a2, b2, c2, d2, z2) : Fr)))) ∧ Below w.heap.size w w'
  twin : ∀ (a b c d : Int) (A : Option Addr) (n k : Nat) (z : List Int) (w : World), Arg w .u8 A n k z → (∀ x ∈ z, isByte x) → isV a → isV b → isV c → isV d → n ≤ 200 → Calls Try.prog 16 #[frmV a b c d A n k] w (FrmOut w a b c d z)

theorem hello_any (w : World) : Calls Try.prog 7 #[] w fun e w' => e = .returned (frmV 4096 0 0 0 none 0 0) ∧ Below w.heap.size w w' := by
  obtain ⟨x, hbel⟩ := box_frm w 0 0 0 0 none 0 0
  obtain ⟨w1, hw1⟩ : ∃ x : World, x = w.alloc (.cells #[.int .u32 0, .int .u32 0, .int .u32 0, .int .u32 0, .slice none 0 0] 25) := ⟨_, rfl⟩
  rw [← hw1] at x hbel
  obtain ⟨d0, d1, d2, d3, d4⟩ := x.frm
  have f0 := x.free 0
  have f1 := x.free 1
  have f2 := x.free 2
  have f3 := x.free 3
  have f4 := x.free 4
  obtain ⟨y0, y1, y2, y3, y4⟩ := (x.frm5 (.int .u32 4096) (.int .u32 0) (.int .u32 0) (.int .u32 0) (.slice none 0 0)).frm
  have BF := Lib.hid (below_frm (g := w.heap.size) hbel (Nat.le_refl _) (.int .u32 4096) (.int .u32 0) (.int .u32 0) (.int .u32 0) (.slice none 0 0))
  clear x hbel
  go_enter Try.func7, Try.ntmps7
  go_upto_region 1 with fail
  rw [← hw1]
  clear hw1
  go_wp2
  refine bodyPost_ret (v := frmV 4096 0 0 0 none 0 0) ?_ rfl ⟨rfl, BF.out⟩
  clear d0 d1 d2 d3 d4 f0 f1 f2 f3 f4
  simp [results, Try.f7, go_sem, y0, y1, y2, y3, y4]
def hel : Fr := (4096, 0, 0, 0, [])
theorem isV0 : isV 0 := ⟨by decide, by decide⟩
theorem isV4096 : isV 4096 := ⟨by decide, by decide⟩
theorem hel_is : isF hel := ⟨isV4096, isV0, isV0, isV0, fun z hz => by cases hz⟩
theorem hel_may : mayF hel := by decide
theorem hel_W : frW hel = [0, 0, 16, 0] ++ List.replicate 12 0 := by kernel_rfl
theorem frB_yes {f : Fr} (h : mayF f) : frB f = frT f ∧ frE f = 0 := ⟨if_pos h, if_pos h⟩
theorem frB_no {f : Fr} (h : ¬ mayF f) : frB f = [] ∧ frE f = 150 := ⟨if_neg h, if_neg h⟩
theorem frT_byte {f : Fr} (h : isF f) : ∀ z ∈ frT f, isByte z := sealed_byte (frW_byte h.2.2.2.2)
theorem frT_take (f : Fr) (h : isF f) : (frT f).take (16 + f.2.2.2.2.length) = frW f := by
  have hl := frW_length f
  have e := sealed_take (frW f)
  rw [sealed_length, hl, Nat.add_sub_cancel] at e
  exact e
end Go.Proofs.Ytdgfofemogmmkaa
