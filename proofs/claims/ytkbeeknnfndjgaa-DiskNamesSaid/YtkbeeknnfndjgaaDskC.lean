/- Layer 5, package disk: Crash. -/
import Derived.Test.YtkbeeknnfndjgaaDskX
namespace Go.Proofs.Ytkbeeknnfndjgaa
open Go.RowKit
set_option linter.unusedVariables false

set_option maxRecDepth 100000 in
set_option maxHeartbeats 1600000 in
theorem pcrash_any (A : Option Addr) (n c : Nat) (A' : Option Addr) (n' c' : Nat) (S : List Sec) (C : List Pnd) (Af : Option Addr) (nf cf : Nat) (F : List Int) (w : World) (hq : Dsk w A n c A' n' c' S C) (hs : SmallD S C) (hf : Arg w .u8 Af nf cf F) (hfb : ∀ z ∈ F, isByte z) :
    Calls Try.prog 32 #[diskV A n c A' n' c', .slice Af nf cf] w (DiskOut w (crS S C F) [] (chkD S C)) := by
  obtain ⟨x1, x2, hbel⟩ := boxes2 w A n c A' n' c' none 0 0 none 0 0
  have hsz : ((w.alloc (.cells #[.slice A n c, .slice A' n' c'] 25)).alloc (.cells #[.slice none 0 0, .slice none 0 0] 25)).heap.size = w.heap.size + 2 := by simp
  have M := check_any A n c A' n' c' S C _ (hq.below hbel)
  have X1 := Lib.hid x1
  have X2 := Lib.hid x2
  have BEL := Lib.hid hbel
  have HSZ := Lib.hid hsz
  have c0 := x1.cell 0
  have c1 := x1.cell 1
  simp only [List.getElem?_cons_zero, List.getElem?_cons_succ] at c0 c1
  cases hR : mayD S C with
  | true =>
    have hE : chkD S C = 0 := by unfold chkD; rw [hR]; rfl
    rw [hE] at M
    have M := Lib.hid M
    have BH := Lib.hid fun w3 hx hy => settled_any A n c A' n' c' S C Af nf cf F w3 hx hs hR hy hfb
    have hres : crS S C F = behindS S C F := by unfold crS; rw [if_pos hR]
    have hlen : (behindS S C F).length = n := by unfold behindS; rw [behindK_len, hq.secs.len]
    rw [hE, hres]
    have HQ := Lib.hid hq
    have HF := Lib.hid hf
    have HL := Lib.hid hlen
    obtain ⟨RS, hRS⟩ : ∃ RS, RS = behindS S C F := ⟨_, rfl⟩
    rw [← hRS] at BH HL ⊢
    clear x1 x2 hbel hsz hq hs hR hE hres hlen hRS hf hfb
    go_enter Try.func32, Try.ntmps32
    go_wp2_with fail
    refine M.out.mono ?_
    rintro e w3 ⟨rfl, hb3⟩
    have x1 := X1.out.below hb3 (by have := HSZ.out; omega)
    have x2 := X2.out.below hb3 (by have := HSZ.out; omega)
    have d0 := x1.cell 0
    have d1 := x1.cell 1
    simp only [List.getElem?_cons_zero, List.getElem?_cons_succ] at d0 d1
    have R2 := Lib.hid x2
    have B3 := Lib.hid (BEL.out.trans (hb3.mono (by have := HSZ.out; omega)))
    have BH := Lib.hid (BH.out w3 (HQ.out.below B3.out) (HF.out.below B3.out))
    have hz3 : w.heap.size + 2 ≤ w3.heap.size := by have h1 := x2.lt; omega
    clear hb3 x1 x2 c0 c1 M
    go_wp2_with fail
    refine BH.out.mono ?_
    rintro e w4 ⟨B, d, rfl, hown, hb4⟩
    have x2 := R2.out.below hb4 (by omega)
    have e0 := x2.cell 0
    have e1 := x2.cell 1
    have g0 := x2.free 0
    have g1 := x2.free 1
    simp only [List.getElem?_cons_zero, List.getElem?_cons_succ] at e0 e1
    have Q2 := Lib.hid x2
    have O4 := Lib.hid hown
    have B4 := Lib.hid (B3.out.trans (hb4.mono B3.out.size))
    clear x2 hown hb4 d0 d1
    go_wp2
    have z := Q2.out.two (.slice B n d) (.slice none 0 0)
    have z0 := z.cell 0
    have z1 := z.cell 1
    simp only [List.getElem?_cons_zero, List.getElem?_cons_succ] at z0 z1
    have O9 := O4.out.two Q2.out (.slice B n d) (.slice none 0 0)
    have hl := HL.out
    refine bodyPost_ret (v := .tuple #[diskV B n d none 0 0, .int .i64 0]) ?_ rfl ⟨B, d, none, 0, by rw [hl]; rfl, by rw [hl]; exact O9.lower (by omega), below_two B4.out (by omega) _ _⟩
    clear e0 e1 g0 g1
    simp [results, Try.f32, go_sem, z0, z1]
  | false =>
    have hE : chkD S C = 8 := by unfold chkD; rw [hR]; rfl
    rw [hE] at M
    have M := Lib.hid M
    have hres : crS S C F = [] := by unfold crS; rw [hR]; rfl
    rw [hE, hres]
    clear x1 x2 hbel hsz hq hs hR hE hres hf hfb
    go_enter Try.func32, Try.ntmps32
    go_wp2_with fail
    refine M.out.mono ?_
    rintro e w3 ⟨rfl, hb3⟩
    have x2 := X2.out.below hb3 (by have := HSZ.out; omega)
    have e0 := x2.cell 0
    have e1 := x2.cell 1
    have g0 := x2.free 0
    have g1 := x2.free 1
    simp only [List.getElem?_cons_zero, List.getElem?_cons_succ] at e0 e1
    have R2 := Lib.hid x2
    have B3 := Lib.hid (BEL.out.trans (hb3.mono (by have := HSZ.out; omega)))
    clear hb3 x2 c0 c1
    go_wp2
    have z := R2.out.two (.slice none 0 0) (.slice none 0 0)
    have z0 := z.cell 0
    have z1 := z.cell 1
    simp only [List.getElem?_cons_zero, List.getElem?_cons_succ] at z0 z1
    refine bodyPost_ret (v := .tuple #[diskV none 0 0 none 0 0, .int .i64 8]) ?_ rfl ⟨none, 0, none, 0, rfl, OwnDsk.nil _ _, below_two B3.out (by omega) _ _⟩
    clear e0 e1 g0 g1
    simp [results, Try.f32, go_sem, z0, z1]

end Go.Proofs.Ytkbeeknnfndjgaa
