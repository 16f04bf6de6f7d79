/- Layer 5, package disk: Flush. -/
import Derived.Test.YtkbeeknnfndjgaaDskC
import Derived.Test.YtkbeeknnfndjgaaDskRp
import Derived.Deep.RegionWith
namespace Go.Proofs.Ytkbeeknnfndjgaa
open Go.RowKit
set_option linter.unusedVariables false

set_option maxRecDepth 100000 in
set_option maxHeartbeats 1600000 in
theorem pflush_any (A : Option Addr) (n c : Nat) (A' : Option Addr) (n' c' : Nat) (S : List Sec) (C : List Pnd) (w : World) (hq : Dsk w A n c A' n' c' S C) (hs : SmallD S C) :
    Calls Try.prog 30 #[diskV A n c A' n' c'] w (DiskOut w (flS S C) [] (chkD S C)) := by
  obtain ⟨x1, x2, hbel⟩ := boxes2 w A n c A' n' c' none 0 0 none 0 0
  have hsz : ((w.alloc (.cells #[.slice A n c, .slice A' n' c'] 25)).alloc (.cells #[.slice none 0 0, .slice none 0 0] 25)).heap.size = w.heap.size + 2 := by simp
  have M := check_any A n c A' n' c' S C _ (hq.below hbel)
  have X1 := Lib.hid x1
  have X2 := Lib.hid x2
  have BEL := Lib.hid hbel
  have HSZ := Lib.hid hsz
  have c0 := x1.cell 0
  have c1 := x1.cell 1
  simp only [List.getElem?_cons_zero, List.getElem?_cons_succ] at c0 c1
  have hl' := hq.pnds.len
  have hn' : n' ≤ 1000 := by rw [← hl']; have := hs.pnds; omega
  unfold flS
  rw [hl']
  clear hl'
  obtain ⟨F, hF⟩ : ∃ F, F = List.replicate n' (1 : Int) := ⟨_, rfl⟩
  have hfb : ∀ z ∈ F, isByte z := fun z hz => by
    rw [hF] at hz
    rw [List.eq_of_mem_replicate hz]
    exact ⟨by decide, by decide⟩
  rw [← hF]
  cases hR : mayD S C with
  | true =>
    have hE : chkD S C = 0 := by unfold chkD; rw [hR]; rfl
    rw [hE] at M
    have M := Lib.hid M
    have BH := Lib.hid fun w3 g hx hy => settled_any A n c A' n' c' S C (some ⟨g, 0, none⟩) n' n' F w3 hx hs hR hy hfb
    have hres : crS S C F = behindS S C F := by unfold crS; rw [if_pos hR]
    have hlen : (behindS S C F).length = n := by unfold behindS; rw [behindK_len, hq.secs.len]
    rw [hE, hres]
    have HQ := Lib.hid hq
    have HL := Lib.hid hlen
    obtain ⟨RS, hRS⟩ : ∃ RS, RS = behindS S C F := ⟨_, rfl⟩
    rw [← hRS] at BH HL ⊢
    clear x1 x2 hbel hsz hq hs hR hE hres hlen hRS hfb
    go_enter Try.func30, Try.ntmps30
    go_wp2_with fail
    refine M.out.mono ?_
    rintro e w3 ⟨rfl, hb3⟩
    have x1 := X1.out.below hb3 (by have := HSZ.out; omega)
    have x2 := X2.out.below hb3 (by have := HSZ.out; omega)
    have d0 := x1.cell 0
    have d1 := x1.cell 1
    simp only [List.getElem?_cons_zero, List.getElem?_cons_succ] at d0 d1
    have R2 := Lib.hid x2
    have B3 := Lib.hid (BEL.out.trans (hb3.mono (by have := HSZ.out; omega)))
    have hz3 : w.heap.size + 2 ≤ w3.heap.size := by have h1 := x2.lt; omega
    have HFE := Lib.hid hF
    have X1' := Lib.hid (X1.out.below hb3 (by have := HSZ.out; omega))
    clear hb3 x1 x2 c0 c1 M hF
    go_upto_region 4 with fail
    have hb34 : Below w3.heap.size w3 (w3.alloc (.cells #[.int .u8 1] 5)) := (Below.refl _ _).alloc (Nat.le_refl _) _
    have LX := Lib.hid (Blk.new w3 5 [.int .u8 1])
    have B34 := Lib.hid hb34
    have l0 := (X1'.out.below hb34 X1'.out.lt).cell 0
    have l1 := (X1'.out.below hb34 X1'.out.lt).cell 1
    simp only [List.getElem?_cons_zero, List.getElem?_cons_succ] at l0 l1
    clear hb34
    go_region_with ((first
      | (go_at_call 61; refine (repeat_any n' w3.heap.size hn' _ (by first | exact LX.out | exact LX.out.below (below_drewN (Below.refl _ _) 1) LX.out.lt)).mono ?_; rintro e w6 ⟨gR, rfl, hownR, hbR⟩; have hb6 : Below w3.heap.size w3 w6 := by first | exact B34.out.trans (hbR.mono B34.out.size) | exact (B34.out.trans ((below_drewN (Below.refl _ _) 1).mono B34.out.size)).trans (hbR.mono (Nat.le_trans B34.out.size (Nat.le_refl _)))
         have d60 := (X1'.out.below hb6 X1'.out.lt).cell 0; have d61 := (X1'.out.below hb6 X1'.out.lt).cell 1; simp only [List.getElem?_cons_zero, List.getElem?_cons_succ] at d60 d61; rw [← HFE.out] at hownR; have BH6 := Lib.hid (BH.out w6 gR ((HQ.out.below B3.out).below hb6) (Arg.own hownR)); have B6 := Lib.hid hb6; clear hownR hbR hb6)
      | (go_at_call 60; refine BH6.out.mono ?_; rintro e w4 ⟨B, d, rfl, hown, hb4⟩; have x2 := (R2.out.below B6.out R2.out.lt).below hb4 (Nat.lt_of_lt_of_le R2.out.lt B6.out.size); have e0 := x2.cell 0; have e1 := x2.cell 1; have g0 := x2.free 0; have g1 := x2.free 1; simp only [List.getElem?_cons_zero, List.getElem?_cons_succ] at e0 e1; have Q2 := Lib.hid x2; have hz6 : w3.heap.size ≤ w6.heap.size := B6.out.size; have O4 := Lib.hid (hown.lower (Nat.le_trans hz3 hz6)); have B4 := Lib.hid ((B3.out.trans (B6.out.mono B3.out.size)).trans (hb4.mono (Nat.le_trans B3.out.size hz6))); clear x2 hown hb4)))
    all_goals (
      go_wp2
      have z := Q2.out.two (.slice B n d) (.slice none 0 0)
      have z0 := z.cell 0
      have z1 := z.cell 1
      simp only [List.getElem?_cons_zero, List.getElem?_cons_succ] at z0 z1
      have O9 := O4.out.two Q2.out (.slice B n d) (.slice none 0 0)
      have hl := HL.out
      refine bodyPost_ret (v := .tuple #[diskV B n d none 0 0, .int .i64 0]) ?_ rfl ⟨B, d, none, 0, by rw [hl]; rfl, by rw [hl]; exact O9.lower (by omega), below_two B4.out (by omega) _ _⟩
      clear e0 e1 g0 g1
      simp [results, Try.f30, go_sem, z0, z1])
  | false =>
    have hE : chkD S C = 8 := by unfold chkD; rw [hR]; rfl
    rw [hE] at M
    have M := Lib.hid M
    have hres : crS S C F = [] := by unfold crS; rw [hR]; rfl
    rw [hE, hres]
    clear x1 x2 hbel hsz hq hs hR hE hres hfb
    go_enter Try.func30, Try.ntmps30
    go_wp2_with fail
    refine M.out.mono ?_
    rintro e w3 ⟨rfl, hb3⟩
    have x2 := X2.out.below hb3 (by have := HSZ.out; omega)
    have e0 := x2.cell 0
    have e1 := x2.cell 1
    have g0 := x2.free 0
    have g1 := x2.free 1
    simp only [List.getElem?_cons_zero, List.getElem?_cons_succ] at e0 e1
    have R2 := Lib.hid x2
    have B3 := Lib.hid (BEL.out.trans (hb3.mono (by have := HSZ.out; omega)))
    clear hb3 x2 c0 c1
    go_wp2
    have z := R2.out.two (.slice none 0 0) (.slice none 0 0)
    have z0 := z.cell 0
    have z1 := z.cell 1
    simp only [List.getElem?_cons_zero, List.getElem?_cons_succ] at z0 z1
    refine bodyPost_ret (v := .tuple #[diskV none 0 0 none 0 0, .int .i64 8]) ?_ rfl ⟨none, 0, none, 0, rfl, OwnDsk.nil _ _, below_two B3.out (by omega) _ _⟩
    clear e0 e1 g0 g1
    simp [results, Try.f30, go_sem, z0, z1]

end Go.Proofs.Ytkbeeknnfndjgaa
