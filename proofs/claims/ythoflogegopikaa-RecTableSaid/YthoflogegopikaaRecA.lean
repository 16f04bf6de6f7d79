/- Layer 11, alive: the chapter's examples, given RecDoes. -/
import Derived.Test.YthoflogegopikaaRecOne
import Derived.Deep.RegionHeld3
namespace Go.Proofs.Ythoflogegopikaa
open Go.RowKit
set_option linter.unusedVariables false

theorem texts_one {w : World} {A : Option Addr} {k c : Nat} {z : Txt} (h : Arg w .u8 A k c z) (hz : ∀ y ∈ z, isByte y) : Texts (w.alloc (.cells #[.slice A k c] 26)) (some ⟨w.heap.size, 0, none⟩) 1 1 [z] :=
  ⟨rfl, Nat.le_refl _, by decide, by simpa using hz, fun i hi => by
    obtain rfl : i = 0 := by omega
    have y := Blk.new w 26 [.slice A k c]
    exact ⟨_, 0, A, k, c, rfl, y.lt, (y.cell 0).trans rfl, h.below ((Below.refl _ _).alloc (Nat.le_refl _) _)⟩⟩
def rc1 : Rc := ⟨1, 258, 3, 1, 1, 0, true, true⟩
theorem rc1_is : isR rc1 := by unfold isR rc1; decide
theorem rc1_nt : ntB rc1 = [1, 1, 0, 0, 1, 2, 0, 0, 0, 3, 1, 1, 0, 3] := by decide
theorem rc1_t : recT rc1 = [1, 1, 0, 0, 1, 2, 0, 0, 0, 3, 1, 1, 0, 3] := by decide
theorem rc1_e : rcE rc1 = 0 := by decide
theorem go2_b : goB 2 = [2, 2] := by decide
theorem go2_e : goE 2 = 0 := by decide
theorem tab1 : tabR [ntB rc1] = some [rc1] := by decide
theorem str_nt : ((strOfNums [1, 1, 0, 0, 1, 2, 0, 0, 0, 3, 1, 1, 0, 3]).toList == [1, 1, 0, 0, 1, 2, 0, 0, 0, 3, 1, 1, 0, 3]) = true := by kernel_rfl
theorem str_go : ((strOfNums [2, 2]).toList == [2, 2]) = true := by kernel_rfl

set_option maxRecDepth 100000 in
set_option maxHeartbeats 1600000 in
theorem alive11_any (dz : RecDoes) (w : World) : Calls Try.prog 12 #[] w fun e w' => e = .returned (.bool true) ∧ Below w.heap.size w w' := by
  have ON := Lib.hid (fun wx => one11_any wx)
  have NP := Lib.hid (fun wx => (show Calls Try.prog 14 #[recV ⟨1, 258, 3, 1, 1, 0, true, true⟩] wx (RowOut .u8 5 wx [1, 1, 0, 0, 1, 2, 0, 0, 0, 3, 1, 1, 0, 3] 0) from by have h := dz.note rc1 wx rc1_is; rw [rc1_nt, rc1_e] at h; exact h))
  have GP := Lib.hid (fun wx => (show Calls Try.prog 10 #[.int .i64 2] wx (RowOut .u8 5 wx [2, 2] 0) from by have h := dz.gone 2 wx; rw [go2_b, go2_e] at h; exact h))
  have TP := Lib.hid (fun (A : Option Addr) (c : Nat) wx (h : Texts wx A 1 c [[1, 1, 0, 0, 1, 2, 0, 0, 0, 3, 1, 1, 0, 3]]) => (show Calls Try.prog 11 #[.slice A 1 c] wx (PutOut wx (some [⟨1, 258, 3, 1, 1, 0, true, true⟩])) from by have g := dz.table A 1 c _ wx h (by decide) (fun y hy => by obtain rfl : y = 0 := (by omega); decide); rw [← rc1_nt, tab1] at g; exact g))
  unfold RowOut at NP GP
  unfold PutOut at TP
  go_enter Try.func12, Try.ntmps12
  go_wp2_with fail
  refine (ON.out _).mono ?_
  rintro e w1 ⟨rfl, hb⟩
  have B := Lib.hid hb
  clear hb
  go_wp2_with fail
  refine (NP.out _).mono ?_
  rintro e w2 ⟨A1, k1, rfl, hown, hb⟩
  have R1 := Lib.hid (owns_base hown B.out.size)
  have B := Lib.hid (B.out.trans (hb.mono B.out.size))
  clear hown hb
  go_wp2_with fail
  refine (GP.out _).mono ?_
  rintro e w3 ⟨A2, k2, rfl, hown, hb⟩
  have R1 := Lib.hid (owns_below R1.out hb)
  have R2 := Lib.hid (owns_base hown B.out.size)
  have B := Lib.hid (B.out.trans (hb.mono B.out.size))
  clear hown hb
  have hal : Below w3.heap.size w3 (w3.alloc (.cells #[.slice A1 14 k1] 26)) := (Below.refl _ _).alloc (Nat.le_refl _) _
  have TX := Lib.hid (texts_one (Arg.own R1.out) (by rw [← rc1_t]; exact recT_byte rc1))
  have HAL := Lib.hid hal
  clear hal
  go_wp2_with fail
  refine (TP.out _ _ _ TX.out).mono ?_
  rintro e w4 ⟨A3, k3, rfl, hO, hb⟩
  have hb3 := HAL.out.trans (hb.mono HAL.out.size)
  have R1 := Lib.hid (owns_below R1.out hb3)
  have R2 := Lib.hid (owns_below R2.out hb3)
  have B := Lib.hid (B.out.trans (hb3.mono B.out.size))
  have O := Lib.hid (Recs.of_own hO)
  obtain ⟨bb, oo, eA, hlt, d0, d1, d2, d3, d4, d5, d6, d7⟩ := O.out.row (show 0 < 1 by decide)
  subst eA
  clear hO hb hb3 TX HAL hlt d0 d1 d2 d3 d4 d5 d6 d7
  obtain ⟨s1, hs1⟩ : ∃ s, s = strOfNums [1, 1, 0, 0, 1, 2, 0, 0, 0, 3, 1, 1, 0, 3] := ⟨_, rfl⟩
  obtain ⟨s2, hs2⟩ : ∃ s, s = strOfNums [2, 2] := ⟨_, rfl⟩
  have q1 : (s1.toList == [1, 1, 0, 0, 1, 2, 0, 0, 0, 3, 1, 1, 0, 3]) = true := by rw [hs1]; exact str_nt
  have q2 : (s2.toList == [2, 2]) = true := by rw [hs2]; exact str_go
  have S1 := Lib.hid hs1
  have S2 := Lib.hid hs2
  clear hs1 hs2
  unfold ansL ansE
  go_upto_region 4 with fail
  have hcur : Below w4.heap.size w4 w4.drew := below_drewN (Below.refl _ _) 1
  have keepX : ∀ wx, Below w4.heap.size w4 wx → wx.cell? ⟨bb, oo, none⟩ = some (.int .i64 1) ∧ wx.cell? ⟨bb, oo + 1, none⟩ = some (.int .u32 258) ∧ wx.cell? ⟨bb, oo + 2, none⟩ = some (.int .u32 3) ∧ wx.cell? ⟨bb, oo + 3, none⟩ = some (.int .i64 1) ∧ wx.cell? ⟨bb, oo + 4, none⟩ = some (.int .u8 1) ∧ wx.cell? ⟨bb, oo + 5, none⟩ = some (.int .i64 0) ∧ wx.cell? ⟨bb, oo + 6, none⟩ = some (.bool true) ∧ wx.cell? ⟨bb, oo + 7, none⟩ = some (.bool true) ∧ (convert 26 9 (.slice A1 14 k1)).run Try.prog wx = .ok (.string s1) wx ∧ (convert 26 9 (.slice A2 2 k2)).run Try.prog wx = .ok (.string s2) wx := fun wx hx => by
    obtain ⟨b2, o2, eA, hlt, d0, d1, d2, d3, d4, d5, d6, d7⟩ := (O.out.below hx).row (show 0 < 1 by decide)
    injection eA with eA; injection eA with eA1 eA2 _; subst eA1; subst eA2
    rw [S1.out, S2.out]
    simp only [Nat.zero_mul, Nat.add_zero] at d0 d1 d2 d3 d4 d5 d6 d7
    exact ⟨d0, d1, d2, d3, d4, d5, d6, d7, str_arg11 (Arg.own (owns_below R1.out hx)), str_arg11 (Arg.own (owns_below R2.out hx))⟩
  have hkX := keepX _ hcur
  clear NP GP TP
  go_region_held3 (fun w' => w'.cell? ⟨bb, oo, none⟩ = some (.int .i64 1) ∧ w'.cell? ⟨bb, oo + 1, none⟩ = some (.int .u32 258) ∧ w'.cell? ⟨bb, oo + 2, none⟩ = some (.int .u32 3) ∧ w'.cell? ⟨bb, oo + 3, none⟩ = some (.int .i64 1) ∧ w'.cell? ⟨bb, oo + 4, none⟩ = some (.int .u8 1) ∧ w'.cell? ⟨bb, oo + 5, none⟩ = some (.int .i64 0) ∧ w'.cell? ⟨bb, oo + 6, none⟩ = some (.bool true) ∧ w'.cell? ⟨bb, oo + 7, none⟩ = some (.bool true) ∧ (convert 26 9 (.slice A1 14 k1)).run Try.prog w' = .ok (.string s1) w' ∧ (convert 26 9 (.slice A2 2 k2)).run Try.prog w' = .ok (.string s2) w')
    (first | exact hkX | go_keep)
    (first
      | (go_at_call 9; with_reducible refine (ON.out _).mono ?_; rintro e wM ⟨rfl, hbM⟩; have hcur := hcur.trans (hbM.mono hcur.size); have hkX := keepX _ hcur))
  all_goals (go_wp2; go_ret; exact ⟨rfl, B.out.trans (hcur.mono B.out.size)⟩)
end Go.Proofs.Ythoflogegopikaa
