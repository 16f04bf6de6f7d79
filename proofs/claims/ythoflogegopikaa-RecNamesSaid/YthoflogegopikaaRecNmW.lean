/- Layer 11, RecNames: the walk, given RecDoes. -/
import Derived.Test.YthoflogegopikaaRecA
import Derived.Laws.Tables
import Derived.Deep.Cut
namespace Go.Proofs.Ythoflogegopikaa
open Go.RowKit
set_option linter.unusedVariables false

theorem Blk.row_away {w : World} {g g' : Nat} {t : TypeId} {cs : List Value} (h : Blk w g t cs) (hg : g ≠ g') (c : Array Value) : Blk (w.setRow g' c) g t cs := (setRow_other w g' g c hg).trans h
theorem Blk.cell_away {w : World} {g g' : Nat} {t : TypeId} {cs : List Value} (h : Blk w g t cs) (hg : g ≠ g') (i : Nat) (u : Value) : Blk (w.setCell ⟨g', i, none⟩ u) g t cs := h.grown (grownBy_set w g' i u) (fun e => hg (by injection e))
theorem tab_bad : tabR [[2]] = none := by decide
theorem tab_nil : tabR [[2, 0]] = some [] := by decide
theorem go3_b : goB 3 = [] := by decide
theorem go3_e : goE 3 = 2 := by decide
set_option maxRecDepth 100000 in
set_option maxHeartbeats 12800000 in
theorem recnames_of (dz : RecDoes) (w : World) : Calls Try.prog 3 #[] w fun e w' => e = .returned (.bool true) ∧ Below w.heap.size w w' := by
  have AL := Lib.hid (fun wx => alive11_any dz wx)
  have ON := Lib.hid (fun wx => one11_any wx)
  have GP := Lib.hid (fun wx => (show Calls Try.prog 10 #[.int .i64 3] wx (RowOut .u8 5 wx [] 2) from by have h := dz.gone 3 wx; rw [go3_b, go3_e] at h; exact h))
  unfold RowOut at GP
  have T1 := Lib.hid (fun (A : Option Addr) (c : Nat) wx (h : Texts wx A 1 c [[2]]) => (show Calls Try.prog 11 #[.slice A 1 c] wx (PutOut wx none) from by have g := dz.table A 1 c _ wx h (by decide) (fun y hy => by obtain rfl : y = 0 := (by omega); decide); rw [tab_bad] at g; exact g))
  have T2 := Lib.hid (fun (A : Option Addr) (c : Nat) wx (h : Texts wx A 1 c [[2, 0]]) => (show Calls Try.prog 11 #[.slice A 1 c] wx (PutOut wx (some [])) from by have g := dz.table A 1 c _ wx h (by decide) (fun y hy => by obtain rfl : y = 0 := (by omega); decide); rw [tab_nil] at g; exact g))
  unfold PutOut at T1 T2
  have B := Lib.hid (Below.refl w.heap.size w)
  have Ca := Lib.hid (fun wx => (show Calls Try.prog 13 #[.agg #[.int .i64 1, .int .u32 258, .int .u32 3, .int .i64 1, .int .u8 2, .int .i64 0, .bool true, .bool true]] wx (fun e w' => e = .returned (.int .i64 110) ∧ Below wx.heap.size wx w') from by have g := dz.check ⟨1, 258, 3, 1, 2, 0, true, true⟩ wx (by unfold isR; decide); rw [show rcE ⟨1, 258, 3, 1, 2, 0, true, true⟩ = 110 by decide] at g; exact g))
  have Cb := Lib.hid (fun wx => (show Calls Try.prog 13 #[.agg #[.int .i64 3, .int .u32 258, .int .u32 3, .int .i64 1, .int .u8 1, .int .i64 0, .bool true, .bool true]] wx (fun e w' => e = .returned (.int .i64 110) ∧ Below wx.heap.size wx w') from by have g := dz.check ⟨3, 258, 3, 1, 1, 0, true, true⟩ wx (by unfold isR; decide); rw [show rcE ⟨3, 258, 3, 1, 1, 0, true, true⟩ = 110 by decide] at g; exact g))
  have Cc := Lib.hid (fun wx => (show Calls Try.prog 13 #[.agg #[.int .i64 1, .int .u32 0, .int .u32 3, .int .i64 1, .int .u8 1, .int .i64 0, .bool true, .bool true]] wx (fun e w' => e = .returned (.int .i64 110) ∧ Below wx.heap.size wx w') from by have g := dz.check ⟨1, 0, 3, 1, 1, 0, true, true⟩ wx (by unfold isR; decide); rw [show rcE ⟨1, 0, 3, 1, 1, 0, true, true⟩ = 110 by decide] at g; exact g))
  have Cd := Lib.hid (fun wx => (show Calls Try.prog 13 #[.agg #[.int .i64 1, .int .u32 258, .int .u32 3, .int .i64 1, .int .u8 1, .int .i64 1, .bool true, .bool true]] wx (fun e w' => e = .returned (.int .i64 110) ∧ Below wx.heap.size wx w') from by have g := dz.check ⟨1, 258, 3, 1, 1, 1, true, true⟩ wx (by unfold isR; decide); rw [show rcE ⟨1, 258, 3, 1, 1, 1, true, true⟩ = 110 by decide] at g; exact g))
  have Ce := Lib.hid (fun wx => (show Calls Try.prog 13 #[.agg #[.int .i64 1, .int .u32 258, .int .u32 3, .int .i64 1, .int .u8 3, .int .i64 1, .bool false, .bool true]] wx (fun e w' => e = .returned (.int .i64 0) ∧ Below wx.heap.size wx w') from by have g := dz.check ⟨1, 258, 3, 1, 3, 1, false, true⟩ wx (by unfold isR; decide); rw [show rcE ⟨1, 258, 3, 1, 3, 1, false, true⟩ = 0 by decide] at g; exact g))
  have Cf := Lib.hid (fun wx => (show Calls Try.prog 13 #[.agg #[.int .i64 1, .int .u32 258, .int .u32 3, .int .i64 1, .int .u8 2, .int .i64 0, .bool false, .bool true]] wx (fun e w' => e = .returned (.int .i64 110) ∧ Below wx.heap.size wx w') from by have g := dz.check ⟨1, 258, 3, 1, 2, 0, false, true⟩ wx (by unfold isR; decide); rw [show rcE ⟨1, 258, 3, 1, 2, 0, false, true⟩ = 110 by decide] at g; exact g))
  have Cg := Lib.hid (fun wx => (show Calls Try.prog 13 #[.agg #[.int .i64 1, .int .u32 258, .int .u32 3, .int .i64 1, .int .u8 4, .int .i64 0, .bool true, .bool true]] wx (fun e w' => e = .returned (.int .i64 110) ∧ Below wx.heap.size wx w') from by have g := dz.check ⟨1, 258, 3, 1, 4, 0, true, true⟩ wx (by unfold isR; decide); rw [show rcE ⟨1, 258, 3, 1, 4, 0, true, true⟩ = 110 by decide] at g; exact g))
  clear dz
  go_enter Try.func3, Try.ntmps3
  go_wp2_with fail
  refine (ON.out _).mono ?_
  rintro e w1 ⟨rfl, hb⟩
  have B := Lib.hid (B.out.trans (hb.mono B.out.size))
  clear hb
  go_wp2_with fail
  refine (ON.out _).mono ?_
  rintro e w2 ⟨rfl, hb⟩
  have B := Lib.hid (B.out.trans (hb.mono B.out.size))
  clear hb
  go_wp2_with fail
  refine (ON.out _).mono ?_
  rintro e w3 ⟨rfl, hb⟩
  have B := Lib.hid (B.out.trans (hb.mono B.out.size))
  clear hb
  go_wp2_with fail
  refine (ON.out _).mono ?_
  rintro e w4 ⟨rfl, hb⟩
  have B := Lib.hid (B.out.trans (hb.mono B.out.size))
  clear hb
  have k0 : Blk (w4.alloc (.cells #[.int .i64 1, .int .u32 258, .int .u32 3, .int .i64 1, .int .u8 2, .int .i64 0, .bool true, .bool true] 24)) w4.heap.size 24 (recL ⟨1, 258, 3, 1, 2, 0, true, true⟩) := Blk.new w4 24 (recL ⟨1, 258, 3, 1, 2, 0, true, true⟩)
  have hb : Below w4.heap.size w4 (w4.alloc (.cells #[.int .i64 1, .int .u32 258, .int .u32 3, .int .i64 1, .int .u8 2, .int .i64 0, .bool true, .bool true] 24)) := (Below.refl _ _).alloc (Nat.le_refl _) _
  have hs0 : (w4.alloc (.cells #[.int .i64 1, .int .u32 258, .int .u32 3, .int .i64 1, .int .u8 2, .int .i64 0, .bool true, .bool true] 24)).heap.size = w4.heap.size + 1 := by rw [World.size_alloc]
  obtain ⟨va0, hva0⟩ : ∃ v, v = w4.alloc (.cells #[.int .i64 1, .int .u32 258, .int .u32 3, .int .i64 1, .int .u8 2, .int .i64 0, .bool true, .bool true] 24) := ⟨_, rfl⟩
  rw [← hva0] at k0 hs0 hb
  have B := Lib.hid (B.out.trans (hb.mono B.out.size))
  have Xa := Lib.hid k0
  clear k0 hb
  have k1 : Blk (va0.alloc (.cells #[.int .i64 3, .int .u32 258, .int .u32 3, .int .i64 1, .int .u8 1, .int .i64 0, .bool true, .bool true] 24)) va0.heap.size 24 (recL ⟨3, 258, 3, 1, 1, 0, true, true⟩) := Blk.new va0 24 (recL ⟨3, 258, 3, 1, 1, 0, true, true⟩)
  have hb : Below va0.heap.size va0 (va0.alloc (.cells #[.int .i64 3, .int .u32 258, .int .u32 3, .int .i64 1, .int .u8 1, .int .i64 0, .bool true, .bool true] 24)) := (Below.refl _ _).alloc (Nat.le_refl _) _
  have hs1 : (va0.alloc (.cells #[.int .i64 3, .int .u32 258, .int .u32 3, .int .i64 1, .int .u8 1, .int .i64 0, .bool true, .bool true] 24)).heap.size = w4.heap.size + 1 + 1 := by rw [World.size_alloc, hs0]
  rw [hs0] at k1
  obtain ⟨va1, hva1⟩ : ∃ v, v = va0.alloc (.cells #[.int .i64 3, .int .u32 258, .int .u32 3, .int .i64 1, .int .u8 1, .int .i64 0, .bool true, .bool true] 24) := ⟨_, rfl⟩
  rw [← hva1] at k1 hs1 hb
  have B := Lib.hid (B.out.trans (hb.mono B.out.size))
  have Xa := Lib.hid (Xa.out.below hb Xa.out.lt)
  have Xb := Lib.hid k1
  clear k1 hb
  have k2 : Blk (va1.alloc (.cells #[.int .i64 1, .int .u32 0, .int .u32 3, .int .i64 1, .int .u8 1, .int .i64 0, .bool true, .bool true] 24)) va1.heap.size 24 (recL ⟨1, 0, 3, 1, 1, 0, true, true⟩) := Blk.new va1 24 (recL ⟨1, 0, 3, 1, 1, 0, true, true⟩)
  have hb : Below va1.heap.size va1 (va1.alloc (.cells #[.int .i64 1, .int .u32 0, .int .u32 3, .int .i64 1, .int .u8 1, .int .i64 0, .bool true, .bool true] 24)) := (Below.refl _ _).alloc (Nat.le_refl _) _
  have hs2 : (va1.alloc (.cells #[.int .i64 1, .int .u32 0, .int .u32 3, .int .i64 1, .int .u8 1, .int .i64 0, .bool true, .bool true] 24)).heap.size = w4.heap.size + 1 + 1 + 1 := by rw [World.size_alloc, hs1]
  rw [hs1] at k2
  obtain ⟨va2, hva2⟩ : ∃ v, v = va1.alloc (.cells #[.int .i64 1, .int .u32 0, .int .u32 3, .int .i64 1, .int .u8 1, .int .i64 0, .bool true, .bool true] 24) := ⟨_, rfl⟩
  rw [← hva2] at k2 hs2 hb
  have B := Lib.hid (B.out.trans (hb.mono B.out.size))
  have Xa := Lib.hid (Xa.out.below hb Xa.out.lt)
  have Xb := Lib.hid (Xb.out.below hb Xb.out.lt)
  have Xc := Lib.hid k2
  clear k2 hb
  have k3 : Blk (va2.alloc (.cells #[.int .i64 1, .int .u32 258, .int .u32 3, .int .i64 1, .int .u8 1, .int .i64 1, .bool true, .bool true] 24)) va2.heap.size 24 (recL ⟨1, 258, 3, 1, 1, 1, true, true⟩) := Blk.new va2 24 (recL ⟨1, 258, 3, 1, 1, 1, true, true⟩)
  have hb : Below va2.heap.size va2 (va2.alloc (.cells #[.int .i64 1, .int .u32 258, .int .u32 3, .int .i64 1, .int .u8 1, .int .i64 1, .bool true, .bool true] 24)) := (Below.refl _ _).alloc (Nat.le_refl _) _
  have hs3 : (va2.alloc (.cells #[.int .i64 1, .int .u32 258, .int .u32 3, .int .i64 1, .int .u8 1, .int .i64 1, .bool true, .bool true] 24)).heap.size = w4.heap.size + 1 + 1 + 1 + 1 := by rw [World.size_alloc, hs2]
  rw [hs2] at k3
  obtain ⟨va3, hva3⟩ : ∃ v, v = va2.alloc (.cells #[.int .i64 1, .int .u32 258, .int .u32 3, .int .i64 1, .int .u8 1, .int .i64 1, .bool true, .bool true] 24) := ⟨_, rfl⟩
  rw [← hva3] at k3 hs3 hb
  have B := Lib.hid (B.out.trans (hb.mono B.out.size))
  have Xa := Lib.hid (Xa.out.below hb Xa.out.lt)
  have Xb := Lib.hid (Xb.out.below hb Xb.out.lt)
  have Xc := Lib.hid (Xc.out.below hb Xc.out.lt)
  have Xd := Lib.hid k3
  clear k3 hb
  go_wp2_with fail
  rw [← hva0, ← hva1, ← hva2, ← hva3]
  clear hva0 hva1 hva2 hva3 hs0 hs1 hs2 hs3
  refine (ON.out _).mono ?_
  rintro e w5 ⟨rfl, hb⟩
  have B := Lib.hid (B.out.trans (hb.mono B.out.size))
  have Xa := Lib.hid (Xa.out.below hb Xa.out.lt)
  have Xb := Lib.hid (Xb.out.below hb Xb.out.lt)
  have Xc := Lib.hid (Xc.out.below hb Xc.out.lt)
  have Xd := Lib.hid (Xd.out.below hb Xd.out.lt)
  clear hb
  go_wp2_with fail
  refine (ON.out _).mono ?_
  rintro e w6 ⟨rfl, hb⟩
  have B := Lib.hid (B.out.trans (hb.mono B.out.size))
  have Xa := Lib.hid (Xa.out.below hb Xa.out.lt)
  have Xb := Lib.hid (Xb.out.below hb Xb.out.lt)
  have Xc := Lib.hid (Xc.out.below hb Xc.out.lt)
  have Xd := Lib.hid (Xd.out.below hb Xd.out.lt)
  clear hb
  go_wp2_with fail
  refine (ON.out _).mono ?_
  rintro e w7 ⟨rfl, hb⟩
  have B := Lib.hid (B.out.trans (hb.mono B.out.size))
  have Xa := Lib.hid (Xa.out.below hb Xa.out.lt)
  have Xb := Lib.hid (Xb.out.below hb Xb.out.lt)
  have Xc := Lib.hid (Xc.out.below hb Xc.out.lt)
  have Xd := Lib.hid (Xd.out.below hb Xd.out.lt)
  clear hb
  have k0 : Blk (w7.alloc (.cells #[.int .i64 1, .int .u32 258, .int .u32 3, .int .i64 1, .int .u8 3, .int .i64 1, .bool false, .bool true] 24)) w7.heap.size 24 (recL ⟨1, 258, 3, 1, 3, 1, false, true⟩) := Blk.new w7 24 (recL ⟨1, 258, 3, 1, 3, 1, false, true⟩)
  have hb : Below w7.heap.size w7 (w7.alloc (.cells #[.int .i64 1, .int .u32 258, .int .u32 3, .int .i64 1, .int .u8 3, .int .i64 1, .bool false, .bool true] 24)) := (Below.refl _ _).alloc (Nat.le_refl _) _
  have hs0 : (w7.alloc (.cells #[.int .i64 1, .int .u32 258, .int .u32 3, .int .i64 1, .int .u8 3, .int .i64 1, .bool false, .bool true] 24)).heap.size = w7.heap.size + 1 := by rw [World.size_alloc]
  obtain ⟨vb0, hvb0⟩ : ∃ v, v = w7.alloc (.cells #[.int .i64 1, .int .u32 258, .int .u32 3, .int .i64 1, .int .u8 3, .int .i64 1, .bool false, .bool true] 24) := ⟨_, rfl⟩
  rw [← hvb0] at k0 hs0 hb
  have B := Lib.hid (B.out.trans (hb.mono B.out.size))
  have Xa := Lib.hid (Xa.out.below hb Xa.out.lt)
  have Xb := Lib.hid (Xb.out.below hb Xb.out.lt)
  have Xc := Lib.hid (Xc.out.below hb Xc.out.lt)
  have Xd := Lib.hid (Xd.out.below hb Xd.out.lt)
  have Xe := Lib.hid k0
  clear k0 hb
  have k1 : Blk (vb0.alloc (.cells #[.int .i64 1, .int .u32 258, .int .u32 3, .int .i64 1, .int .u8 2, .int .i64 0, .bool false, .bool true] 24)) vb0.heap.size 24 (recL ⟨1, 258, 3, 1, 2, 0, false, true⟩) := Blk.new vb0 24 (recL ⟨1, 258, 3, 1, 2, 0, false, true⟩)
  have hb : Below vb0.heap.size vb0 (vb0.alloc (.cells #[.int .i64 1, .int .u32 258, .int .u32 3, .int .i64 1, .int .u8 2, .int .i64 0, .bool false, .bool true] 24)) := (Below.refl _ _).alloc (Nat.le_refl _) _
  have hs1 : (vb0.alloc (.cells #[.int .i64 1, .int .u32 258, .int .u32 3, .int .i64 1, .int .u8 2, .int .i64 0, .bool false, .bool true] 24)).heap.size = w7.heap.size + 1 + 1 := by rw [World.size_alloc, hs0]
  rw [hs0] at k1
  obtain ⟨vb1, hvb1⟩ : ∃ v, v = vb0.alloc (.cells #[.int .i64 1, .int .u32 258, .int .u32 3, .int .i64 1, .int .u8 2, .int .i64 0, .bool false, .bool true] 24) := ⟨_, rfl⟩
  rw [← hvb1] at k1 hs1 hb
  have B := Lib.hid (B.out.trans (hb.mono B.out.size))
  have Xa := Lib.hid (Xa.out.below hb Xa.out.lt)
  have Xb := Lib.hid (Xb.out.below hb Xb.out.lt)
  have Xc := Lib.hid (Xc.out.below hb Xc.out.lt)
  have Xd := Lib.hid (Xd.out.below hb Xd.out.lt)
  have Xe := Lib.hid (Xe.out.below hb Xe.out.lt)
  have Xf := Lib.hid k1
  clear k1 hb
  have k2 : Blk (vb1.alloc (.cells #[.int .i64 1, .int .u32 258, .int .u32 3, .int .i64 1, .int .u8 4, .int .i64 0, .bool true, .bool true] 24)) vb1.heap.size 24 (recL ⟨1, 258, 3, 1, 4, 0, true, true⟩) := Blk.new vb1 24 (recL ⟨1, 258, 3, 1, 4, 0, true, true⟩)
  have hb : Below vb1.heap.size vb1 (vb1.alloc (.cells #[.int .i64 1, .int .u32 258, .int .u32 3, .int .i64 1, .int .u8 4, .int .i64 0, .bool true, .bool true] 24)) := (Below.refl _ _).alloc (Nat.le_refl _) _
  have hs2 : (vb1.alloc (.cells #[.int .i64 1, .int .u32 258, .int .u32 3, .int .i64 1, .int .u8 4, .int .i64 0, .bool true, .bool true] 24)).heap.size = w7.heap.size + 1 + 1 + 1 := by rw [World.size_alloc, hs1]
  rw [hs1] at k2
  obtain ⟨vb2, hvb2⟩ : ∃ v, v = vb1.alloc (.cells #[.int .i64 1, .int .u32 258, .int .u32 3, .int .i64 1, .int .u8 4, .int .i64 0, .bool true, .bool true] 24) := ⟨_, rfl⟩
  rw [← hvb2] at k2 hs2 hb
  have B := Lib.hid (B.out.trans (hb.mono B.out.size))
  have Xa := Lib.hid (Xa.out.below hb Xa.out.lt)
  have Xb := Lib.hid (Xb.out.below hb Xb.out.lt)
  have Xc := Lib.hid (Xc.out.below hb Xc.out.lt)
  have Xd := Lib.hid (Xd.out.below hb Xd.out.lt)
  have Xe := Lib.hid (Xe.out.below hb Xe.out.lt)
  have Xf := Lib.hid (Xf.out.below hb Xf.out.lt)
  have Xg := Lib.hid k2
  clear k2 hb
  go_wp2_with fail
  rw [← hvb0, ← hvb1, ← hvb2]
  clear hvb0 hvb1 hvb2 hs0 hs1 hs2
  refine (GP.out _).mono ?_
  rintro e w8 ⟨A8, k8, rfl, hO, hb⟩
  have B := Lib.hid (B.out.trans (hb.mono B.out.size))
  have Xa := Lib.hid (Xa.out.below hb Xa.out.lt)
  have Xb := Lib.hid (Xb.out.below hb Xb.out.lt)
  have Xc := Lib.hid (Xc.out.below hb Xc.out.lt)
  have Xd := Lib.hid (Xd.out.below hb Xd.out.lt)
  have Xe := Lib.hid (Xe.out.below hb Xe.out.lt)
  have Xf := Lib.hid (Xf.out.below hb Xf.out.lt)
  have Xg := Lib.hid (Xg.out.below hb Xg.out.lt)
  clear hb hO
  have hb1 : Below w8.heap.size w8 (w8.alloc (.cells #[.int .u8 2] 5)) := (Below.refl _ _).alloc (Nat.le_refl _) _
  have ha : Arg (w8.alloc (.cells #[.int .u8 2] 5)) .u8 (some ⟨w8.heap.size, 0, none⟩) 1 1 [2] := ⟨lit_row w8 5 .u8 [2] _ _ _ rfl rfl (by simp), rfl, Nat.le_refl _, by decide⟩
  have hb2 : Below (w8.alloc (.cells #[.int .u8 2] 5)).heap.size (w8.alloc (.cells #[.int .u8 2] 5)) ((w8.alloc (.cells #[.int .u8 2] 5)).alloc (.cells #[.slice (some ⟨w8.heap.size, 0, none⟩) 1 1] 26)) := (Below.refl _ _).alloc (Nat.le_refl _) _
  have ht := texts_one ha (by intro y hy; simp at hy; unfold isByte; omega)
  have hb := hb1.trans (hb2.mono hb1.size)
  have B := Lib.hid (B.out.trans (hb.mono B.out.size))
  have Xa := Lib.hid (Xa.out.below hb Xa.out.lt)
  have Xb := Lib.hid (Xb.out.below hb Xb.out.lt)
  have Xc := Lib.hid (Xc.out.below hb Xc.out.lt)
  have Xd := Lib.hid (Xd.out.below hb Xd.out.lt)
  have Xe := Lib.hid (Xe.out.below hb Xe.out.lt)
  have Xf := Lib.hid (Xf.out.below hb Xf.out.lt)
  have Xg := Lib.hid (Xg.out.below hb Xg.out.lt)
  have TX := Lib.hid ht
  rw [World.size_alloc] at TX
  obtain ⟨Vs, hVs⟩ : ∃ v, v = (w8.alloc (.cells #[.int .u8 2] 5)).alloc (.cells #[.slice (some ⟨w8.heap.size, 0, none⟩) 1 1] 26) := ⟨_, rfl⟩
  rw [← hVs] at TX B Xa Xb Xc Xd Xe Xf Xg
  clear ha hb1 hb2 ht hb
  go_wp2_with fail
  rw [← hVs]
  clear hVs
  refine (T1.out _ _ _ TX.out).mono ?_
  rintro e w9 ⟨Axs, cxs, rfl, hO, hb⟩
  have B := Lib.hid (B.out.trans (hb.mono B.out.size))
  have Xa := Lib.hid (Xa.out.below hb Xa.out.lt)
  have Xb := Lib.hid (Xb.out.below hb Xb.out.lt)
  have Xc := Lib.hid (Xc.out.below hb Xc.out.lt)
  have Xd := Lib.hid (Xd.out.below hb Xd.out.lt)
  have Xe := Lib.hid (Xe.out.below hb Xe.out.lt)
  have Xf := Lib.hid (Xf.out.below hb Xf.out.lt)
  have Xg := Lib.hid (Xg.out.below hb Xg.out.lt)
  clear hb hO TX
  have hb1 : Below w9.heap.size w9 (w9.alloc (.cells #[.int .u8 2, .int .u8 0] 5)) := (Below.refl _ _).alloc (Nat.le_refl _) _
  have ha : Arg (w9.alloc (.cells #[.int .u8 2, .int .u8 0] 5)) .u8 (some ⟨w9.heap.size, 0, none⟩) 2 2 [2, 0] := ⟨lit_row w9 5 .u8 [2, 0] _ _ _ rfl rfl (by simp), rfl, Nat.le_refl _, by decide⟩
  have hb2 : Below (w9.alloc (.cells #[.int .u8 2, .int .u8 0] 5)).heap.size (w9.alloc (.cells #[.int .u8 2, .int .u8 0] 5)) ((w9.alloc (.cells #[.int .u8 2, .int .u8 0] 5)).alloc (.cells #[.slice (some ⟨w9.heap.size, 0, none⟩) 2 2] 26)) := (Below.refl _ _).alloc (Nat.le_refl _) _
  have ht := texts_one ha (by intro y hy; simp at hy; unfold isByte; omega)
  have hb := hb1.trans (hb2.mono hb1.size)
  have B := Lib.hid (B.out.trans (hb.mono B.out.size))
  have Xa := Lib.hid (Xa.out.below hb Xa.out.lt)
  have Xb := Lib.hid (Xb.out.below hb Xb.out.lt)
  have Xc := Lib.hid (Xc.out.below hb Xc.out.lt)
  have Xd := Lib.hid (Xd.out.below hb Xd.out.lt)
  have Xe := Lib.hid (Xe.out.below hb Xe.out.lt)
  have Xf := Lib.hid (Xf.out.below hb Xf.out.lt)
  have Xg := Lib.hid (Xg.out.below hb Xg.out.lt)
  have TX := Lib.hid ht
  rw [World.size_alloc] at TX
  obtain ⟨Vt, hVt⟩ : ∃ v, v = (w9.alloc (.cells #[.int .u8 2, .int .u8 0] 5)).alloc (.cells #[.slice (some ⟨w9.heap.size, 0, none⟩) 2 2] 26) := ⟨_, rfl⟩
  rw [← hVt] at TX B Xa Xb Xc Xd Xe Xf Xg
  clear ha hb1 hb2 ht hb
  go_wp2_with fail
  rw [← hVt]
  clear hVt
  refine (T2.out _ _ _ TX.out).mono ?_
  rintro e w10 ⟨Axt, cxt, rfl, hO, hb⟩
  have B := Lib.hid (B.out.trans (hb.mono B.out.size))
  have Xa := Lib.hid (Xa.out.below hb Xa.out.lt)
  have Xb := Lib.hid (Xb.out.below hb Xb.out.lt)
  have Xc := Lib.hid (Xc.out.below hb Xc.out.lt)
  have Xd := Lib.hid (Xd.out.below hb Xd.out.lt)
  have Xe := Lib.hid (Xe.out.below hb Xe.out.lt)
  have Xf := Lib.hid (Xf.out.below hb Xf.out.lt)
  have Xg := Lib.hid (Xg.out.below hb Xg.out.lt)
  clear hb hO TX
  go_wp2_with fail
  refine (AL.out _).mono ?_
  rintro e w11 ⟨rfl, hb⟩
  have B := Lib.hid (B.out.trans (hb.mono B.out.size))
  have Xa := Lib.hid (Xa.out.below hb Xa.out.lt)
  have Xb := Lib.hid (Xb.out.below hb Xb.out.lt)
  have Xc := Lib.hid (Xc.out.below hb Xc.out.lt)
  have Xd := Lib.hid (Xd.out.below hb Xd.out.lt)
  have Xe := Lib.hid (Xe.out.below hb Xe.out.lt)
  have Xf := Lib.hid (Xf.out.below hb Xf.out.lt)
  have Xg := Lib.hid (Xg.out.below hb Xg.out.lt)
  clear hb
  have x8 := Xa.out
  obtain ⟨c0, c1, c2, c3, c4, c5, c6, c7⟩ := Blk.rec (r := ⟨1, 258, 3, 1, 2, 0, true, true⟩) x8
  clear x8
  dsimp only at c0 c1 c2 c3 c4 c5 c6 c7
  go_wp2_with fail
  refine (Ca.out _).mono ?_
  rintro e w12 ⟨rfl, hb⟩
  have B := Lib.hid (B.out.trans (hb.mono B.out.size))
  have Xb := Lib.hid (Xb.out.below hb Xb.out.lt)
  have Xc := Lib.hid (Xc.out.below hb Xc.out.lt)
  have Xd := Lib.hid (Xd.out.below hb Xd.out.lt)
  have Xe := Lib.hid (Xe.out.below hb Xe.out.lt)
  have Xf := Lib.hid (Xf.out.below hb Xf.out.lt)
  have Xg := Lib.hid (Xg.out.below hb Xg.out.lt)
  clear hb c0 c1 c2 c3 c4 c5 c6 c7 Xa Ca
  have x8 := Xb.out
  obtain ⟨c0, c1, c2, c3, c4, c5, c6, c7⟩ := Blk.rec (r := ⟨3, 258, 3, 1, 1, 0, true, true⟩) x8
  clear x8
  dsimp only at c0 c1 c2 c3 c4 c5 c6 c7
  go_wp2_with fail
  refine (Cb.out _).mono ?_
  rintro e w13 ⟨rfl, hb⟩
  have B := Lib.hid (B.out.trans (hb.mono B.out.size))
  have Xc := Lib.hid (Xc.out.below hb Xc.out.lt)
  have Xd := Lib.hid (Xd.out.below hb Xd.out.lt)
  have Xe := Lib.hid (Xe.out.below hb Xe.out.lt)
  have Xf := Lib.hid (Xf.out.below hb Xf.out.lt)
  have Xg := Lib.hid (Xg.out.below hb Xg.out.lt)
  clear hb c0 c1 c2 c3 c4 c5 c6 c7 Xb Cb
  have x8 := Xc.out
  obtain ⟨c0, c1, c2, c3, c4, c5, c6, c7⟩ := Blk.rec (r := ⟨1, 0, 3, 1, 1, 0, true, true⟩) x8
  clear x8
  dsimp only at c0 c1 c2 c3 c4 c5 c6 c7
  go_wp2_with fail
  refine (Cc.out _).mono ?_
  rintro e w14 ⟨rfl, hb⟩
  have B := Lib.hid (B.out.trans (hb.mono B.out.size))
  have Xd := Lib.hid (Xd.out.below hb Xd.out.lt)
  have Xe := Lib.hid (Xe.out.below hb Xe.out.lt)
  have Xf := Lib.hid (Xf.out.below hb Xf.out.lt)
  have Xg := Lib.hid (Xg.out.below hb Xg.out.lt)
  clear hb c0 c1 c2 c3 c4 c5 c6 c7 Xc Cc
  have x8 := Xd.out
  obtain ⟨c0, c1, c2, c3, c4, c5, c6, c7⟩ := Blk.rec (r := ⟨1, 258, 3, 1, 1, 1, true, true⟩) x8
  clear x8
  dsimp only at c0 c1 c2 c3 c4 c5 c6 c7
  go_wp2_with fail
  refine (Cd.out _).mono ?_
  rintro e w15 ⟨rfl, hb⟩
  have B := Lib.hid (B.out.trans (hb.mono B.out.size))
  have Xe := Lib.hid (Xe.out.below hb Xe.out.lt)
  have Xf := Lib.hid (Xf.out.below hb Xf.out.lt)
  have Xg := Lib.hid (Xg.out.below hb Xg.out.lt)
  clear hb c0 c1 c2 c3 c4 c5 c6 c7 Xd Cd
  have x8 := Xe.out
  obtain ⟨c0, c1, c2, c3, c4, c5, c6, c7⟩ := Blk.rec (r := ⟨1, 258, 3, 1, 3, 1, false, true⟩) x8
  clear x8
  dsimp only at c0 c1 c2 c3 c4 c5 c6 c7
  go_wp2_with fail
  refine (Ce.out _).mono ?_
  rintro e w16 ⟨rfl, hb⟩
  have B := Lib.hid (B.out.trans (hb.mono B.out.size))
  have Xf := Lib.hid (Xf.out.below hb Xf.out.lt)
  have Xg := Lib.hid (Xg.out.below hb Xg.out.lt)
  clear hb c0 c1 c2 c3 c4 c5 c6 c7 Xe Ce
  have x8 := Xf.out
  obtain ⟨c0, c1, c2, c3, c4, c5, c6, c7⟩ := Blk.rec (r := ⟨1, 258, 3, 1, 2, 0, false, true⟩) x8
  clear x8
  dsimp only at c0 c1 c2 c3 c4 c5 c6 c7
  go_wp2_with fail
  refine (Cf.out _).mono ?_
  rintro e w17 ⟨rfl, hb⟩
  have B := Lib.hid (B.out.trans (hb.mono B.out.size))
  have Xg := Lib.hid (Xg.out.below hb Xg.out.lt)
  clear hb c0 c1 c2 c3 c4 c5 c6 c7 Xf Cf
  have x8 := Xg.out
  obtain ⟨c0, c1, c2, c3, c4, c5, c6, c7⟩ := Blk.rec (r := ⟨1, 258, 3, 1, 4, 0, true, true⟩) x8
  clear x8
  dsimp only at c0 c1 c2 c3 c4 c5 c6 c7
  go_wp2_with fail
  refine (Cg.out _).mono ?_
  rintro e w18 ⟨rfl, hb⟩
  have B := Lib.hid (B.out.trans (hb.mono B.out.size))
  clear hb c0 c1 c2 c3 c4 c5 c6 c7 Xg Cg
  go_wp2
  go_ret
  exact ⟨rfl, B.out⟩
end Go.Proofs.Ythoflogegopikaa
