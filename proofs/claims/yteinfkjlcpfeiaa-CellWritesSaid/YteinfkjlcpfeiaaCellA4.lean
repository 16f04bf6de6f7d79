/- Layer 6: the law's own: the chapter's examples. -/
import Derived.Test.YteinfkjlcpfeiaaCellA3
import Derived.Test.YteinfkjlcpfeiaaHeldOne
import Derived.Lib.SlBytesConst
namespace Go.Proofs.Yteinfkjlcpfeiaa
open Go.RowKit
set_option linter.unusedVariables false

theorem lit_textJ (w : World) (b : Nat) (mk : Nat × Nat) (zs : List Int) (n : Nat) (hb : b = w.heap.size) (hn : zs.length = n) (hm : n ≤ maxLen) : Arg (w.alloc (.cells (ints .u8 zs).toArray 5 mk)) .u8 (some ⟨b, 0, none⟩) n n zs := by
  subst hb
  refine ⟨?_, hn, Nat.le_refl _, hm⟩
  refine Seq.of (by simp) fun j v hv => ?_
  have h1 : (w.alloc (.cells (ints .u8 zs).toArray 5 mk)).heap[w.heap.size]? = some (.cells (ints .u8 zs).toArray 5 mk) := heap_alloc_new w _
  rw [cell_of_row _ _ _ _ _ _ h1, Nat.zero_add]
  simpa using hv
theorem lit_oneJ (w : World) (z : Int) : Arg (w.alloc (.cells #[.int .u8 z] 5)) .u8 (some ⟨w.heap.size, 0, none⟩) 1 1 [z] := lit_textJ w _ _ [z] 1 rfl rfl (by decide)
theorem lit_convJ (w : World) (z : Int) : Arg (w.alloc (.cells #[.int .u8 z] 5 (1, 2))) .u8 (some ⟨w.heap.size, 0, none⟩) 1 1 [z] := lit_textJ w _ _ [z] 1 rfl rfl (by decide)
theorem conv_litJ (w : World) (z : Int) : (convert 31 31 (.slice (some ⟨w.heap.size, 0, none⟩) 1 1)).run Try.prog (w.alloc (.cells #[.int .u8 z] 5)) = .ok (.slice (some ⟨w.heap.size, 0, none⟩) 1 1) (w.alloc (.cells #[.int .u8 z] 5 (1, 2))) :=
  Lib.run_convert_bytes_const (P := Try.prog) w 31 5 #[.int .u8 z] 1 1 Try.underlying31 Try.underlying5
theorem one_byteJ {z : Int} (h : 0 ≤ z ∧ z < 256) : ∀ x ∈ [z], isByte x := fun x hx => by
  rw [List.mem_singleton] at hx
  subst hx
  exact h

set_option maxRecDepth 100000 in
set_option maxHeartbeats 12800000 in
theorem alive_cell (w : World) : Calls Try.prog 42 #[] w fun e w' => e = .returned (.bool true) ∧ Below w.heap.size w w' := by
  have B := Lib.hid (Below.refl w.heap.size w)
  go_enter Try.func42, Try.ntmps42
  go_wp2_with fail
  refine (first_of w).mono ?_
  rintro e w1 ⟨A1, c1, A1', c1', rfl, hown, hb⟩
  have hb2 := hb.alloc hb.size (.cells #[.slice A1 4 c1, .slice A1' 0 c1'] 25)
  have X1 := Lib.hid (DBox.new (Dsk.of_own hown))
  have B := Lib.hid (B.out.trans (hb2.mono B.out.size))
  clear hown hb hb2
  go_upto_region 2 with fail
  obtain ⟨b1, hB⟩ : ∃ x, x = w1.heap.size := ⟨_, rfl⟩
  rw [← hB] at X1 ⊢
  obtain ⟨v1, hW⟩ : ∃ x : World, x = w1.alloc (.cells #[.slice A1 4 c1, .slice A1' 0 c1'] 25) := ⟨_, rfl⟩
  rw [← hW] at X1 B ⊢
  clear hW hB
  obtain ⟨k0, k01⟩ := X1.out.cells
  have kd := conv_litJ v1 98
  have hl := Lib.hid (lit_convJ v1 98)
  have hbl : Below v1.heap.size v1 (v1.alloc (.cells #[.int .u8 98] 5 (1, 2))) := (Below.refl _ _).alloc (Nat.le_refl _) _
  have X1 := Lib.hid (X1.out.below hbl)
  have B := Lib.hid (B.out.trans (hbl.mono B.out.size))
  clear hbl
  go_wp2_with fail
  refine (cwrite_any A1 4 c1 A1' 0 c1' fS [] 0 2 (some ⟨v1.heap.size, 0, none⟩) 1 1 [98] _ X1.out.dsk (few_smallJ (by kernel_rfl)) hl.out (one_byteJ (by decide)) (by decide)).mono ?_
  intro e w3 hout
  obtain ⟨A3, c3, A3', c3', rfl, hown, hb⟩ := DiskOut.as hout (S' := fS) (C' := xC) (E' := 0) (n := 4) (n' := 2) n_x.2.1 rfl n_x.1 n_flush.2 n_x.2.2
  clear hl k0 k01 kd
  have hb2 := hb.alloc hb.size (.cells #[.slice A3 4 c3, .slice A3' 2 c3'] 25)
  have X1 := Lib.hid (X1.out.below hb2)
  have X3 := Lib.hid (DBox.new (Dsk.of_own hown))
  have B := Lib.hid (B.out.trans (hb2.mono B.out.size))
  clear hown hb hb2 hout
  go_upto_region 3 with fail
  obtain ⟨b3, hB⟩ : ∃ x, x = w3.heap.size := ⟨_, rfl⟩
  rw [← hB] at X3 ⊢
  obtain ⟨v3, hW⟩ : ∃ x : World, x = w3.alloc (.cells #[.slice A3 4 c3, .slice A3' 2 c3'] 25) := ⟨_, rfl⟩
  rw [← hW] at X1 X3 B ⊢
  clear hW hB
  obtain ⟨k0, k01⟩ := X3.out.cells
  skip
  have hl := Lib.hid (lit_oneJ v3 1)
  have hbl : Below v3.heap.size v3 (v3.alloc (.cells #[.int .u8 1] 5)) := (Below.refl _ _).alloc (Nat.le_refl _) _
  have X1 := Lib.hid (X1.out.below hbl)
  have X3 := Lib.hid (X3.out.below hbl)
  have B := Lib.hid (B.out.trans (hbl.mono B.out.size))
  clear hbl
  go_wp2_with fail
  refine (dsk_does.crash A3 4 c3 A3' 2 c3' fS xC (some ⟨v3.heap.size, 0, none⟩) 1 1 [1] _ X3.out.dsk (few_smallJ (by kernel_rfl)) hl.out (one_byteJ (by decide)) (by decide)).mono ?_
  intro e w5 hout
  obtain ⟨A5, c5, A5', c5', rfl, hown, hb⟩ := DiskOut.as hout (S' := yS) (C' := []) (E' := 0) (n := 4) (n' := 0) rfl rfl n_y.1 n_y.2 rfl
  clear hl k0 k01
  have hb2 := hb.alloc hb.size (.cells #[.slice A5 4 c5, .slice A5' 0 c5'] 25)
  have X1 := Lib.hid (X1.out.below hb2)
  have X3 := Lib.hid (X3.out.below hb2)
  have X5 := Lib.hid (DBox.new (Dsk.of_own hown))
  have B := Lib.hid (B.out.trans (hb2.mono B.out.size))
  clear hown hb hb2 hout
  go_upto_region 4 with fail
  obtain ⟨b5, hB⟩ : ∃ x, x = w5.heap.size := ⟨_, rfl⟩
  rw [← hB] at X5 ⊢
  obtain ⟨v5, hW⟩ : ∃ x : World, x = w5.alloc (.cells #[.slice A5 4 c5, .slice A5' 0 c5'] 25) := ⟨_, rfl⟩
  rw [← hW] at X1 X3 X5 B ⊢
  clear hW hB
  obtain ⟨k0, k01⟩ := X5.out.cells
  have kd := conv_litJ v5 99
  have hl := Lib.hid (lit_convJ v5 99)
  have hbl : Below v5.heap.size v5 (v5.alloc (.cells #[.int .u8 99] 5 (1, 2))) := (Below.refl _ _).alloc (Nat.le_refl _) _
  have X1 := Lib.hid (X1.out.below hbl)
  have X3 := Lib.hid (X3.out.below hbl)
  have X5 := Lib.hid (X5.out.below hbl)
  have B := Lib.hid (B.out.trans (hbl.mono B.out.size))
  clear hbl
  go_wp2_with fail
  refine (cwrite_any A5 4 c5 A5' 0 c5' yS [] 0 2 (some ⟨v5.heap.size, 0, none⟩) 1 1 [99] _ X5.out.dsk (few_smallJ (by kernel_rfl)) hl.out (one_byteJ (by decide)) (by decide)).mono ?_
  intro e w7 hout
  obtain ⟨A7, c7, A7', c7', rfl, hown, hb⟩ := DiskOut.as hout (S' := yS) (C' := zC) (E' := 0) (n := 4) (n' := 2) n_z.2.1 rfl n_z.1 n_y.2 n_z.2.2
  clear hl k0 k01 kd
  have hb2 := hb.alloc hb.size (.cells #[.slice A7 4 c7, .slice A7' 2 c7'] 25)
  have X1 := Lib.hid (X1.out.below hb2)
  have X3 := Lib.hid (X3.out.below hb2)
  have X5 := Lib.hid (X5.out.below hb2)
  have X7 := Lib.hid (DBox.new (Dsk.of_own hown))
  have B := Lib.hid (B.out.trans (hb2.mono B.out.size))
  clear hown hb hb2 hout
  go_upto_region 5 with fail
  obtain ⟨b7, hB⟩ : ∃ x, x = w7.heap.size := ⟨_, rfl⟩
  rw [← hB] at X7 ⊢
  obtain ⟨v7, hW⟩ : ∃ x : World, x = w7.alloc (.cells #[.slice A7 4 c7, .slice A7' 2 c7'] 25) := ⟨_, rfl⟩
  rw [← hW] at X1 X3 X5 X7 B ⊢
  clear hW hB
  have hcur : Below v7.heap.size v7 v7.drew := below_drewN (Below.refl _ _) 1
  have keepX : ∀ wx, Below v7.heap.size v7 wx → wx.cell? ⟨b1, 0, none⟩ = some (.slice A1 4 c1) ∧ wx.cell? ⟨b1, 1, none⟩ = some (.slice A1' 0 c1') ∧ wx.cell? ⟨b3, 0, none⟩ = some (.slice A3 4 c3) ∧ wx.cell? ⟨b3, 1, none⟩ = some (.slice A3' 2 c3') ∧ wx.cell? ⟨b5, 0, none⟩ = some (.slice A5 4 c5) ∧ wx.cell? ⟨b5, 1, none⟩ = some (.slice A5' 0 c5') ∧ wx.cell? ⟨b7, 0, none⟩ = some (.slice A7 4 c7) ∧ wx.cell? ⟨b7, 1, none⟩ = some (.slice A7' 2 c7') := fun wx hx => ⟨(X1.out.below hx).cells.1, (X1.out.below hx).cells.2, (X3.out.below hx).cells.1, (X3.out.below hx).cells.2, (X5.out.below hx).cells.1, (X5.out.below hx).cells.2, (X7.out.below hx).cells.1, (X7.out.below hx).cells.2⟩
  have hHeld := keepX _ hcur
  refine wp_region_to 35 (fun w' => w'.cell? ⟨b1, 0, none⟩ = some (.slice A1 4 c1) ∧ w'.cell? ⟨b1, 1, none⟩ = some (.slice A1' 0 c1') ∧ w'.cell? ⟨b3, 0, none⟩ = some (.slice A3 4 c3) ∧ w'.cell? ⟨b3, 1, none⟩ = some (.slice A3' 2 c3') ∧ w'.cell? ⟨b5, 0, none⟩ = some (.slice A5 4 c5) ∧ w'.cell? ⟨b5, 1, none⟩ = some (.slice A5' 0 c5') ∧ w'.cell? ⟨b7, 0, none⟩ = some (.slice A7 4 c7) ∧ w'.cell? ⟨b7, 1, none⟩ = some (.slice A7' 2 c7')) (by kernel_rfl) ?_
  refine wpAnyG_take1 (i := 0) (v := ?_) rfl (by kernel_rfl) (by kernel_rfl) (by kernel_rfl) (by kernel_rfl) (by kernel_rfl) rfl (fun _ _ _ h => h) (Or.inl ⟨by rfl, ?_⟩) hHeld ?_
  rotate_left
  · (intro w' hSw; (try dsimp only at hSw); go_simp; (try with_reducible rfl))
  simp only [Act.put, List.setIfInBounds_toArray]
  refine wpAnyG_take1 (i := 1) (v := ?_) rfl (by kernel_rfl) (by kernel_rfl) (by kernel_rfl) (by kernel_rfl) (by kernel_rfl) rfl (fun _ _ _ h => h) (Or.inl ⟨by rfl, ?_⟩) hHeld ?_
  rotate_left
  · (intro w' hSw; (try dsimp only at hSw); go_simp; (try with_reducible rfl))
  simp only [Act.put]
  refine wpAnyG_take1 (i := 2) (v := ?_) rfl (by kernel_rfl) (by kernel_rfl) (by kernel_rfl) (by kernel_rfl) (by kernel_rfl) rfl (fun _ _ _ h => h) (Or.inl ⟨by rfl, ?_⟩) hHeld ?_
  rotate_left
  · (intro w' hSw; (try dsimp only at hSw); go_simp; (try with_reducible rfl))
  simp only [Act.put]
  refine wpAnyG_one (i := 3) (by kernel_rfl) rfl (fun K hK => ?_)
  go_simp
  go_at_call 40
  refine (ofi_any 97 30 30 rfl (by decide) _).mono ?_
  rintro e wO ⟨gO, rfl, hownO, hbH⟩
  have hcur := hcur.trans (hbH.mono hcur.size)
  refine hK.out _ _ (fun _ => keepX _ hcur) (fun hHeld => ?_)
  have hHeld := hHeld (by decide)
  clear hK K
  try simp only [Act.put, List.setIfInBounds_toArray, List.set_cons_zero, List.set_cons_succ]
  refine wpAnyG_one (i := 4) (by kernel_rfl) rfl (fun K hK => ?_)
  go_simp
  go_at_call 43
  refine (has_any A1 4 c1 A1' 0 c1' fS [] (some ⟨gO, 0, none⟩) 30 30 a30 1 _ (X1.out.below hcur).dsk (few_smallJ (by kernel_rfl)) (Arg.own hownO) n_has1.1 n_has1.2.1 n_has1.2.2).mono ?_
  rintro e wH ⟨rfl, hbH⟩
  have hcur := hcur.trans (hbH.mono hcur.size)
  have hH := hcur
  have kd := conv_litJ wH 98
  refine hK.out _ _ (fun _ => keepX _ hcur) (fun hHeld => ?_)
  have hHeld := hHeld (by decide)
  clear hK K
  try simp only [Act.put, List.setIfInBounds_toArray, List.set_cons_zero, List.set_cons_succ]
  refine wpAnyG_take1 (i := 5) (v := ?_) rfl (by kernel_rfl) (by kernel_rfl) (by kernel_rfl) (by kernel_rfl) (by kernel_rfl) rfl (fun _ _ _ h => h) (Or.inl ⟨by rfl, ?_⟩) hHeld ?_
  rotate_left
  · (intro w' hSw; (try dsimp only at hSw); go_simp; (try with_reducible rfl))
  simp only [Act.put, List.setIfInBounds_toArray]
  refine wpAnyG_take1 (i := 6) (v := ?_) rfl (by kernel_rfl) (by kernel_rfl) (by kernel_rfl) (by kernel_rfl) (by kernel_rfl) rfl (fun _ _ _ h => h) (Or.inl ⟨by rfl, ?_⟩) hHeld ?_
  rotate_left
  · (intro w' hSw; (try dsimp only at hSw); go_simp; (try with_reducible rfl))
  simp only [Act.put]
  refine wpAnyG_take1 (i := 7) (v := ?_) rfl (by kernel_rfl) (by kernel_rfl) (by kernel_rfl) (by kernel_rfl) (by kernel_rfl) rfl (fun _ _ _ h => h) (Or.inl ⟨by rfl, ?_⟩) hHeld ?_
  rotate_left
  · (intro w' hSw; (try dsimp only at hSw); go_simp; (try with_reducible rfl))
  simp only [Act.put]
  refine wpAnyG_take1 (i := 8) (v := ?_) rfl (by kernel_rfl) (by kernel_rfl) (by kernel_rfl) (by kernel_rfl) (by kernel_rfl) rfl (fun _ _ _ h => h) (Or.inl ⟨by rfl, ?_⟩) hHeld ?_
  rotate_left
  · (intro w' hSw; (try dsimp only at hSw); go_simp; (try with_reducible rfl))
  simp only [Act.put]
  refine wpAnyG_take1 (i := 9) (v := ?_) rfl (by kernel_rfl) (by kernel_rfl) (by kernel_rfl) (by kernel_rfl) (by kernel_rfl) rfl (fun _ _ _ h => h) (Or.inl ⟨by rfl, ?_⟩) hHeld ?_
  rotate_left
  · (intro w' hSw; (try dsimp only at hSw); go_simp; (try with_reducible rfl))
  simp only [Act.put]
  refine wpAnyG_take1 (i := 10) (v := ?_) rfl (by kernel_rfl) (by kernel_rfl) (by kernel_rfl) (by kernel_rfl) (by kernel_rfl) rfl (fun _ _ _ h => h) (Or.inl ⟨by rfl, ?_⟩) hHeld ?_
  rotate_left
  · (intro w' hSw; (try dsimp only at hSw); go_simp; (try with_reducible rfl))
  simp only [Act.put]
  refine wpAnyG_take1 (i := 11) (v := ?_) rfl (by kernel_rfl) (by kernel_rfl) (by kernel_rfl) (by kernel_rfl) (by kernel_rfl) rfl (fun _ _ _ h => h) (Or.inl ⟨by rfl, ?_⟩) hHeld ?_
  rotate_left
  · (intro w' hSw; (try dsimp only at hSw); go_simp; (try with_reducible rfl))
  simp only [Act.put]
  refine wpAnyG_one (i := 12) (by kernel_rfl) rfl (fun K hK => ?_)
  go_simp
  have hcur := hcur.alloc hcur.size (.cells #[.int .u8 98] 5)
  refine hK.out _ _ (fun _ => keepX _ hcur) (fun hHeld => ?_)
  have hHeld := hHeld (by decide)
  clear hK K
  try simp only [Act.put, List.setIfInBounds_toArray, List.set_cons_zero, List.set_cons_succ]
  refine wpAnyG_one (i := 13) (by kernel_rfl) rfl (fun K hK => ?_)
  go_simp
  have hcur := hH.alloc hH.size (.cells #[.int .u8 98] 5 (1, 2))
  refine hK.out _ _ (fun _ => keepX _ hcur) (fun hHeld => ?_)
  have hHeld := hHeld (by decide)
  clear hK K
  try simp only [Act.put, List.setIfInBounds_toArray, List.set_cons_zero, List.set_cons_succ]
  refine wpAnyG_one (i := 14) (by kernel_rfl) rfl (fun K hK => ?_)
  go_simp
  go_at_call 43
  refine (has_any A3 4 c3 A3' 2 c3' fS xC (some ⟨wH.heap.size, 0, none⟩) 1 1 [98] 2 _ (X3.out.below hcur).dsk (few_smallJ (by kernel_rfl)) (lit_convJ wH 98) n_has2.1 n_has2.2.1 n_has2.2.2).mono ?_
  rintro e wI ⟨rfl, hbH⟩
  have hcur := hcur.trans (hbH.mono hcur.size)
  refine hK.out _ _ (fun _ => keepX _ hcur) (fun hHeld => ?_)
  have hHeld := hHeld (by decide)
  clear hK K
  try simp only [Act.put, List.setIfInBounds_toArray, List.set_cons_zero, List.set_cons_succ]
  refine wpAnyG_take1 (i := 15) (v := ?_) rfl (by kernel_rfl) (by kernel_rfl) (by kernel_rfl) (by kernel_rfl) (by kernel_rfl) rfl (fun _ _ _ h => h) (Or.inl ⟨by rfl, ?_⟩) hHeld ?_
  rotate_left
  · (intro w' hSw; (try dsimp only at hSw); go_simp; (try with_reducible rfl))
  simp only [Act.put, List.setIfInBounds_toArray]
  refine wpAnyG_take1 (i := 16) (v := ?_) rfl (by kernel_rfl) (by kernel_rfl) (by kernel_rfl) (by kernel_rfl) (by kernel_rfl) rfl (fun _ _ _ h => h) (Or.inl ⟨by rfl, ?_⟩) hHeld ?_
  rotate_left
  · (intro w' hSw; (try dsimp only at hSw); go_simp; (try with_reducible rfl))
  simp only [Act.put]
  refine wpAnyG_take1 (i := 17) (v := ?_) rfl (by kernel_rfl) (by kernel_rfl) (by kernel_rfl) (by kernel_rfl) (by kernel_rfl) rfl (fun _ _ _ h => h) (Or.inl ⟨by rfl, ?_⟩) hHeld ?_
  rotate_left
  · (intro w' hSw; (try dsimp only at hSw); go_simp; (try with_reducible rfl))
  simp only [Act.put]
  refine wpAnyG_take1 (i := 18) (v := ?_) rfl (by kernel_rfl) (by kernel_rfl) (by kernel_rfl) (by kernel_rfl) (by kernel_rfl) rfl (fun _ _ _ h => h) (Or.inl ⟨by rfl, ?_⟩) hHeld ?_
  rotate_left
  · (intro w' hSw; (try dsimp only at hSw); go_simp; (try with_reducible rfl))
  simp only [Act.put]
  refine wpAnyG_take1 (i := 19) (v := ?_) rfl (by kernel_rfl) (by kernel_rfl) (by kernel_rfl) (by kernel_rfl) (by kernel_rfl) rfl (fun _ _ _ h => h) (Or.inl ⟨by rfl, ?_⟩) hHeld ?_
  rotate_left
  · (intro w' hSw; (try dsimp only at hSw); go_simp; (try with_reducible rfl))
  simp only [Act.put]
  refine wpAnyG_take1 (i := 20) (v := ?_) rfl (by kernel_rfl) (by kernel_rfl) (by kernel_rfl) (by kernel_rfl) (by kernel_rfl) rfl (fun _ _ _ h => h) (Or.inl ⟨by rfl, ?_⟩) hHeld ?_
  rotate_left
  · (intro w' hSw; (try dsimp only at hSw); go_simp; (try with_reducible rfl))
  simp only [Act.put]
  refine wpAnyG_take1 (i := 21) (v := ?_) rfl (by kernel_rfl) (by kernel_rfl) (by kernel_rfl) (by kernel_rfl) (by kernel_rfl) rfl (fun _ _ _ h => h) (Or.inl ⟨by rfl, ?_⟩) hHeld ?_
  rotate_left
  · (intro w' hSw; (try dsimp only at hSw); go_simp; (try with_reducible rfl))
  simp only [Act.put]
  refine wpAnyG_one (i := 22) (by kernel_rfl) rfl (fun K hK => ?_)
  go_simp
  go_at_call 40
  refine (ofi_any 97 30 30 rfl (by decide) _).mono ?_
  rintro e wO ⟨gO, rfl, hownO, hbH⟩
  have hcur := hcur.trans (hbH.mono hcur.size)
  refine hK.out _ _ (fun _ => keepX _ hcur) (fun hHeld => ?_)
  have hHeld := hHeld (by decide)
  clear hK K
  try simp only [Act.put, List.setIfInBounds_toArray, List.set_cons_zero, List.set_cons_succ]
  refine wpAnyG_one (i := 23) (by kernel_rfl) rfl (fun K hK => ?_)
  go_simp
  go_at_call 43
  refine (has_any A5 4 c5 A5' 0 c5' yS [] (some ⟨gO, 0, none⟩) 30 30 a30 1 _ (X5.out.below hcur).dsk (few_smallJ (by kernel_rfl)) (Arg.own hownO) n_has3.1 n_has3.2.1 n_has3.2.2).mono ?_
  rintro e wJ ⟨rfl, hbH⟩
  have hcur := hcur.trans (hbH.mono hcur.size)
  have hH := hcur
  have kd := conv_litJ wJ 99
  refine hK.out _ _ (fun _ => keepX _ hcur) (fun hHeld => ?_)
  have hHeld := hHeld (by decide)
  clear hK K
  try simp only [Act.put, List.setIfInBounds_toArray, List.set_cons_zero, List.set_cons_succ]
  refine wpAnyG_take1 (i := 24) (v := ?_) rfl (by kernel_rfl) (by kernel_rfl) (by kernel_rfl) (by kernel_rfl) (by kernel_rfl) rfl (fun _ _ _ h => h) (Or.inl ⟨by rfl, ?_⟩) hHeld ?_
  rotate_left
  · (intro w' hSw; (try dsimp only at hSw); go_simp; (try with_reducible rfl))
  simp only [Act.put, List.setIfInBounds_toArray]
  refine wpAnyG_take1 (i := 25) (v := ?_) rfl (by kernel_rfl) (by kernel_rfl) (by kernel_rfl) (by kernel_rfl) (by kernel_rfl) rfl (fun _ _ _ h => h) (Or.inl ⟨by rfl, ?_⟩) hHeld ?_
  rotate_left
  · (intro w' hSw; (try dsimp only at hSw); go_simp; (try with_reducible rfl))
  simp only [Act.put]
  refine wpAnyG_take1 (i := 26) (v := ?_) rfl (by kernel_rfl) (by kernel_rfl) (by kernel_rfl) (by kernel_rfl) (by kernel_rfl) rfl (fun _ _ _ h => h) (Or.inl ⟨by rfl, ?_⟩) hHeld ?_
  rotate_left
  · (intro w' hSw; (try dsimp only at hSw); go_simp; (try with_reducible rfl))
  simp only [Act.put]
  refine wpAnyG_take1 (i := 27) (v := ?_) rfl (by kernel_rfl) (by kernel_rfl) (by kernel_rfl) (by kernel_rfl) (by kernel_rfl) rfl (fun _ _ _ h => h) (Or.inl ⟨by rfl, ?_⟩) hHeld ?_
  rotate_left
  · (intro w' hSw; (try dsimp only at hSw); go_simp; (try with_reducible rfl))
  simp only [Act.put]
  refine wpAnyG_take1 (i := 28) (v := ?_) rfl (by kernel_rfl) (by kernel_rfl) (by kernel_rfl) (by kernel_rfl) (by kernel_rfl) rfl (fun _ _ _ h => h) (Or.inl ⟨by rfl, ?_⟩) hHeld ?_
  rotate_left
  · (intro w' hSw; (try dsimp only at hSw); go_simp; (try with_reducible rfl))
  simp only [Act.put]
  refine wpAnyG_take1 (i := 29) (v := ?_) rfl (by kernel_rfl) (by kernel_rfl) (by kernel_rfl) (by kernel_rfl) (by kernel_rfl) rfl (fun _ _ _ h => h) (Or.inl ⟨by rfl, ?_⟩) hHeld ?_
  rotate_left
  · (intro w' hSw; (try dsimp only at hSw); go_simp; (try with_reducible rfl))
  simp only [Act.put]
  refine wpAnyG_take1 (i := 30) (v := ?_) rfl (by kernel_rfl) (by kernel_rfl) (by kernel_rfl) (by kernel_rfl) (by kernel_rfl) rfl (fun _ _ _ h => h) (Or.inl ⟨by rfl, ?_⟩) hHeld ?_
  rotate_left
  · (intro w' hSw; (try dsimp only at hSw); go_simp; (try with_reducible rfl))
  simp only [Act.put]
  refine wpAnyG_one (i := 31) (by kernel_rfl) rfl (fun K hK => ?_)
  go_simp
  have hcur := hcur.alloc hcur.size (.cells #[.int .u8 99] 5)
  refine hK.out _ _ (fun _ => keepX _ hcur) (fun hHeld => ?_)
  have hHeld := hHeld (by decide)
  clear hK K
  try simp only [Act.put, List.setIfInBounds_toArray, List.set_cons_zero, List.set_cons_succ]
  refine wpAnyG_one (i := 32) (by kernel_rfl) rfl (fun K hK => ?_)
  go_simp
  have hcur := hH.alloc hH.size (.cells #[.int .u8 99] 5 (1, 2))
  refine hK.out _ _ (fun _ => keepX _ hcur) (fun hHeld => ?_)
  have hHeld := hHeld (by decide)
  clear hK K
  try simp only [Act.put, List.setIfInBounds_toArray, List.set_cons_zero, List.set_cons_succ]
  refine wpAnyG_one (i := 33) (by kernel_rfl) rfl (fun K hK => ?_)
  go_simp
  go_at_call 43
  refine (has_any A7 4 c7 A7' 2 c7' yS zC (some ⟨wJ.heap.size, 0, none⟩) 1 1 [99] 3 _ (X7.out.below hcur).dsk (few_smallJ (by kernel_rfl)) (lit_convJ wJ 99) n_has4.1 n_has4.2.1 n_has4.2.2).mono ?_
  rintro e wK ⟨rfl, hbH⟩
  have hcur := hcur.trans (hbH.mono hcur.size)
  refine hK.out _ _ (fun _ => keepX _ hcur) (fun hHeld => ?_)
  have hHeld := hHeld (by decide)
  clear hK K
  try simp only [Act.put, List.setIfInBounds_toArray, List.set_cons_zero, List.set_cons_succ]
  refine wpAnyG_take1 (i := 34) (v := ?_) rfl (by kernel_rfl) (by kernel_rfl) (by kernel_rfl) (by kernel_rfl) (by kernel_rfl) rfl (fun _ _ _ h => h) (Or.inl ⟨by rfl, ?_⟩) hHeld ?_
  rotate_left
  · (intro w' hSw; (try dsimp only at hSw); go_simp; (try with_reducible rfl))
  simp only [Act.put, List.setIfInBounds_toArray]
  refine wpAnyG_one (i := 35) (by kernel_rfl) rfl (fun K hK => ?_)
  go_simp
  refine hK.out _ _ (fun h => absurd rfl h) (fun _ => ?_)
  clear hK K
  refine wpAnyG_done (by kernel_rfl) ?_ _
  have B9 := B.out.trans (hcur.mono B.out.size)
  go_wp2
  go_ret
  exact ⟨rfl, B9⟩

end Go.Proofs.Yteinfkjlcpfeiaa
