/- Layer 9, SuperNames: the chapter's further examples in numbers, and the walk. -/
import Derived.Test.YtncnppffllfbeaaSupA
namespace Go.Proofs.Ytncnppffllfbeaa
open Go.RowKit
set_option linter.unusedVariables false

def hd9 : List Int := [0, 0, 0, 9, 0, 1, 0, 0, 5]
theorem app_last9 (w : World) : ∃ G cg w', (Builtin.append_ #[41, 3] 41 #[.slice (some ⟨w.heap.size, 0, none⟩) 9 9, .int .i64 23]).run Try.prog (w.alloc (.cells #[.int .u8 0, .int .u8 0, .int .u8 0, .int .u8 9, .int .u8 0, .int .u8 1, .int .u8 0, .int .u8 0, .int .u8 5] 5)) = .ok (.slice (some ⟨G, 0, none⟩) 32 cg) w' ∧
    Arg w' .u8 (some ⟨G, 0, none⟩) 32 cg (hd9 ++ List.replicate 23 0) ∧ Below w.heap.size w w' := by
  obtain ⟨i, hi, hz, hsize, hby⟩ := info_parts byte_info
  have hml : (100000 : Nat) ≤ maxLen := by decide
  obtain ⟨w1, hw1⟩ : ∃ x, x = w.alloc (.cells #[.int .u8 0, .int .u8 0, .int .u8 0, .int .u8 9, .int .u8 0, .int .u8 1, .int .u8 0, .int .u8 0, .int .u8 5] 5) := ⟨_, rfl⟩
  have hblk : Blk w1 w.heap.size 5 (ints .u8 hd9) := by rw [hw1]; exact Blk.new w 5 _
  have hbel : Below w.heap.size w w1 := by rw [hw1]; exact (Below.refl _ _).alloc (Nat.le_refl _) _
  rw [← hw1]
  have hnews : ∀ j u, (ints .u8 hd9)[j]? = some u → w1.drew.cell? ((⟨w.heap.size, 0, none⟩ : Addr).add j) = some u := fun j u hu => by
    have e2 : (⟨w.heap.size, 0, none⟩ : Addr).add j = ⟨w.heap.size, 0 + j, none⟩ := by unfold Addr.add; split <;> simp_all
    rw [e2, Nat.zero_add]
    exact (hblk.cell j).trans hu
  have hold := run_firstCells_some (P := Try.prog) w1.drew i.size 9 ⟨w.heap.size, 0, none⟩ 9 9 (ints .u8 hd9) (by rw [hsize]; rfl) hnews
  have hr := run_append_made (P := Try.prog) w1 41 3 41 5 i _ Try.underlying41 Try.underlying3 hi hz (some ⟨w.heap.size, 0, none⟩) 9 9 (ints .u8 hd9) hold 23 (by decide) (by omega) (by decide) (by omega) (by decide) (by decide) (by rw [hby]; decide)
  have hge := grownCap_ge w1 (9 + 23) 9 5
  have hgm : grownCap w1 (9 + 23) 9 5 ≤ maxLen := grownCap_le_maxLen w1 (9 + 23) 9 5 (by omega)
  refine ⟨w1.heap.size, _, _, hr, ⟨?_, rfl, hge, hgm⟩, hbel.trans ((below_drewN ((Below.refl _ _).alloc (Nat.le_refl _) _) 1).mono hbel.size)⟩
  have hnew : (w1.drew.alloc (.cells ((ints .u8 hd9).toArray ++ Builtin.zeroCells (Value.int .u8 0).cells 23 ++ Builtin.zeroCells (Value.int .u8 0).cells (grownCap w1 (9 + 23) 9 5 - (9 + 23))) 5)).heap[w1.heap.size]? = _ := heap_alloc_new w1.drew _
  refine Seq.of (by simp) fun j v hv => ?_
  rw [cell_of_row _ _ _ _ _ _ hnew, Nat.zero_add]
  have hz24 : (Builtin.zeroCells (Value.int .u8 0).cells 23).toList = ints .u8 (List.replicate 23 0) := by kernel_rfl
  have hj : j < (ints .u8 (hd9 ++ List.replicate 23 0)).length := (List.getElem?_eq_some_iff.1 hv).1
  have hj : j < 32 := hj
  have e : ((ints .u8 hd9).toArray ++ Builtin.zeroCells (Value.int .u8 0).cells 23 ++ Builtin.zeroCells (Value.int .u8 0).cells (grownCap w1 (9 + 23) 9 5 - (9 + 23))).toList = ints .u8 (hd9 ++ List.replicate 23 0) ++ (Builtin.zeroCells (Value.int .u8 0).cells (grownCap w1 (9 + 23) 9 5 - (9 + 23))).toList := by
    simp only [Array.toList_append, hz24, ints, List.map_append]
  rw [← Array.getElem?_toList, e, List.getElem?_append_left (by exact hj)]
  exact hv



def wr9 : Txt := hd9 ++ List.replicate 23 0
def wC : List Pnd := [(0, wr9)]
theorem wr9_byte : ∀ z ∈ wr9, isByte z := fun z hz => by
  have h := List.all_eq_true.1 (show wr9.all (fun z => decide (0 ≤ z ∧ z < 256)) = true by kernel_rfl) z hz
  exact (of_decide_eq_true h : 0 ≤ z ∧ z < 256)
theorem m_b : spE 2 9 4 2 2 8 nS [] (3, 2, 65537) = 2 ∧ spL 2 9 4 2 2 8 nS [] (3, 2, 65537) = [] := ⟨by kernel_rfl, by kernel_rfl⟩
theorem s32_is : isS (3, 2, 65537) := ⟨⟨by decide, by decide⟩, by decide, by decide⟩
theorem m_n : srE 2 9 4 2 2 8 [] [] = 8 ∧ srV 2 9 4 2 2 8 [] [] = (0, 0, 0) := ⟨by kernel_rfl, by kernel_rfl⟩
theorem m_w : wrE nS [] 0 wr9 = 0 ∧ wrS nS [] 0 wr9 = nS ∧ wrC nS [] 0 wr9 = wC := ⟨by kernel_rfl, by kernel_rfl, by kernel_rfl⟩
theorem m_h : srE 2 9 4 2 2 8 nS wC = 90 ∧ srV 2 9 4 2 2 8 nS wC = (0, 0, 0) := ⟨by kernel_rfl, by kernel_rfl⟩
theorem wC_small : SmallD nS wC := few_smallJ (by kernel_rfl)

set_option maxRecDepth 100000 in
set_option maxHeartbeats 12800000 in
theorem snames_of (w : World) : Calls Try.prog 3 #[] w fun e w' => e = .returned (.bool true) ∧ Below w.heap.size w w' := by
  have B := Lib.hid (Below.refl w.heap.size w)
  have PB := Lib.hid (fun A1 c1 A1' c1' wx (hx : Dsk wx A1 86 c1 A1' 0 c1' nS []) => (show Calls Try.prog 8 #[cfgV 2 9 4 2 2 8, diskV A1 86 c1 A1' 0 c1', supV 3 2 65537] wx (fun e w' => ∃ A c, e = .returned (.tuple #[.slice A 0 c, .int .i64 2]) ∧ Below wx.heap.size wx w') from by
    have r := splan_any 2 9 4 2 2 8 A1 86 c1 A1' 0 c1' nS [] 3 2 65537 wx hx nS_small s32_is
    unfold PlanOut at r
    rw [m_b.1, m_b.2] at r
    exact r.mono fun e w' h => by obtain ⟨A, c, h1, _, h2⟩ := h; exact ⟨A, c, h1, h2⟩))
  have RN := Lib.hid (fun A1 c1 A1' c1' wx (hx : Dsk wx A1 0 c1 A1' 0 c1' [] []) => (show Calls Try.prog 10 #[cfgV 2 9 4 2 2 8, diskV A1 0 c1 A1' 0 c1'] wx (fun e w' => e = .returned (.tuple #[supV 0 0 0, .int .i64 8]) ∧ Below wx.heap.size wx w') from by
    have r := sread_any 2 9 4 2 2 8 A1 0 c1 A1' 0 c1' [] [] wx hx SmallD.nil
    unfold SupOut at r
    rw [m_n.1, m_n.2] at r
    exact r))
  have RH := Lib.hid (fun A1 c1 A1' c1' wx (hx : Dsk wx A1 86 c1 A1' 1 c1' nS wC) => (show Calls Try.prog 10 #[cfgV 2 9 4 2 2 8, diskV A1 86 c1 A1' 1 c1'] wx (fun e w' => e = .returned (.tuple #[supV 0 0 0, .int .i64 90]) ∧ Below wx.heap.size wx w') from by
    have r := sread_any 2 9 4 2 2 8 A1 86 c1 A1' 1 c1' nS wC wx hx wC_small
    unfold SupOut at r
    rw [m_h.1, m_h.2] at r
    exact r))
  go_enter Try.func3, Try.ntmps3
  go_wp2_with fail
  refine (blank9_any _).mono ?_
  rintro e w1 ⟨A1, c1, A1', c1', rfl, hown, hb⟩
  have hb2 := hb.alloc hb.size (.cells #[.slice A1 86 c1, .slice A1' 0 c1'] 25)
  have X := Lib.hid (DBox.new (Dsk.of_own hown))
  have B := Lib.hid (B.out.trans (hb2.mono B.out.size))
  clear hown hb hb2
  go_upto_region 2 with fail
  obtain ⟨G1, hG⟩ : ∃ x, x = w1.heap.size := ⟨_, rfl⟩
  rw [← hG] at X ⊢
  obtain ⟨v1, hW⟩ : ∃ x : World, x = w1.alloc (.cells #[.slice A1 86 c1, .slice A1' 0 c1'] 25) := ⟨_, rfl⟩
  rw [← hW] at X B ⊢
  clear hW hG
  go_wp2_with fail
  refine (three9_any _).mono ?_
  rintro e v2 ⟨rfl, hb⟩
  have hb := hb.alloc hb.size (.cells #[.int .u32 3, .int .i64 2, .int .u64 65537] 31)
  have Z0 := Blk.new v2 31 [.int .u32 3, .int .i64 2, .int .u64 65537]
  have B := Lib.hid (B.out.trans (hb.mono B.out.size))
  have X := Lib.hid (X.out.below hb)
  clear hb
  go_upto_region 4 with fail
  obtain ⟨Gs, hG⟩ : ∃ x, x = v2.heap.size := ⟨_, rfl⟩
  rw [← hG] at Z0 ⊢
  obtain ⟨v3, hW⟩ : ∃ x : World, x = v2.alloc (.cells #[.int .u32 3, .int .i64 2, .int .u64 65537] 31) := ⟨_, rfl⟩
  rw [← hW] at X B Z0 ⊢
  clear hW hG
  have hcur : Below v3.heap.size v3 v3.drew := below_drewN (Below.refl _ _) 1
  have keepX : ∀ wx, Below v3.heap.size v3 wx → wx.cell? ⟨G1, 0, none⟩ = some (.slice A1 86 c1) ∧ wx.cell? ⟨G1, 1, none⟩ = some (.slice A1' 0 c1') ∧ wx.cell? ⟨Gs, 0, none⟩ = some (.int .u32 3) ∧ wx.cell? ⟨Gs, 1, none⟩ = some (.int .i64 2) ∧ wx.cell? ⟨Gs, 2, none⟩ = some (.int .u64 65537) := fun wx hx => by
    obtain ⟨x0, x1⟩ := (X.out.below hx).cells
    obtain ⟨z0, z1, z2⟩ := (Z0.below hx Z0.lt).tri
    exact ⟨x0, x1, z0, z1, z2⟩
  have hkX := keepX _ hcur
  go_region_held3 (fun w' => w'.cell? ⟨G1, 0, none⟩ = some (.slice A1 86 c1) ∧ w'.cell? ⟨G1, 1, none⟩ = some (.slice A1' 0 c1') ∧ w'.cell? ⟨Gs, 0, none⟩ = some (.int .u32 3) ∧ w'.cell? ⟨Gs, 1, none⟩ = some (.int .i64 2) ∧ w'.cell? ⟨Gs, 2, none⟩ = some (.int .u64 65537))
    (first | exact hkX | go_keep)
    (first
      | (go_at_call 9; with_reducible refine (two9_any v3.drew).mono ?_; rintro e wT ⟨rfl, hb⟩; have hcur := hcur.trans (hb.mono hcur.size); have hkX := keepX _ hcur)
      | (go_at_call 8; have hM := hcur.size; with_reducible refine (PB.out A1 c1 A1' c1' wT (X.out.below hcur).dsk).mono ?_; rintro e v4 ⟨Aq, cq, rfl, hb⟩; have hcur := hcur.trans (hb.mono hcur.size); have hkX := keepX _ hcur))
  have B := Lib.hid (B.out.trans (hcur.mono B.out.size))
  have X := Lib.hid (X.out.below hcur)
  clear keepX hkX hcur hb hM PB Z0
  go_wp2_with fail
  refine (two9_any _).mono ?_
  rintro e v5 ⟨rfl, hb⟩
  have B := Lib.hid (B.out.trans (hb.mono B.out.size))
  have X := Lib.hid (X.out.below hb)
  clear hb
  go_wp2_with fail
  refine (RN.out none 0 none 0 _ (Dsk.of_own (OwnDsk.nil _ 0))).mono ?_
  rintro e v6 ⟨rfl, hb⟩
  have hb := hb.alloc hb.size (.cells #[.int .u32 0, .int .i64 0, .int .u64 0] 31)
  have B := Lib.hid (B.out.trans (hb.mono B.out.size))
  have X := Lib.hid (X.out.below hb)
  clear hb RN
  go_upto_region 6 with fail
  obtain ⟨G6, hG⟩ : ∃ x, x = v6.heap.size := ⟨_, rfl⟩
  rw [← hG]
  obtain ⟨v7, hW⟩ : ∃ x : World, x = v6.alloc (.cells #[.int .u32 0, .int .i64 0, .int .u64 0] 31) := ⟨_, rfl⟩
  rw [← hW] at X B ⊢
  clear hW hG
  obtain ⟨gW, cW, wW, happ, hargW, hb⟩ := app_last9 v7
  have HA := Lib.hid hargW
  have HRUN := Lib.hid happ
  clear happ
  have B := Lib.hid (B.out.trans (hb.mono B.out.size))
  have X := Lib.hid (X.out.below hb)
  clear hb hargW
  obtain ⟨k0, k1⟩ := X.out.cells
  go_wp2_with (at_builtin; refine wpList_app_eq rfl (.tmp 32) (.const (.int .i64 23)) 41 3 rfl rfl rfl HRUN.out ?_)
  refine (dsk_does.write A1 86 c1 A1' 0 c1' nS [] 0 (some ⟨gW, 0, none⟩) 32 cW wr9 wW X.out.dsk nS_small HA.out wr9_byte (by decide)).mono ?_
  intro e v8 hout
  obtain ⟨AX, cX, AX', cX', rfl, hown, hb⟩ := DiskOut.as hout (S' := nS) (C' := wC) (E' := 0) (n := 86) (n' := 1) m_w.2.1 m_w.2.2 m_w.1 nS_len rfl
  have hb := hb.alloc hb.size (.cells #[.slice AX 86 cX, .slice AX' 1 cX'] 25)
  have Y := DBox.new (Dsk.of_own hown)
  have B := Lib.hid (B.out.trans (hb.mono B.out.size))
  clear hb hown hout HA k0 k1 HRUN X
  go_upto_region 8 with fail
  obtain ⟨GX, hG⟩ : ∃ x, x = v8.heap.size := ⟨_, rfl⟩
  rw [← hG] at Y ⊢
  obtain ⟨vA, hW⟩ : ∃ x : World, x = v8.alloc (.cells #[.slice AX 86 cX, .slice AX' 1 cX'] 25) := ⟨_, rfl⟩
  rw [← hW] at Y B ⊢
  clear hW hG
  have Y := Lib.hid Y
  go_cut [11, 12] from 40 to 45 (fun x e wx => ∃ g : Nat, x = .pointer (some ⟨g, 0, none⟩) ∧ e = .int .i64 90 ∧ Below vA.heap.size vA wx)
  case first =>
    have hcur : Below vA.heap.size vA vA.drew := below_drewN (Below.refl _ _) 1
    have keepX : ∀ wx, Below vA.heap.size vA wx → wx.cell? ⟨GX, 0, none⟩ = some (.slice AX 86 cX) ∧ wx.cell? ⟨GX, 1, none⟩ = some (.slice AX' 1 cX') := fun wx hx => (Y.out.below hx).cells
    have hkX := keepX _ hcur
    go_region_held3 (fun w' => w'.cell? ⟨GX, 0, none⟩ = some (.slice AX 86 cX) ∧ w'.cell? ⟨GX, 1, none⟩ = some (.slice AX' 1 cX'))
      (first | exact hkX | exact keepX _ (below_drewN ((Below.refl _ _).alloc (Nat.le_refl _) _) 1) | exact keepX _ (hcur.alloc hcur.size _) | exact keepX _ (((hcur.setCell (p := ⟨_, 0, none⟩) hL _).setCell (p := ⟨_, 1, none⟩) hL _).setCell (p := ⟨_, 2, none⟩) hL _) | go_keep)
      (first
        | (go_at_call 9; with_reducible refine (two9_any vA.drew).mono ?_; rintro e wT ⟨rfl, hb⟩; have hcur := hcur.trans (hb.mono hcur.size); have hkX := keepX _ hcur; try (have hZ := hZ.below hb hZ.lt))
        | (go_at_call 9; have hL := Nat.le_refl vA.heap.size; have hcur : Below vA.heap.size vA (vA.alloc (.cells #[.int .u32 0, .int .i64 0, .int .u64 0] 31)).drew := below_drewN ((Below.refl _ _).alloc (Nat.le_refl _) _) 1; have hZ0 := Blk.new vA 31 [.int .u32 0, .int .i64 0, .int .u64 0]; have hZ := hZ0.below (below_drewN (Below.refl _ _) 1) hZ0.lt; with_reducible refine (two9_any _).mono ?_; rintro e wT ⟨rfl, hb⟩; have hZ := hZ.below hb hZ.lt; have hcur := hcur.trans (hb.mono hcur.size); have hkX := keepX _ hcur)
        | (go_at_call 10; have hM := hcur.size; with_reducible refine (RH.out AX cX AX' cX' wT (Y.out.below hcur).dsk).mono ?_; rintro e v9 ⟨rfl, hb⟩; have hcur := hcur.trans (hb.mono hcur.size); have hkX := keepX _ hcur; try (have hZ := hZ.below hb hZ.lt; have z0 := hZ.cell 0; have z1 := hZ.cell 1; have z2 := hZ.cell 2; have g0 := hZ.free 0; have g1 := hZ.free 1; have g2 := hZ.free 2; simp only [List.getElem?_cons_zero, List.getElem?_cons_succ] at z0 z1 z2))
        | (go_at_call 10; have hL := hcur.size; have hcur := hcur.alloc hcur.size (.cells #[.int .u32 0, .int .i64 0, .int .u64 0] 31); have hZ := Blk.new wT 31 [.int .u32 0, .int .i64 0, .int .u64 0]; have hM := hcur.size; with_reducible refine (RH.out AX cX AX' cX' _ (Y.out.below hcur).dsk).mono ?_; rintro e v9 ⟨rfl, hb⟩; have hZ := hZ.below hb hZ.lt; have hcur := hcur.trans (hb.mono hcur.size); have hkX := keepX _ hcur; have z0 := hZ.cell 0; have z1 := hZ.cell 1; have z2 := hZ.cell 2; have g0 := hZ.free 0; have g1 := hZ.free 1; have g2 := hZ.free 2; simp only [List.getElem?_cons_zero, List.getElem?_cons_succ] at z0 z1 z2))
    all_goals (go_wp2_with fail; go_meet)
    all_goals first
      | exact ⟨_, rfl, rfl, hcur.alloc hcur.size _⟩
      | exact ⟨_, rfl, rfl, (((hcur.setCell (p := ⟨_, 0, none⟩) hL _).setCell (p := ⟨_, 1, none⟩) hL _).setCell (p := ⟨_, 2, none⟩) hL _)⟩
  case rest =>
    obtain ⟨G9, rfl, rfl, hb⟩ := hcut
    have B := Lib.hid (B.out.trans (hb.mono B.out.size))
    clear hb Y RH
    go_wp2_with fail
    refine (alive_super _).mono ?_
    rintro e vZ ⟨rfl, hb⟩
    have B := Lib.hid (B.out.trans (hb.mono B.out.size))
    clear hb
    go_wp2
    go_ret
    exact ⟨rfl, B.out⟩

end Go.Proofs.Ytncnppffllfbeaa
