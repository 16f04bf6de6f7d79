/- Layer 8, TrackNames: the walk. -/
import Derived.Test.YtnmlplfcdnakhaaTrkN
import Derived.Deep.RegionHeld3
import Derived.Deep.RegionWith
import Derived.Deep.Cut
import Derived.Deep.CutBlock
import Derived.Deep.CutRange
import Derived.Test.YtnmlplfcdnakhaaHeldOne
import Derived.Test.YtnmlplfcdnakhaaCellRj
namespace Go.Proofs.Ytnmlplfcdnakhaa
open Go.RowKit
set_option linter.unusedVariables false

theorem wp_region_toL {P : Program} {ops : Array Oper} {Q : Exit → Act → World → Prop} {id : Nat} {a : Act} {w : World} (st : Nat) (S : World → Prop) (l : Array Bool) (hl : Array.replicate ops.size false = l) (hm : P.follows .mixedOrders = true)
    (h : wpAnyG P .any ops Q S st ops.size l a w.drew) : (Code.region id ops true).wp P Q a w := wp_region_to st S hm (hl ▸ h)
theorem Arg.tail27 {w : World} {g c : Nat} {z : Int} (h : Arg w .u8 (some ⟨g, 0, none⟩) 28 c (List.replicate 28 z)) : Arg w .u8 (some ⟨g, 1, none⟩) 27 (c - 1) (List.replicate 27 z) := by
  have := h.piece (lo := 1) (hi := 28) (by decide) (by decide)
  simpa using this

set_option maxRecDepth 100000 in
set_option maxHeartbeats 51200000 in
theorem tnames_of (w : World) : Calls Try.prog 10 #[] w fun e w' => e = .returned (.bool true) ∧ Below w.heap.size w w' := by
  have B := Lib.hid (Below.refl w.heap.size w)
  have RA := Lib.hid (fun A1 c1 A1' c1' wx (hx : Dsk wx A1 86 c1 A1' 0 c1' nS []) => (show Calls Try.prog 60 #[cfgV 2 9 4 2 2 8, diskV A1 86 c1 A1' 0 c1', .int .i64 1, .int .i64 9] wx (fun e w' => ∃ A c, e = .returned (.tuple #[.slice A 0 c, .int .i64 80]) ∧ Below wx.heap.size wx w') from by
    have r := tread_any 2 9 4 2 2 8 A1 86 c1 A1' 0 c1' nS [] 1 9 wx hx nS_small
    rw [m_r19.1] at r
    exact r.mono fun e w' h => by obtain ⟨A, c, h1, _, h3⟩ := RowOut.len h m_r19.2 (n := 0) rfl; exact ⟨A, c, h1, h3⟩))
  have RB := Lib.hid (fun A1 c1 A1' c1' wx (hx : Dsk wx A1 86 c1 A1' 0 c1' nS []) => (show Calls Try.prog 60 #[cfgV 2 9 4 2 2 8, diskV A1 86 c1 A1' 0 c1', .int .i64 2, .int .i64 0] wx (fun e w' => ∃ A c, e = .returned (.tuple #[.slice A 0 c, .int .i64 80]) ∧ Below wx.heap.size wx w') from by
    have r := tread_any 2 9 4 2 2 8 A1 86 c1 A1' 0 c1' nS [] 2 0 wx hx nS_small
    rw [m_r20.1] at r
    exact r.mono fun e w' h => by obtain ⟨A, c, h1, _, h3⟩ := RowOut.len h m_r20.2 (n := 0) rfl; exact ⟨A, c, h1, h3⟩))
  have RC := Lib.hid (fun A1 c1 A1' c1' wx (hx : Dsk wx A1 0 c1 A1' 0 c1' [] []) => (show Calls Try.prog 60 #[cfgV 2 9 4 2 2 8, diskV A1 0 c1 A1' 0 c1', .int .i64 0, .int .i64 0] wx (fun e w' => ∃ A c, e = .returned (.tuple #[.slice A 0 c, .int .i64 8]) ∧ Below wx.heap.size wx w') from by
    have r := tread_any 2 9 4 2 2 8 A1 0 c1 A1' 0 c1' [] [] 0 0 wx hx SmallD.nil
    rw [m_r00.1] at r
    exact r.mono fun e w' h => by obtain ⟨A, c, h1, _, h3⟩ := RowOut.len h m_r00.2 (n := 0) rfl; exact ⟨A, c, h1, h3⟩))
  have RN := Lib.hid (fun A1 c1 A1' c1' wx (hx : Dsk wx A1 86 c1 A1' 2 c1' nS zzC) => (show Calls Try.prog 60 #[cfgV 2 9 4 2 2 8, diskV A1 86 c1 A1' 2 c1', .int .i64 0, .int .i64 1] wx (fun e w' => ∃ A c, e = .returned (.tuple #[.slice A 0 c, .int .i64 20]) ∧ Below wx.heap.size wx w') from by
    have r := tread_any 2 9 4 2 2 8 A1 86 c1 A1' 2 c1' nS zzC 0 1 wx hx z_small
    rw [m_r01.1] at r
    exact r.mono fun e w' h => by obtain ⟨A, c, h1, _, h3⟩ := RowOut.len h m_r01.2 (n := 0) rfl; exact ⟨A, c, h1, h3⟩))
  have WG := Lib.hid (fun A1 c1 A1' c1' A0 c0 wx (hx : Dsk wx A1 86 c1 A1' 0 c1' nS []) hy => twrite_any 2 9 4 2 2 8 A1 86 c1 A1' 0 c1' nS [] 0 0 A0 27 c0 (List.replicate 27 120) wx hx nS_small hy (few_byte _ (by kernel_rfl)))
  have WX := Lib.hid (fun A1 c1 A1' c1' g wx (hx : Dsk wx A1 86 c1 A1' 0 c1' nS []) hy => twrite_any 2 9 4 2 2 8 A1 86 c1 A1' 0 c1' nS [] 0 0 (some ⟨g, 0, none⟩) 28 28 x28 wx hx nS_small hy (x28_byte 120 (by decide)))
  have PJ := Lib.hid (fun A1 c1 A1' c1' g wx (hx : Dsk wx A1 86 c1 A1' 2 c1' nS n00C) hy => (show Calls Try.prog 64 #[cfgV 2 9 4 2 2 8, diskV A1 86 c1 A1' 2 c1', .int .i64 0, .int .i64 0, .slice (some ⟨g, 0, none⟩) 28 28] wx (fun e w' => ∃ A c, e = .returned (.tuple #[.slice A 0 c, .int .i64 60]) ∧ Below wx.heap.size wx w') from by
    have r := tplan_any 2 9 4 2 2 8 A1 86 c1 A1' 2 c1' nS n00C 0 0 (some ⟨g, 0, none⟩) 28 28 (List.replicate 28 121) wx hx n00_small hy (x28_byte 121 (by decide))
    rw [m_p00.1, m_p00.2] at r
    exact r.mono fun e w' h => by obtain ⟨A, c, h1, _, h3⟩ := h; exact ⟨A, c, h1, h3⟩))
  have TR := Lib.hid (fun w' : World => ptrack_any 2 9 4 2 2 8 0 1 w')
  rw [m_t01.1, m_t01.2] at TR
  have VZ := Lib.hid (fun A1 c1 A1' c1' wx (hx : Dsk wx A1 86 c1 A1' 2 c1' nS zzC) => (show Calls Try.prog 65 #[cfgV 2 9 4 2 2 8, diskV A1 86 c1 A1' 2 c1', .int .i64 0] wx (fun e w' => ∃ A c, e = .returned (.tuple #[.slice A 0 c, .int .i64 20]) ∧ Below wx.heap.size wx w') from by
    have r := volume_any 2 9 4 2 2 8 A1 86 c1 A1' 2 c1' nS zzC 0 wx hx z_small
    rw [m_vz.1, m_vz.2] at r
    exact r.mono fun e w' h => by obtain ⟨A, c, h1, _, h3⟩ := h; exact ⟨A, c, h1, h3⟩))
  have VX := Lib.hid (fun A1 c1 A1' c1' wx (hx : Dsk wx A1 86 c1 A1' 2 c1' nS n00C) => (show Calls Try.prog 65 #[cfgV 2 9 4 2 2 8, diskV A1 86 c1 A1' 2 c1', .int .i64 0] wx (fun e w' => ∃ g c Ai ci, e = .returned (.tuple #[.slice (some ⟨g, 0, none⟩) 9 c, .int .i64 0]) ∧ w'.cell? ⟨g, 0, none⟩ = some (.slice Ai 28 ci) ∧ Arg w' .u8 Ai 28 ci x28 ∧ g < w'.heap.size ∧ Below wx.heap.size wx w') from by
    have r := volume_any 2 9 4 2 2 8 A1 86 c1 A1' 2 c1' nS n00C 0 wx hx n00_small
    rw [m_vx.1, m_vx.2.1] at r
    exact r.mono fun e w' h => by
      obtain ⟨A, c, h1, h2, h3⟩ := h
      rw [m_vx.2.2] at h1 h2
      obtain ⟨b, o, Ai, ni, ci, e1, e2, e3, e4⟩ := (Texts.of_own h2).at_ 0 (by decide)
      obtain ⟨g, e5, _, e6⟩ := h2.block (by decide)
      subst e5
      cases e1
      rw [m_v9] at e4
      have hni : ni = 28 := e4.len.symm
      subst hni
      exact ⟨_, c, Ai, ci, h1, e3, e4, e6, h3⟩))
  go_enter Try.func10, Try.ntmps10
  go_wp2_with fail
  refine (blank8_any _).mono ?_
  rintro e w1 ⟨A1, c1, A1', c1', rfl, hown, hb⟩
  have hb2 := hb.alloc hb.size (.cells #[.slice A1 86 c1, .slice A1' 0 c1'] 32)
  have X := Lib.hid (DBox.new (Dsk.of_own hown))
  have B := Lib.hid (B.out.trans (hb2.mono B.out.size))
  clear hown hb hb2
  go_upto_region 2 with fail
  obtain ⟨G1, hG⟩ : ∃ x, x = w1.heap.size := ⟨_, rfl⟩
  rw [← hG] at X ⊢
  obtain ⟨v1, hW⟩ : ∃ x : World, x = w1.alloc (.cells #[.slice A1 86 c1, .slice A1' 0 c1'] 32) := ⟨_, rfl⟩
  rw [← hW] at X B ⊢
  clear hW hG
  go_upto_region 2 with fail
  have hcur : Below v1.heap.size v1 v1.drew := below_drewN (Below.refl _ _) 1
  have keepX : ∀ wx, Below v1.heap.size v1 wx → wx.cell? ⟨G1, 0, none⟩ = some (.slice A1 86 c1) ∧ wx.cell? ⟨G1, 1, none⟩ = some (.slice A1' 0 c1') := fun wx hx => (X.out.below hx).cells
  have hkX := keepX _ hcur
  go_region_held3 (fun w' => w'.cell? ⟨G1, 0, none⟩ = some (.slice A1 86 c1) ∧ w'.cell? ⟨G1, 1, none⟩ = some (.slice A1' 0 c1'))
    (first | exact hkX | go_keep)
    (first
      | (go_at_call 61; with_reducible refine (two8_any v1.drew).mono ?_; rintro e wT ⟨rfl, hbT⟩; have hcur := hcur.trans (hbT.mono hcur.size); have hkX := keepX _ hcur)
      | (go_at_call 60; with_reducible refine (RA.out A1 c1 A1' c1' _ (X.out.below hcur).dsk).mono ?_; rintro e v2 ⟨Aq, cq, rfl, hb⟩; have hcur := hcur.trans (hb.mono hcur.size); have hkX := keepX _ hcur))
  have B := Lib.hid (B.out.trans (hcur.mono B.out.size))
  have X := Lib.hid (X.out.below hcur)
  clear keepX hkX hcur
  go_upto_region 3 with fail
  have hcur : Below v2.heap.size v2 v2.drew := below_drewN (Below.refl _ _) 1
  have keepX : ∀ wx, Below v2.heap.size v2 wx → wx.cell? ⟨G1, 0, none⟩ = some (.slice A1 86 c1) ∧ wx.cell? ⟨G1, 1, none⟩ = some (.slice A1' 0 c1') := fun wx hx => (X.out.below hx).cells
  have hkX := keepX _ hcur
  go_region_held3 (fun w' => w'.cell? ⟨G1, 0, none⟩ = some (.slice A1 86 c1) ∧ w'.cell? ⟨G1, 1, none⟩ = some (.slice A1' 0 c1'))
    (first | exact hkX | go_keep)
    (first
      | (go_at_call 61; with_reducible refine (two8_any v2.drew).mono ?_; rintro e wT ⟨rfl, hbT⟩; have hcur := hcur.trans (hbT.mono hcur.size); have hkX := keepX _ hcur)
      | (go_at_call 60; with_reducible refine (RB.out A1 c1 A1' c1' _ (X.out.below hcur).dsk).mono ?_; rintro e v3 ⟨Aq, cq, rfl, hb⟩; have hcur := hcur.trans (hb.mono hcur.size); have hkX := keepX _ hcur))
  have B := Lib.hid (B.out.trans (hcur.mono B.out.size))
  have X := Lib.hid (X.out.below hcur)
  clear keepX hkX hcur
  go_upto_region 4 with fail
  have hS : Below v3.heap.size v3 v3 := Below.refl _ _
  go_cut [7, 8] from 44 to 51 (fun x e wx => ∃ g, x = .pointer (some ⟨g, 0, none⟩) ∧ e = .int .i64 2 ∧ Below v3.heap.size v3 wx)
  case first =>
    have hcur : Below v3.heap.size v3 v3.drew := below_drewN (Below.refl _ _) 1
    have keepX : ∀ wx, Below v3.heap.size v3 wx → wx.cell? ⟨G1, 0, none⟩ = some (.slice A1 86 c1) ∧ wx.cell? ⟨G1, 1, none⟩ = some (.slice A1' 0 c1') := fun wx hx => (X.out.below hx).cells
    have hkX := keepX _ hcur
    go_region_held3 (fun w' => w'.cell? ⟨G1, 0, none⟩ = some (.slice A1 86 c1) ∧ w'.cell? ⟨G1, 1, none⟩ = some (.slice A1' 0 c1'))
      (first | exact hkX | exact keepX _ (below_drewN ((Below.refl _ _).alloc (Nat.le_refl _) _) 1) | exact keepX _ (hcur.alloc hcur.size _) | exact keepX _ ((hcur.setCell (p := ⟨_, 0, none⟩) hL _).setCell (p := ⟨_, 1, none⟩) hL _) | go_keep)
      (first
        | (go_at_call 61; with_reducible refine (two8_any v3.drew).mono ?_; rintro e wT ⟨rfl, hbT⟩; have hcur := hcur.trans (hbT.mono hcur.size); have hkX := keepX _ hcur)
        | (go_at_call 61; have hL := Nat.le_refl v3.heap.size; have hcur : Below v3.heap.size v3 (v3.alloc (.cells #[.slice none 0 0, .slice none 0 0] 32)).drew := below_drewN ((Below.refl _ _).alloc (Nat.le_refl _) _) 1; have hZ0 := Blk.new v3 32 [.slice none 0 0, .slice none 0 0]; have hZ := hZ0.below (below_drewN (Below.refl _ _) 1) hZ0.lt; with_reducible refine (two8_any _).mono ?_; rintro e wT ⟨rfl, hbT⟩; have hZ := hZ.below hbT hZ.lt; have hcur := hcur.trans (hbT.mono hcur.size); have hkX := keepX _ hcur)
        | (go_at_call 63; with_reducible refine (of28_any 120 wT).mono ?_; rintro e wO ⟨gO, rfl, hownO, hbO⟩; have hcur := hcur.trans (hbO.mono hcur.size); have hkX := keepX _ hcur; try have hZ := hZ.below hbO hZ.lt)
        | (go_at_call 63; have hL := hcur.size; have hcur := hcur.alloc hcur.size (.cells #[.slice none 0 0, .slice none 0 0] 32); have hZ := Blk.new wT 32 [.slice none 0 0, .slice none 0 0]; with_reducible refine (of28_any 120 _).mono ?_; rintro e wO ⟨gO, rfl, hownO, hbO⟩; have hZ := hZ.below hbO hZ.lt; have hcur := hcur.trans (hbO.mono hcur.size); have hkX := keepX _ hcur)
        | (go_at_call 62; have hM := hcur.size; with_reducible refine (WG.out A1 c1 A1' c1' (some ⟨gO, 1, none⟩) 27 _ (X.out.below hcur).dsk (Arg.tail27 (Arg.own hownO))).mono ?_; intro e w2 hout; obtain ⟨A9, c9, A9', c9', rfl, hown, hb⟩ := DiskOut.as hout (S' := []) (C' := []) (E' := 2) (n := 0) (n' := 0) m_w27.2.1 m_w27.2.2 m_w27.1 rfl rfl; have hcur := hcur.trans (hb.mono hcur.size); have hkX := keepX _ hcur; try (have hZ := hZ.below hb hZ.lt; have z0 := hZ.cell 0; have z1 := hZ.cell 1; have g0 := hZ.free 0; have g1 := hZ.free 1; simp only [List.getElem?_cons_zero, List.getElem?_cons_succ] at z0 z1))
        | (go_at_call 62; have hL := hcur.size; have hcur := hcur.alloc hcur.size (.cells #[.slice none 0 0, .slice none 0 0] 32); have hZ := Blk.new wO 32 [.slice none 0 0, .slice none 0 0]; have hownO := owns_below hownO ((Below.refl wO.heap.size wO).alloc (Nat.le_refl _) (.cells #[.slice none 0 0, .slice none 0 0] 32)); have hM := hcur.size; with_reducible refine (WG.out A1 c1 A1' c1' (some ⟨gO, 1, none⟩) 27 _ (X.out.below hcur).dsk (Arg.tail27 (Arg.own hownO))).mono ?_; intro e w2 hout; obtain ⟨A9, c9, A9', c9', rfl, hown, hb⟩ := DiskOut.as hout (S' := []) (C' := []) (E' := 2) (n := 0) (n' := 0) m_w27.2.1 m_w27.2.2 m_w27.1 rfl rfl; have hcur := hcur.trans (hb.mono hcur.size); have hkX := keepX _ hcur; have hZ := hZ.below hb hZ.lt; have z0 := hZ.cell 0; have z1 := hZ.cell 1; have g0 := hZ.free 0; have g1 := hZ.free 1; simp only [List.getElem?_cons_zero, List.getElem?_cons_succ] at z0 z1))
    all_goals (go_wp2_with fail; go_meet)
    all_goals first
      | exact ⟨_, rfl, rfl, hcur.alloc hcur.size _⟩
      | exact ⟨_, rfl, rfl, ((hcur.setCell (p := ⟨_, 0, none⟩) hL _).setCell (p := ⟨_, 1, none⟩) hL _)⟩
  case rest =>
    obtain ⟨g7, rfl, rfl, hb⟩ := hcut
    have B := Lib.hid (B.out.trans (hb.mono B.out.size))
    have X := Lib.hid (X.out.below hb)
    clear hS hb WG
    go_wp2_with fail
    refine (two8_any _).mono ?_
    rintro e v4 ⟨rfl, hb⟩
    have B := Lib.hid (B.out.trans (hb.mono B.out.size))
    have X := Lib.hid (X.out.below hb)
    clear hb
    go_wp2_with fail
    refine (RC.out none 0 none 0 _ (Dsk.of_own (OwnDsk.nil _ 0))).mono ?_
    rintro e v5 ⟨Aq, cq, rfl, hb⟩
    have B := Lib.hid (B.out.trans (hb.mono B.out.size))
    have X := Lib.hid (X.out.below hb)
    clear hb RC
    go_upto_region 6 with fail
    have hS : Below v5.heap.size v5 v5 := Below.refl _ _
    go_cut [11, 12] from 58 to 64 (fun x e wx => ∃ g A9 c9 A9' c9', x = .pointer (some ⟨g, 0, none⟩) ∧ e = .int .i64 0 ∧ Blk wx g 32 [.slice A9 86 c9, .slice A9' 2 c9'] ∧ OwnDsk wx w.heap.size A9 86 c9 A9' 2 c9' nS n00C ∧ Below v5.heap.size v5 wx)
    case first =>
      have hcur : Below v5.heap.size v5 v5.drew := below_drewN (Below.refl _ _) 1
      have keepX : ∀ wx, Below v5.heap.size v5 wx → wx.cell? ⟨G1, 0, none⟩ = some (.slice A1 86 c1) ∧ wx.cell? ⟨G1, 1, none⟩ = some (.slice A1' 0 c1') := fun wx hx => (X.out.below hx).cells
      have hkX := keepX _ hcur
      go_region_held3 (fun w' => w'.cell? ⟨G1, 0, none⟩ = some (.slice A1 86 c1) ∧ w'.cell? ⟨G1, 1, none⟩ = some (.slice A1' 0 c1'))
        (first | exact hkX | exact keepX _ (below_drewN ((Below.refl _ _).alloc (Nat.le_refl _) _) 1) | exact keepX _ (hcur.alloc hcur.size _) | exact keepX _ ((hcur.setCell (p := ⟨_, 0, none⟩) hL _).setCell (p := ⟨_, 1, none⟩) hL _) | go_keep)
        (first
          | (go_at_call 61; with_reducible refine (two8_any v5.drew).mono ?_; rintro e wT ⟨rfl, hbT⟩; have hcur := hcur.trans (hbT.mono hcur.size); have hkX := keepX _ hcur)
          | (go_at_call 61; have hL := Nat.le_refl v5.heap.size; have hcur : Below v5.heap.size v5 (v5.alloc (.cells #[.slice none 0 0, .slice none 0 0] 32)).drew := below_drewN ((Below.refl _ _).alloc (Nat.le_refl _) _) 1; have hZ0 := Blk.new v5 32 [.slice none 0 0, .slice none 0 0]; have hZ := hZ0.below (below_drewN (Below.refl _ _) 1) hZ0.lt; with_reducible refine (two8_any _).mono ?_; rintro e wT ⟨rfl, hbT⟩; have hZ := hZ.below hbT hZ.lt; have hcur := hcur.trans (hbT.mono hcur.size); have hkX := keepX _ hcur)
          | (go_at_call 63; with_reducible refine (of28_any 120 wT).mono ?_; rintro e wO ⟨gO, rfl, hownO, hbO⟩; have hcur := hcur.trans (hbO.mono hcur.size); have hkX := keepX _ hcur; try have hZ := hZ.below hbO hZ.lt)
          | (go_at_call 63; have hL := hcur.size; have hcur := hcur.alloc hcur.size (.cells #[.slice none 0 0, .slice none 0 0] 32); have hZ := Blk.new wT 32 [.slice none 0 0, .slice none 0 0]; with_reducible refine (of28_any 120 _).mono ?_; rintro e wO ⟨gO, rfl, hownO, hbO⟩; have hZ := hZ.below hbO hZ.lt; have hcur := hcur.trans (hbO.mono hcur.size); have hkX := keepX _ hcur)
          | (go_at_call 62; have hM := hcur.size; with_reducible refine (WX.out A1 c1 A1' c1' gO _ (X.out.below hcur).dsk (Arg.own hownO)).mono ?_; intro e w2 hout; obtain ⟨A9, c9, A9', c9', rfl, hown, hb⟩ := DiskOut.as hout (S' := nS) (C' := n00C) (E' := 0) (n := 86) (n' := 2) m_x00.1 m_x00.2.1 m_w00 nS_len m_x00.2.2; have hcur := hcur.trans (hb.mono hcur.size); have hkX := keepX _ hcur; try (have hZ := hZ.below hb hZ.lt; have z0 := hZ.cell 0; have z1 := hZ.cell 1; have g0 := hZ.free 0; have g1 := hZ.free 1; simp only [List.getElem?_cons_zero, List.getElem?_cons_succ] at z0 z1))
          | (go_at_call 62; have hL := hcur.size; have hcur := hcur.alloc hcur.size (.cells #[.slice none 0 0, .slice none 0 0] 32); have hZ := Blk.new wO 32 [.slice none 0 0, .slice none 0 0]; have hownO := owns_below hownO ((Below.refl wO.heap.size wO).alloc (Nat.le_refl _) (.cells #[.slice none 0 0, .slice none 0 0] 32)); have hM := hcur.size; with_reducible refine (WX.out A1 c1 A1' c1' gO _ (X.out.below hcur).dsk (Arg.own hownO)).mono ?_; intro e w2 hout; obtain ⟨A9, c9, A9', c9', rfl, hown, hb⟩ := DiskOut.as hout (S' := nS) (C' := n00C) (E' := 0) (n := 86) (n' := 2) m_x00.1 m_x00.2.1 m_w00 nS_len m_x00.2.2; have hcur := hcur.trans (hb.mono hcur.size); have hkX := keepX _ hcur; have hZ := hZ.below hb hZ.lt; have z0 := hZ.cell 0; have z1 := hZ.cell 1; have g0 := hZ.free 0; have g1 := hZ.free 1; simp only [List.getElem?_cons_zero, List.getElem?_cons_succ] at z0 z1))
      all_goals (go_wp2_with fail; go_meet)
      all_goals first
        | exact ⟨_, A9, c9, A9', c9', rfl, rfl, Blk.new _ _ _, (hown.below ((Below.refl _ _).alloc (Nat.le_refl _) _)).lower (Nat.le_trans B.out.size hM), hcur.alloc hcur.size _⟩
        | exact ⟨_, A9, c9, A9', c9', rfl, rfl, hZ.two _ _, (hown.two hZ _ _).lower (Nat.le_trans B.out.size hM), ((hcur.setCell (p := ⟨_, 0, none⟩) hL _).setCell (p := ⟨_, 1, none⟩) hL _)⟩
    case rest =>
      obtain ⟨GX, AX, cX, AX', cX', rfl, rfl, hg, ho, hb⟩ := hcut
      have B := Lib.hid (B.out.trans (hb.mono B.out.size))
      have X := Lib.hid (X.out.below hb)
      have Y := Lib.hid (show DBox wc GX AX 86 cX AX' 2 cX' nS n00C from ⟨hg, Dsk.of_own ho⟩)
      clear hS hb hg ho WX
      go_upto_region 7 with fail
      have hcur : Below wc.heap.size wc wc.drew := below_drewN (Below.refl _ _) 1
      have keepX : ∀ wx, Below wc.heap.size wc wx → wx.cell? ⟨GX, 0, none⟩ = some (.slice AX 86 cX) ∧ wx.cell? ⟨GX, 1, none⟩ = some (.slice AX' 2 cX') := fun wx hx => (Y.out.below hx).cells
      have hkX := keepX _ hcur
      go_region_held3 (fun w' => w'.cell? ⟨GX, 0, none⟩ = some (.slice AX 86 cX) ∧ w'.cell? ⟨GX, 1, none⟩ = some (.slice AX' 2 cX'))
        (first | exact hkX | go_keep)
        (first
          | (go_at_call 61; with_reducible refine (two8_any wc.drew).mono ?_; rintro e wT ⟨rfl, hbT⟩; have hcur := hcur.trans (hbT.mono hcur.size); have hkX := keepX _ hcur)
          | (go_at_call 63; with_reducible refine (of28_any 121 wT).mono ?_; rintro e wO ⟨gO, rfl, hownO, hbO⟩; have hcur := hcur.trans (hbO.mono hcur.size); have hkX := keepX _ hcur)
          | (go_at_call 64; with_reducible refine (PJ.out AX cX AX' cX' gO _ (Y.out.below hcur).dsk (Arg.own hownO)).mono ?_; rintro e v6 ⟨Aq, cq, rfl, hb⟩; have hcur := hcur.trans (hb.mono hcur.size); have hkX := keepX _ hcur))
      have B := Lib.hid (B.out.trans (hcur.mono B.out.size))
      have X := Lib.hid (X.out.below hcur)
      have Y := Lib.hid (Y.out.below hcur)
      clear keepX hkX hcur PJ
      go_wp2_with fail
      refine (two8_any _).mono ?_
      rintro e v7 ⟨rfl, hb⟩
      have B := Lib.hid (B.out.trans (hb.mono B.out.size))
      have X := Lib.hid (X.out.below hb)
      have Y := Lib.hid (Y.out.below hb)
      clear hb 
      go_wp2_with fail
      refine (TR.out _).mono ?_
      rintro e v8 ⟨rfl, hb⟩
      have B := Lib.hid (B.out.trans (hb.mono B.out.size))
      have X := Lib.hid (X.out.below hb)
      have Y := Lib.hid (Y.out.below hb)
      clear hb TR
      have hw1 : IntKind.i64.wrap (18 + 1 : Int) = 19 := by decide
      obtain ⟨gW, cW, wW, happ, hargW, hb⟩ := app_lastA v8
      have HA := Lib.hid hargW
      have HRUN := Lib.hid happ
      clear happ
      have B := Lib.hid (B.out.trans (hb.mono B.out.size))
      have X := Lib.hid (X.out.below hb)
      have Y := Lib.hid (Y.out.below hb)
      clear hb hargW
      obtain ⟨k0, k1⟩ := X.out.cells
      go_wp2_with (at_builtin; refine wpList_app_eq rfl (.tmp 77) (.const (.int .i64 24)) 22 3 rfl rfl rfl HRUN.out ?_)
      refine (dsk_does.write A1 86 c1 A1' 0 c1' nS [] 18 (some ⟨gW, 0, none⟩) 32 cW wrA wW X.out.dsk nS_small HA.out (few_byte _ (by kernel_rfl)) (by decide)).mono ?_
      intro e v9 hout
      obtain ⟨AY2, cY2, AY2', cY2', rfl, hown, hb⟩ := DiskOut.as hout (S' := nS) (C' := yC) (E' := 0) (n := 86) (n' := 1) m_y.2.1 m_y.2.2 m_y.1 nS_len rfl
      have hkA : Below v9.heap.size v9 (v9.alloc (.cells #[.slice AY2 86 cY2, .slice AY2' 1 cY2'] 32)) := (Below.refl _ _).alloc (Nat.le_refl _) _
      have hb := hb.trans (hkA.mono hb.size)
      have KY2 := DBox.new (Dsk.of_own hown)
      have B := Lib.hid (B.out.trans (hb.mono B.out.size))
      have X := Lib.hid (X.out.below hb)
      have Y := Lib.hid (Y.out.below hb)
      clear hb hkA hown hout HA k0 k1 HRUN hw1
      obtain ⟨GY2, hG⟩ : ∃ x, x = v9.heap.size := ⟨_, rfl⟩
      go_upto_region 11 with fail
      rw [← hG] at KY2 ⊢
      obtain ⟨u9, hW⟩ : ∃ x : World, x = v9.alloc (.cells #[.slice AY2 86 cY2, .slice AY2' 1 cY2'] 32) := ⟨_, rfl⟩
      rw [← hW] at KY2 X Y B ⊢
      clear hW hG
      have KY2 := Lib.hid KY2
      have hw1 : IntKind.i64.wrap (18 + 1 : Int) = 19 := by decide
      obtain ⟨gW, cW, wW, happ, hargW, hb⟩ := app_lastB u9
      have HA := Lib.hid hargW
      have HRUN := Lib.hid happ
      clear happ
      have B := Lib.hid (B.out.trans (hb.mono B.out.size))
      have X := Lib.hid (X.out.below hb)
      have Y := Lib.hid (Y.out.below hb)
      have KY2 := Lib.hid (KY2.out.below hb)
      clear hb hargW
      obtain ⟨k0, k1⟩ := KY2.out.cells
      go_wp2_with (at_builtin; refine wpList_app_eq rfl (.tmp 86) (.const (.int .i64 24)) 22 3 rfl rfl rfl HRUN.out ?_)
      refine (dsk_does.write AY2 86 cY2 AY2' 1 cY2' nS yC 19 (some ⟨gW, 0, none⟩) 32 cW wrB wW KY2.out.dsk y_small HA.out (few_byte _ (by kernel_rfl)) (by decide)).mono ?_
      intro e v10 hout
      obtain ⟨AZ2, cZ2, AZ2', cZ2', rfl, hown, hb⟩ := DiskOut.as hout (S' := nS) (C' := zzC) (E' := 0) (n := 86) (n' := 2) m_z.2.1 m_z.2.2 m_z.1 nS_len rfl
      have hkA : Below v10.heap.size v10 (v10.alloc (.cells #[.slice AZ2 86 cZ2, .slice AZ2' 2 cZ2'] 32)) := (Below.refl _ _).alloc (Nat.le_refl _) _
      have hb := hb.trans (hkA.mono hb.size)
      have KZ2 := DBox.new (Dsk.of_own hown)
      have B := Lib.hid (B.out.trans (hb.mono B.out.size))
      have X := Lib.hid (X.out.below hb)
      have Y := Lib.hid (Y.out.below hb)
      clear hb hkA hown hout HA k0 k1 HRUN hw1
      obtain ⟨GZ2, hG⟩ : ∃ x, x = v10.heap.size := ⟨_, rfl⟩
      go_upto_region 13 with fail
      rw [← hG] at KZ2 ⊢
      obtain ⟨u10, hW⟩ : ∃ x : World, x = v10.alloc (.cells #[.slice AZ2 86 cZ2, .slice AZ2' 2 cZ2'] 32) := ⟨_, rfl⟩
      rw [← hW] at KZ2 X Y B ⊢
      clear hW hG KY2 X
      have KZ2 := Lib.hid KZ2
      go_upto_region 13 with fail
      have hcur : Below u10.heap.size u10 u10.drew := below_drewN (Below.refl _ _) 1
      have keepX : ∀ wx, Below u10.heap.size u10 wx → wx.cell? ⟨GZ2, 0, none⟩ = some (.slice AZ2 86 cZ2) ∧ wx.cell? ⟨GZ2, 1, none⟩ = some (.slice AZ2' 2 cZ2') := fun wx hx => (KZ2.out.below hx).cells
      have hkX := keepX _ hcur
      go_region_held3 (fun w' => w'.cell? ⟨GZ2, 0, none⟩ = some (.slice AZ2 86 cZ2) ∧ w'.cell? ⟨GZ2, 1, none⟩ = some (.slice AZ2' 2 cZ2'))
        (first | exact hkX | go_keep)
        (first
          | (go_at_call 61; with_reducible refine (two8_any u10.drew).mono ?_; rintro e wT ⟨rfl, hbT⟩; have hcur := hcur.trans (hbT.mono hcur.size); have hkX := keepX _ hcur)
          | (go_at_call 60; with_reducible refine (RN.out AZ2 cZ2 AZ2' cZ2' _ (KZ2.out.below hcur).dsk).mono ?_; rintro e v11 ⟨Aq, cq, rfl, hb⟩; have hcur := hcur.trans (hb.mono hcur.size); have hkX := keepX _ hcur))
      have B := Lib.hid (B.out.trans (hcur.mono B.out.size))
      have KZ2 := Lib.hid (KZ2.out.below hcur)
      have Y := Lib.hid (Y.out.below hcur)
      clear keepX hkX hcur
      go_upto_region 14 with fail
      have hcur : Below v11.heap.size v11 v11.drew := below_drewN (Below.refl _ _) 1
      have keepX : ∀ wx, Below v11.heap.size v11 wx → wx.cell? ⟨GZ2, 0, none⟩ = some (.slice AZ2 86 cZ2) ∧ wx.cell? ⟨GZ2, 1, none⟩ = some (.slice AZ2' 2 cZ2') := fun wx hx => (KZ2.out.below hx).cells
      have hkX := keepX _ hcur
      go_region_held3 (fun w' => w'.cell? ⟨GZ2, 0, none⟩ = some (.slice AZ2 86 cZ2) ∧ w'.cell? ⟨GZ2, 1, none⟩ = some (.slice AZ2' 2 cZ2'))
        (first | exact hkX | go_keep)
        (first
          | (go_at_call 61; with_reducible refine (two8_any v11.drew).mono ?_; rintro e wT ⟨rfl, hbT⟩; have hcur := hcur.trans (hbT.mono hcur.size); have hkX := keepX _ hcur)
          | (go_at_call 65; with_reducible refine (VZ.out AZ2 cZ2 AZ2' cZ2' _ (KZ2.out.below hcur).dsk).mono ?_; rintro e v12 ⟨Aq, cq, rfl, hb⟩; have hcur := hcur.trans (hb.mono hcur.size); have hkX := keepX _ hcur))
      have B := Lib.hid (B.out.trans (hcur.mono B.out.size))
      have Y := Lib.hid (Y.out.below hcur)
      clear keepX hkX hcur
      clear RA RB RN VZ KZ2
      go_upto_region 15 with fail
      have hcur : Below v12.heap.size v12 v12.drew := below_drewN (Below.refl _ _) 1
      have keepX : ∀ wx, Below v12.heap.size v12 wx → wx.cell? ⟨GX, 0, none⟩ = some (.slice AX 86 cX) ∧ wx.cell? ⟨GX, 1, none⟩ = some (.slice AX' 2 cX') := fun wx hx => (Y.out.below hx).cells
      have hkX := keepX _ hcur
      go_region_held3 (fun w' => w'.cell? ⟨GX, 0, none⟩ = some (.slice AX 86 cX) ∧ w'.cell? ⟨GX, 1, none⟩ = some (.slice AX' 2 cX'))
        (first | exact hkX | go_keep)
        (first
          | (go_at_call 61; with_reducible refine (two8_any v12.drew).mono ?_; rintro e wT ⟨rfl, hbT⟩; have hcur := hcur.trans (hbT.mono hcur.size); have hkX := keepX _ hcur)
          | (go_at_call 65; with_reducible refine (VX.out AX cX AX' cX' _ (Y.out.below hcur).dsk).mono ?_; rintro e v13 ⟨gV, cV, Ai, ci, rfl, hcV, hargV, hgV, hb⟩; have hcur := hcur.trans (hb.mono hcur.size); have hkX := keepX _ hcur; have h0 := Lib.hid hargV; clear hargV))
      have B := Lib.hid (B.out.trans (hcur.mono B.out.size))
      clear keepX hkX hcur Y VX
      obtain ⟨s1, hs1⟩ : ∃ s, s = strOfNums x28 := ⟨_, rfl⟩
      have HS1 := Lib.hid hs1
      have hst2 : (s1.toList == s1.toList) = true := beq_self_eq_true _
      clear hs1
      have k0 := str_arg h0.out
      rw [← HS1.out] at k0
      have hcur : Below v13.heap.size v13 v13.drew := below_drewN (Below.refl _ _) 1
      have keepX : ∀ wx, Below v13.heap.size v13 wx → (convert 22 9 (.slice Ai 28 ci)).run Try.prog wx = .ok (.string s1) wx ∧ wx.cell? ⟨gV, 0, none⟩ = some (.slice Ai 28 ci) := fun wx hx => ⟨by rw [HS1.out]; exact str_arg (h0.out.below hx), by rw [hx.cell hgV]; exact hcV⟩
      have hHeld := keepX _ hcur
      clear k0 hcV
      go_upto_region 16 with fail
      simp only [List.append]
      refine wp_region_toL 68 (fun wx => (convert 22 9 (.slice Ai 28 ci)).run Try.prog wx = .ok (.string s1) wx ∧ wx.cell? ⟨gV, 0, none⟩ = some (.slice Ai 28 ci)) [false, false, false, false, false, false, false, false, false, false, false, false, false, false, false, false, false, false, false, false, false, false, false, false, false, false, false, false, false, false, false, false, false, false, false, false, false, false, false, false, false, false, false, false, false, false, false, false, false, false, false, false, false, false, false, false, false, false, false, false, false, false, false, false, false, false, false, false, false].toArray (by kernel_rfl) (by kernel_rfl) ?_
      refine wpAnyG_take1 (i := 0) (v := ?_) rfl (by kernel_rfl) (by kernel_rfl) (by kernel_rfl) (by kernel_rfl) (by kernel_rfl) rfl (fun _ _ _ h => h) (Or.inl ⟨by rfl, ?_⟩) hHeld ?_
      rotate_left
      · (intro w' hSw; (try dsimp only at hSw); go_simp; (try with_reducible rfl))
      simp only [Act.put, List.setIfInBounds_toArray, List.set_cons_zero, List.set_cons_succ, List.getElem_toArray, List.getElem_cons_zero]
      refine wpAnyG_one (i := 1) (by kernel_rfl) rfl (fun K hK => ?_)
      simp only [List.getElem_toArray, List.getElem_cons_zero, List.getElem_cons_succ] at hK ⊢
      go_simp
      go_at_call 66
      refine (alive_track _).mono ?_
      rintro e wO ⟨rfl, hbH⟩
      have hcur := hcur.trans (hbH.mono hcur.size)
      refine hK.out _ _ (fun _ => keepX _ hcur) (fun hHeld => ?_)
      have hHeld := hHeld (by decide)
      clear hK K
      try simp only [List.setIfInBounds_toArray, List.set_cons_zero, List.set_cons_succ]
      refine wpAnyG_take1 (i := 2) (v := ?_) rfl (by kernel_rfl) (by kernel_rfl) (by kernel_rfl) (by kernel_rfl) (by kernel_rfl) rfl (fun _ _ _ h => h) (Or.inl ⟨by rfl, ?_⟩) hHeld ?_
      rotate_left
      · (intro w' hSw; (try dsimp only at hSw); go_simp; (try with_reducible rfl))
      simp only [Act.put, List.setIfInBounds_toArray, List.set_cons_zero, List.set_cons_succ, List.getElem_toArray, List.getElem_cons_zero, List.getElem_cons_succ]
      refine wpAnyG_take1 (i := 3) (v := ?_) rfl (by kernel_rfl) (by kernel_rfl) (by kernel_rfl) (by kernel_rfl) (by kernel_rfl) rfl (fun _ _ _ h => h) (Or.inl ⟨by rfl, ?_⟩) hHeld ?_
      rotate_left
      · (intro w' hSw; (try dsimp only at hSw); go_simp; (try with_reducible rfl))
      simp only [Act.put, List.setIfInBounds_toArray, List.set_cons_zero, List.set_cons_succ, List.getElem_toArray, List.getElem_cons_zero, List.getElem_cons_succ]
      refine wpAnyG_take1 (i := 4) (v := ?_) rfl (by kernel_rfl) (by kernel_rfl) (by kernel_rfl) (by kernel_rfl) (by kernel_rfl) rfl (fun _ _ _ h => h) (Or.inl ⟨by rfl, ?_⟩) hHeld ?_
      rotate_left
      · (intro w' hSw; (try dsimp only at hSw); go_simp; (try with_reducible rfl))
      simp only [Act.put, List.setIfInBounds_toArray, List.set_cons_zero, List.set_cons_succ, List.getElem_toArray, List.getElem_cons_zero, List.getElem_cons_succ]
      refine wpAnyG_take1 (i := 5) (v := ?_) rfl (by kernel_rfl) (by kernel_rfl) (by kernel_rfl) (by kernel_rfl) (by kernel_rfl) rfl (fun _ _ _ h => h) (Or.inl ⟨by rfl, ?_⟩) hHeld ?_
      rotate_left
      · (intro w' hSw; (try dsimp only at hSw); go_simp; (try with_reducible rfl))
      simp only [Act.put, List.setIfInBounds_toArray, List.set_cons_zero, List.set_cons_succ, List.getElem_toArray, List.getElem_cons_zero, List.getElem_cons_succ]
      refine wpAnyG_take1 (i := 6) (v := ?_) rfl (by kernel_rfl) (by kernel_rfl) (by kernel_rfl) (by kernel_rfl) (by kernel_rfl) rfl (fun _ _ _ h => h) (Or.inl ⟨by rfl, ?_⟩) hHeld ?_
      rotate_left
      · (intro w' hSw; (try dsimp only at hSw); go_simp; (try with_reducible rfl))
      simp only [Act.put, List.setIfInBounds_toArray, List.set_cons_zero, List.set_cons_succ, List.getElem_toArray, List.getElem_cons_zero, List.getElem_cons_succ]
      refine wpAnyG_take1 (i := 7) (v := ?_) rfl (by kernel_rfl) (by kernel_rfl) (by kernel_rfl) (by kernel_rfl) (by kernel_rfl) rfl (fun _ _ _ h => h) (Or.inl ⟨by rfl, ?_⟩) hHeld ?_
      rotate_left
      · (intro w' hSw; (try dsimp only at hSw); go_simp; (try with_reducible rfl))
      simp only [Act.put, List.setIfInBounds_toArray, List.set_cons_zero, List.set_cons_succ, List.getElem_toArray, List.getElem_cons_zero, List.getElem_cons_succ]
      refine wpAnyG_take1 (i := 8) (v := ?_) rfl (by kernel_rfl) (by kernel_rfl) (by kernel_rfl) (by kernel_rfl) (by kernel_rfl) rfl (fun _ _ _ h => h) (Or.inl ⟨by rfl, ?_⟩) hHeld ?_
      rotate_left
      · (intro w' hSw; (try dsimp only at hSw); go_simp; (try with_reducible rfl))
      simp only [Act.put, List.setIfInBounds_toArray, List.set_cons_zero, List.set_cons_succ, List.getElem_toArray, List.getElem_cons_zero, List.getElem_cons_succ]
      refine wpAnyG_take1 (i := 9) (v := ?_) rfl (by kernel_rfl) (by kernel_rfl) (by kernel_rfl) (by kernel_rfl) (by kernel_rfl) rfl (fun _ _ _ h => h) (Or.inl ⟨by rfl, ?_⟩) hHeld ?_
      rotate_left
      · (intro w' hSw; (try dsimp only at hSw); go_simp; (try with_reducible rfl))
      simp only [Act.put, List.setIfInBounds_toArray, List.set_cons_zero, List.set_cons_succ, List.getElem_toArray, List.getElem_cons_zero, List.getElem_cons_succ]
      refine wpAnyG_take1 (i := 10) (v := ?_) rfl (by kernel_rfl) (by kernel_rfl) (by kernel_rfl) (by kernel_rfl) (by kernel_rfl) rfl (fun _ _ _ h => h) (Or.inl ⟨by rfl, ?_⟩) hHeld ?_
      rotate_left
      · (intro w' hSw; (try dsimp only at hSw); go_simp; (try with_reducible rfl))
      simp only [Act.put, List.setIfInBounds_toArray, List.set_cons_zero, List.set_cons_succ, List.getElem_toArray, List.getElem_cons_zero, List.getElem_cons_succ]
      refine wpAnyG_take1 (i := 11) (v := ?_) rfl (by kernel_rfl) (by kernel_rfl) (by kernel_rfl) (by kernel_rfl) (by kernel_rfl) rfl (fun _ _ _ h => h) (Or.inl ⟨by rfl, ?_⟩) hHeld ?_
      rotate_left
      · (intro w' hSw; (try dsimp only at hSw); go_simp; (try with_reducible rfl))
      simp only [Act.put, List.setIfInBounds_toArray, List.set_cons_zero, List.set_cons_succ, List.getElem_toArray, List.getElem_cons_zero, List.getElem_cons_succ]
      refine wpAnyG_take1 (i := 12) (v := ?_) rfl (by kernel_rfl) (by kernel_rfl) (by kernel_rfl) (by kernel_rfl) (by kernel_rfl) rfl (fun _ _ _ h => h) (Or.inl ⟨by rfl, ?_⟩) hHeld ?_
      rotate_left
      · (intro w' hSw; (try dsimp only at hSw); go_simp; (try with_reducible rfl))
      simp only [Act.put, List.setIfInBounds_toArray, List.set_cons_zero, List.set_cons_succ, List.getElem_toArray, List.getElem_cons_zero, List.getElem_cons_succ]
      refine wpAnyG_take1 (i := 13) (v := ?_) rfl (by kernel_rfl) (by kernel_rfl) (by kernel_rfl) (by kernel_rfl) (by kernel_rfl) rfl (fun _ _ _ h => h) (Or.inl ⟨by rfl, ?_⟩) hHeld ?_
      rotate_left
      · (intro w' hSw; (try dsimp only at hSw); go_simp; (try with_reducible rfl))
      simp only [Act.put, List.setIfInBounds_toArray, List.set_cons_zero, List.set_cons_succ, List.getElem_toArray, List.getElem_cons_zero, List.getElem_cons_succ]
      refine wpAnyG_take1 (i := 14) (v := ?_) rfl (by kernel_rfl) (by kernel_rfl) (by kernel_rfl) (by kernel_rfl) (by kernel_rfl) rfl (fun _ _ _ h => h) (Or.inl ⟨by rfl, ?_⟩) hHeld ?_
      rotate_left
      · (intro w' hSw; (try dsimp only at hSw); go_simp; (try with_reducible rfl))
      simp only [Act.put, List.setIfInBounds_toArray, List.set_cons_zero, List.set_cons_succ, List.getElem_toArray, List.getElem_cons_zero, List.getElem_cons_succ]
      refine wpAnyG_take1 (i := 15) (v := ?_) rfl (by kernel_rfl) (by kernel_rfl) (by kernel_rfl) (by kernel_rfl) (by kernel_rfl) rfl (fun _ _ _ h => h) (Or.inl ⟨by rfl, ?_⟩) hHeld ?_
      rotate_left
      · (intro w' hSw; (try dsimp only at hSw); go_simp; (try with_reducible rfl))
      simp only [Act.put, List.setIfInBounds_toArray, List.set_cons_zero, List.set_cons_succ, List.getElem_toArray, List.getElem_cons_zero, List.getElem_cons_succ]
      refine wpAnyG_take1 (i := 16) (v := ?_) rfl (by kernel_rfl) (by kernel_rfl) (by kernel_rfl) (by kernel_rfl) (by kernel_rfl) rfl (fun _ _ _ h => h) (Or.inl ⟨by rfl, ?_⟩) hHeld ?_
      rotate_left
      · (intro w' hSw; (try dsimp only at hSw); go_simp; (try with_reducible rfl))
      simp only [Act.put, List.setIfInBounds_toArray, List.set_cons_zero, List.set_cons_succ, List.getElem_toArray, List.getElem_cons_zero, List.getElem_cons_succ]
      refine wpAnyG_take1 (i := 17) (v := ?_) rfl (by kernel_rfl) (by kernel_rfl) (by kernel_rfl) (by kernel_rfl) (by kernel_rfl) rfl (fun _ _ _ h => h) (Or.inl ⟨by rfl, ?_⟩) hHeld ?_
      rotate_left
      · (intro w' hSw; (try dsimp only at hSw); go_simp; (try with_reducible rfl))
      simp only [Act.put, List.setIfInBounds_toArray, List.set_cons_zero, List.set_cons_succ, List.getElem_toArray, List.getElem_cons_zero, List.getElem_cons_succ]
      refine wpAnyG_take1 (i := 18) (v := ?_) rfl (by kernel_rfl) (by kernel_rfl) (by kernel_rfl) (by kernel_rfl) (by kernel_rfl) rfl (fun _ _ _ h => h) (Or.inl ⟨by rfl, ?_⟩) hHeld ?_
      rotate_left
      · (intro w' hSw; (try dsimp only at hSw); go_simp; (try with_reducible rfl))
      simp only [Act.put, List.setIfInBounds_toArray, List.set_cons_zero, List.set_cons_succ, List.getElem_toArray, List.getElem_cons_zero, List.getElem_cons_succ]
      refine wpAnyG_take1 (i := 19) (v := ?_) rfl (by kernel_rfl) (by kernel_rfl) (by kernel_rfl) (by kernel_rfl) (by kernel_rfl) rfl (fun _ _ _ h => h) (Or.inl ⟨by rfl, ?_⟩) hHeld ?_
      rotate_left
      · (intro w' hSw; (try dsimp only at hSw); go_simp; (try with_reducible rfl))
      simp only [Act.put, List.setIfInBounds_toArray, List.set_cons_zero, List.set_cons_succ, List.getElem_toArray, List.getElem_cons_zero, List.getElem_cons_succ]
      refine wpAnyG_take1 (i := 20) (v := ?_) rfl (by kernel_rfl) (by kernel_rfl) (by kernel_rfl) (by kernel_rfl) (by kernel_rfl) rfl (fun _ _ _ h => h) (Or.inl ⟨by rfl, ?_⟩) hHeld ?_
      rotate_left
      · (intro w' hSw; (try dsimp only at hSw); go_simp; (try with_reducible rfl))
      simp only [Act.put, List.setIfInBounds_toArray, List.set_cons_zero, List.set_cons_succ, List.getElem_toArray, List.getElem_cons_zero, List.getElem_cons_succ]
      refine wpAnyG_take1 (i := 21) (v := ?_) rfl (by kernel_rfl) (by kernel_rfl) (by kernel_rfl) (by kernel_rfl) (by kernel_rfl) rfl (fun _ _ _ h => h) (Or.inl ⟨by rfl, ?_⟩) hHeld ?_
      rotate_left
      · (intro w' hSw; (try dsimp only at hSw); go_simp; (try with_reducible rfl))
      simp only [Act.put, List.setIfInBounds_toArray, List.set_cons_zero, List.set_cons_succ, List.getElem_toArray, List.getElem_cons_zero, List.getElem_cons_succ]
      refine wpAnyG_take1 (i := 22) (v := ?_) rfl (by kernel_rfl) (by kernel_rfl) (by kernel_rfl) (by kernel_rfl) (by kernel_rfl) rfl (fun _ _ _ h => h) (Or.inl ⟨by rfl, ?_⟩) hHeld ?_
      rotate_left
      · (intro w' hSw; (try dsimp only at hSw); go_simp; (try with_reducible rfl))
      simp only [Act.put, List.setIfInBounds_toArray, List.set_cons_zero, List.set_cons_succ, List.getElem_toArray, List.getElem_cons_zero, List.getElem_cons_succ]
      refine wpAnyG_take1 (i := 23) (v := ?_) rfl (by kernel_rfl) (by kernel_rfl) (by kernel_rfl) (by kernel_rfl) (by kernel_rfl) rfl (fun _ _ _ h => h) (Or.inl ⟨by rfl, ?_⟩) hHeld ?_
      rotate_left
      · (intro w' hSw; (try dsimp only at hSw); go_simp; (try with_reducible rfl))
      simp only [Act.put, List.setIfInBounds_toArray, List.set_cons_zero, List.set_cons_succ, List.getElem_toArray, List.getElem_cons_zero, List.getElem_cons_succ]
      refine wpAnyG_take1 (i := 24) (v := ?_) rfl (by kernel_rfl) (by kernel_rfl) (by kernel_rfl) (by kernel_rfl) (by kernel_rfl) rfl (fun _ _ _ h => h) (Or.inl ⟨by rfl, ?_⟩) hHeld ?_
      rotate_left
      · (intro w' hSw; (try dsimp only at hSw); go_simp; (try with_reducible rfl))
      simp only [Act.put, List.setIfInBounds_toArray, List.set_cons_zero, List.set_cons_succ, List.getElem_toArray, List.getElem_cons_zero, List.getElem_cons_succ]
      refine wpAnyG_take1 (i := 25) (v := ?_) rfl (by kernel_rfl) (by kernel_rfl) (by kernel_rfl) (by kernel_rfl) (by kernel_rfl) rfl (fun _ _ _ h => h) (Or.inl ⟨by rfl, ?_⟩) hHeld ?_
      rotate_left
      · (intro w' hSw; (try dsimp only at hSw); go_simp; (try with_reducible rfl))
      simp only [Act.put, List.setIfInBounds_toArray, List.set_cons_zero, List.set_cons_succ, List.getElem_toArray, List.getElem_cons_zero, List.getElem_cons_succ]
      refine wpAnyG_take1 (i := 26) (v := ?_) rfl (by kernel_rfl) (by kernel_rfl) (by kernel_rfl) (by kernel_rfl) (by kernel_rfl) rfl (fun _ _ _ h => h) (Or.inl ⟨by rfl, ?_⟩) hHeld ?_
      rotate_left
      · (intro w' hSw; (try dsimp only at hSw); go_simp; (try with_reducible rfl))
      simp only [Act.put, List.setIfInBounds_toArray, List.set_cons_zero, List.set_cons_succ, List.getElem_toArray, List.getElem_cons_zero, List.getElem_cons_succ]
      refine wpAnyG_take1 (i := 27) (v := ?_) rfl (by kernel_rfl) (by kernel_rfl) (by kernel_rfl) (by kernel_rfl) (by kernel_rfl) rfl (fun _ _ _ h => h) (Or.inl ⟨by rfl, ?_⟩) hHeld ?_
      rotate_left
      · (intro w' hSw; (try dsimp only at hSw); go_simp; (try with_reducible rfl))
      simp only [Act.put, List.setIfInBounds_toArray, List.set_cons_zero, List.set_cons_succ, List.getElem_toArray, List.getElem_cons_zero, List.getElem_cons_succ]
      refine wpAnyG_take1 (i := 28) (v := ?_) rfl (by kernel_rfl) (by kernel_rfl) (by kernel_rfl) (by kernel_rfl) (by kernel_rfl) rfl (fun _ _ _ h => h) (Or.inl ⟨by rfl, ?_⟩) hHeld ?_
      rotate_left
      · (intro w' hSw; (try dsimp only at hSw); go_simp; (try with_reducible rfl))
      simp only [Act.put, List.setIfInBounds_toArray, List.set_cons_zero, List.set_cons_succ, List.getElem_toArray, List.getElem_cons_zero, List.getElem_cons_succ]
      refine wpAnyG_take1 (i := 29) (v := ?_) rfl (by kernel_rfl) (by kernel_rfl) (by kernel_rfl) (by kernel_rfl) (by kernel_rfl) rfl (fun _ _ _ h => h) (Or.inl ⟨by rfl, ?_⟩) hHeld ?_
      rotate_left
      · (intro w' hSw; (try dsimp only at hSw); go_simp; (try with_reducible rfl))
      simp only [Act.put, List.setIfInBounds_toArray, List.set_cons_zero, List.set_cons_succ, List.getElem_toArray, List.getElem_cons_zero, List.getElem_cons_succ]
      refine wpAnyG_take1 (i := 30) (v := ?_) rfl (by kernel_rfl) (by kernel_rfl) (by kernel_rfl) (by kernel_rfl) (by kernel_rfl) rfl (fun _ _ _ h => h) (Or.inl ⟨by rfl, ?_⟩) hHeld ?_
      rotate_left
      · (intro w' hSw; (try dsimp only at hSw); go_simp; (try with_reducible rfl))
      simp only [Act.put, List.setIfInBounds_toArray, List.set_cons_zero, List.set_cons_succ, List.getElem_toArray, List.getElem_cons_zero, List.getElem_cons_succ]
      refine wpAnyG_take1 (i := 31) (v := ?_) rfl (by kernel_rfl) (by kernel_rfl) (by kernel_rfl) (by kernel_rfl) (by kernel_rfl) rfl (fun _ _ _ h => h) (Or.inl ⟨by rfl, ?_⟩) hHeld ?_
      rotate_left
      · (intro w' hSw; (try dsimp only at hSw); go_simp; (try with_reducible rfl))
      simp only [Act.put, List.setIfInBounds_toArray, List.set_cons_zero, List.set_cons_succ, List.getElem_toArray, List.getElem_cons_zero, List.getElem_cons_succ]
      refine wpAnyG_take1 (i := 32) (v := ?_) rfl (by kernel_rfl) (by kernel_rfl) (by kernel_rfl) (by kernel_rfl) (by kernel_rfl) rfl (fun _ _ _ h => h) (Or.inl ⟨by rfl, ?_⟩) hHeld ?_
      rotate_left
      · (intro w' hSw; (try dsimp only at hSw); go_simp; (try with_reducible rfl))
      simp only [Act.put, List.setIfInBounds_toArray, List.set_cons_zero, List.set_cons_succ, List.getElem_toArray, List.getElem_cons_zero, List.getElem_cons_succ]
      refine wpAnyG_take1 (i := 33) (v := ?_) rfl (by kernel_rfl) (by kernel_rfl) (by kernel_rfl) (by kernel_rfl) (by kernel_rfl) rfl (fun _ _ _ h => h) (Or.inl ⟨by rfl, ?_⟩) hHeld ?_
      rotate_left
      · (intro w' hSw; (try dsimp only at hSw); go_simp; (try with_reducible rfl))
      simp only [Act.put, List.setIfInBounds_toArray, List.set_cons_zero, List.set_cons_succ, List.getElem_toArray, List.getElem_cons_zero, List.getElem_cons_succ]
      refine wpAnyG_take1 (i := 34) (v := ?_) rfl (by kernel_rfl) (by kernel_rfl) (by kernel_rfl) (by kernel_rfl) (by kernel_rfl) rfl (fun _ _ _ h => h) (Or.inl ⟨by rfl, ?_⟩) hHeld ?_
      rotate_left
      · (intro w' hSw; (try dsimp only at hSw); go_simp; (try with_reducible rfl))
      simp only [Act.put, List.setIfInBounds_toArray, List.set_cons_zero, List.set_cons_succ, List.getElem_toArray, List.getElem_cons_zero, List.getElem_cons_succ]
      refine wpAnyG_take1 (i := 35) (v := ?_) rfl (by kernel_rfl) (by kernel_rfl) (by kernel_rfl) (by kernel_rfl) (by kernel_rfl) rfl (fun _ _ _ h => h) (Or.inl ⟨by rfl, ?_⟩) hHeld ?_
      rotate_left
      · (intro w' hSw; (try dsimp only at hSw); go_simp; (try with_reducible rfl))
      simp only [Act.put, List.setIfInBounds_toArray, List.set_cons_zero, List.set_cons_succ, List.getElem_toArray, List.getElem_cons_zero, List.getElem_cons_succ]
      refine wpAnyG_take1 (i := 36) (v := ?_) rfl (by kernel_rfl) (by kernel_rfl) (by kernel_rfl) (by kernel_rfl) (by kernel_rfl) rfl (fun _ _ _ h => h) (Or.inl ⟨by rfl, ?_⟩) hHeld ?_
      rotate_left
      · (intro w' hSw; (try dsimp only at hSw); go_simp; (try with_reducible rfl))
      simp only [Act.put, List.setIfInBounds_toArray, List.set_cons_zero, List.set_cons_succ, List.getElem_toArray, List.getElem_cons_zero, List.getElem_cons_succ]
      refine wpAnyG_take1 (i := 37) (v := ?_) rfl (by kernel_rfl) (by kernel_rfl) (by kernel_rfl) (by kernel_rfl) (by kernel_rfl) rfl (fun _ _ _ h => h) (Or.inl ⟨by rfl, ?_⟩) hHeld ?_
      rotate_left
      · (intro w' hSw; (try dsimp only at hSw); go_simp; (try with_reducible rfl))
      simp only [Act.put, List.setIfInBounds_toArray, List.set_cons_zero, List.set_cons_succ, List.getElem_toArray, List.getElem_cons_zero, List.getElem_cons_succ]
      refine wpAnyG_take1 (i := 38) (v := ?_) rfl (by kernel_rfl) (by kernel_rfl) (by kernel_rfl) (by kernel_rfl) (by kernel_rfl) rfl (fun _ _ _ h => h) (Or.inl ⟨by rfl, ?_⟩) hHeld ?_
      rotate_left
      · (intro w' hSw; (try dsimp only at hSw); go_simp; (try with_reducible rfl))
      simp only [Act.put, List.setIfInBounds_toArray, List.set_cons_zero, List.set_cons_succ, List.getElem_toArray, List.getElem_cons_zero, List.getElem_cons_succ]
      refine wpAnyG_take1 (i := 39) (v := ?_) rfl (by kernel_rfl) (by kernel_rfl) (by kernel_rfl) (by kernel_rfl) (by kernel_rfl) rfl (fun _ _ _ h => h) (Or.inl ⟨by rfl, ?_⟩) hHeld ?_
      rotate_left
      · (intro w' hSw; (try dsimp only at hSw); go_simp; (try with_reducible rfl))
      simp only [Act.put, List.setIfInBounds_toArray, List.set_cons_zero, List.set_cons_succ, List.getElem_toArray, List.getElem_cons_zero, List.getElem_cons_succ]
      refine wpAnyG_take1 (i := 40) (v := ?_) rfl (by kernel_rfl) (by kernel_rfl) (by kernel_rfl) (by kernel_rfl) (by kernel_rfl) rfl (fun _ _ _ h => h) (Or.inl ⟨by rfl, ?_⟩) hHeld ?_
      rotate_left
      · (intro w' hSw; (try dsimp only at hSw); go_simp; (try with_reducible rfl))
      simp only [Act.put, List.setIfInBounds_toArray, List.set_cons_zero, List.set_cons_succ, List.getElem_toArray, List.getElem_cons_zero, List.getElem_cons_succ]
      refine wpAnyG_take1 (i := 41) (v := ?_) rfl (by kernel_rfl) (by kernel_rfl) (by kernel_rfl) (by kernel_rfl) (by kernel_rfl) rfl (fun _ _ _ h => h) (Or.inl ⟨by rfl, ?_⟩) hHeld ?_
      rotate_left
      · (intro w' hSw; (try dsimp only at hSw); go_simp; (try with_reducible rfl))
      simp only [Act.put, List.setIfInBounds_toArray, List.set_cons_zero, List.set_cons_succ, List.getElem_toArray, List.getElem_cons_zero, List.getElem_cons_succ]
      refine wpAnyG_take1 (i := 42) (v := ?_) rfl (by kernel_rfl) (by kernel_rfl) (by kernel_rfl) (by kernel_rfl) (by kernel_rfl) rfl (fun _ _ _ h => h) (Or.inl ⟨by rfl, ?_⟩) hHeld ?_
      rotate_left
      · (intro w' hSw; (try dsimp only at hSw); go_simp; (try with_reducible rfl))
      simp only [Act.put, List.setIfInBounds_toArray, List.set_cons_zero, List.set_cons_succ, List.getElem_toArray, List.getElem_cons_zero, List.getElem_cons_succ]
      refine wpAnyG_take1 (i := 43) (v := ?_) rfl (by kernel_rfl) (by kernel_rfl) (by kernel_rfl) (by kernel_rfl) (by kernel_rfl) rfl (fun _ _ _ h => h) (Or.inl ⟨by rfl, ?_⟩) hHeld ?_
      rotate_left
      · (intro w' hSw; (try dsimp only at hSw); go_simp; (try with_reducible rfl))
      simp only [Act.put, List.setIfInBounds_toArray, List.set_cons_zero, List.set_cons_succ, List.getElem_toArray, List.getElem_cons_zero, List.getElem_cons_succ]
      refine wpAnyG_take1 (i := 44) (v := ?_) rfl (by kernel_rfl) (by kernel_rfl) (by kernel_rfl) (by kernel_rfl) (by kernel_rfl) rfl (fun _ _ _ h => h) (Or.inl ⟨by rfl, ?_⟩) hHeld ?_
      rotate_left
      · (intro w' hSw; (try dsimp only at hSw); go_simp; (try with_reducible rfl))
      simp only [Act.put, List.setIfInBounds_toArray, List.set_cons_zero, List.set_cons_succ, List.getElem_toArray, List.getElem_cons_zero, List.getElem_cons_succ]
      refine wpAnyG_take1 (i := 45) (v := ?_) rfl (by kernel_rfl) (by kernel_rfl) (by kernel_rfl) (by kernel_rfl) (by kernel_rfl) rfl (fun _ _ _ h => h) (Or.inl ⟨by rfl, ?_⟩) hHeld ?_
      rotate_left
      · (intro w' hSw; (try dsimp only at hSw); go_simp; (try with_reducible rfl))
      simp only [Act.put, List.setIfInBounds_toArray, List.set_cons_zero, List.set_cons_succ, List.getElem_toArray, List.getElem_cons_zero, List.getElem_cons_succ]
      refine wpAnyG_take1 (i := 46) (v := ?_) rfl (by kernel_rfl) (by kernel_rfl) (by kernel_rfl) (by kernel_rfl) (by kernel_rfl) rfl (fun _ _ _ h => h) (Or.inl ⟨by rfl, ?_⟩) hHeld ?_
      rotate_left
      · (intro w' hSw; (try dsimp only at hSw); go_simp; (try with_reducible rfl))
      simp only [Act.put, List.setIfInBounds_toArray, List.set_cons_zero, List.set_cons_succ, List.getElem_toArray, List.getElem_cons_zero, List.getElem_cons_succ]
      refine wpAnyG_take1 (i := 47) (v := ?_) rfl (by kernel_rfl) (by kernel_rfl) (by kernel_rfl) (by kernel_rfl) (by kernel_rfl) rfl (fun _ _ _ h => h) (Or.inl ⟨by rfl, ?_⟩) hHeld ?_
      rotate_left
      · (intro w' hSw; (try dsimp only at hSw); go_simp; (try with_reducible rfl))
      simp only [Act.put, List.setIfInBounds_toArray, List.set_cons_zero, List.set_cons_succ, List.getElem_toArray, List.getElem_cons_zero, List.getElem_cons_succ]
      refine wpAnyG_take1 (i := 48) (v := ?_) rfl (by kernel_rfl) (by kernel_rfl) (by kernel_rfl) (by kernel_rfl) (by kernel_rfl) rfl (fun _ _ _ h => h) (Or.inl ⟨by rfl, ?_⟩) hHeld ?_
      rotate_left
      · (intro w' hSw; (try dsimp only at hSw); go_simp; (try with_reducible rfl))
      simp only [Act.put, List.setIfInBounds_toArray, List.set_cons_zero, List.set_cons_succ, List.getElem_toArray, List.getElem_cons_zero, List.getElem_cons_succ]
      refine wpAnyG_take1 (i := 49) (v := ?_) rfl (by kernel_rfl) (by kernel_rfl) (by kernel_rfl) (by kernel_rfl) (by kernel_rfl) rfl (fun _ _ _ h => h) (Or.inl ⟨by rfl, ?_⟩) hHeld ?_
      rotate_left
      · (intro w' hSw; (try dsimp only at hSw); go_simp; (try with_reducible rfl))
      simp only [Act.put, List.setIfInBounds_toArray, List.set_cons_zero, List.set_cons_succ, List.getElem_toArray, List.getElem_cons_zero, List.getElem_cons_succ]
      refine wpAnyG_take1 (i := 50) (v := ?_) rfl (by kernel_rfl) (by kernel_rfl) (by kernel_rfl) (by kernel_rfl) (by kernel_rfl) rfl (fun _ _ _ h => h) (Or.inl ⟨by rfl, ?_⟩) hHeld ?_
      rotate_left
      · (intro w' hSw; (try dsimp only at hSw); go_simp; (try with_reducible rfl))
      simp only [Act.put, List.setIfInBounds_toArray, List.set_cons_zero, List.set_cons_succ, List.getElem_toArray, List.getElem_cons_zero, List.getElem_cons_succ]
      refine wpAnyG_take1 (i := 51) (v := ?_) rfl (by kernel_rfl) (by kernel_rfl) (by kernel_rfl) (by kernel_rfl) (by kernel_rfl) rfl (fun _ _ _ h => h) (Or.inl ⟨by rfl, ?_⟩) hHeld ?_
      rotate_left
      · (intro w' hSw; (try dsimp only at hSw); go_simp; (try with_reducible rfl))
      simp only [Act.put, List.setIfInBounds_toArray, List.set_cons_zero, List.set_cons_succ, List.getElem_toArray, List.getElem_cons_zero, List.getElem_cons_succ]
      refine wpAnyG_take1 (i := 52) (v := ?_) rfl (by kernel_rfl) (by kernel_rfl) (by kernel_rfl) (by kernel_rfl) (by kernel_rfl) rfl (fun _ _ _ h => h) (Or.inl ⟨by rfl, ?_⟩) hHeld ?_
      rotate_left
      · (intro w' hSw; (try dsimp only at hSw); go_simp; (try with_reducible rfl))
      simp only [Act.put, List.setIfInBounds_toArray, List.set_cons_zero, List.set_cons_succ, List.getElem_toArray, List.getElem_cons_zero, List.getElem_cons_succ]
      refine wpAnyG_take1 (i := 53) (v := ?_) rfl (by kernel_rfl) (by kernel_rfl) (by kernel_rfl) (by kernel_rfl) (by kernel_rfl) rfl (fun _ _ _ h => h) (Or.inl ⟨by rfl, ?_⟩) hHeld ?_
      rotate_left
      · (intro w' hSw; (try dsimp only at hSw); go_simp; (try with_reducible rfl))
      simp only [Act.put, List.setIfInBounds_toArray, List.set_cons_zero, List.set_cons_succ, List.getElem_toArray, List.getElem_cons_zero, List.getElem_cons_succ]
      refine wpAnyG_take1 (i := 54) (v := ?_) rfl (by kernel_rfl) (by kernel_rfl) (by kernel_rfl) (by kernel_rfl) (by kernel_rfl) rfl (fun _ _ _ h => h) (Or.inl ⟨by rfl, ?_⟩) hHeld ?_
      rotate_left
      · (intro w' hSw; (try dsimp only at hSw); go_simp; (try with_reducible rfl))
      simp only [Act.put, List.setIfInBounds_toArray, List.set_cons_zero, List.set_cons_succ, List.getElem_toArray, List.getElem_cons_zero, List.getElem_cons_succ]
      refine wpAnyG_take1 (i := 55) (v := ?_) rfl (by kernel_rfl) (by kernel_rfl) (by kernel_rfl) (by kernel_rfl) (by kernel_rfl) rfl (fun _ _ _ h => h) (Or.inl ⟨by rfl, ?_⟩) hHeld ?_
      rotate_left
      · (intro w' hSw; (try dsimp only at hSw); go_simp; (try with_reducible rfl))
      simp only [Act.put, List.setIfInBounds_toArray, List.set_cons_zero, List.set_cons_succ, List.getElem_toArray, List.getElem_cons_zero, List.getElem_cons_succ]
      refine wpAnyG_take1 (i := 56) (v := ?_) rfl (by kernel_rfl) (by kernel_rfl) (by kernel_rfl) (by kernel_rfl) (by kernel_rfl) rfl (fun _ _ _ h => h) (Or.inl ⟨by rfl, ?_⟩) hHeld ?_
      rotate_left
      · (intro w' hSw; (try dsimp only at hSw); go_simp; (try with_reducible rfl))
      simp only [Act.put, List.setIfInBounds_toArray, List.set_cons_zero, List.set_cons_succ, List.getElem_toArray, List.getElem_cons_zero, List.getElem_cons_succ]
      refine wpAnyG_take1 (i := 57) (v := ?_) rfl (by kernel_rfl) (by kernel_rfl) (by kernel_rfl) (by kernel_rfl) (by kernel_rfl) rfl (fun _ _ _ h => h) (Or.inl ⟨by rfl, ?_⟩) hHeld ?_
      rotate_left
      · (intro w' hSw; (try dsimp only at hSw); go_simp; (try with_reducible rfl))
      simp only [Act.put, List.setIfInBounds_toArray, List.set_cons_zero, List.set_cons_succ, List.getElem_toArray, List.getElem_cons_zero, List.getElem_cons_succ]
      refine wpAnyG_take1 (i := 58) (v := ?_) rfl (by kernel_rfl) (by kernel_rfl) (by kernel_rfl) (by kernel_rfl) (by kernel_rfl) rfl (fun _ _ _ h => h) (Or.inl ⟨by rfl, ?_⟩) hHeld ?_
      rotate_left
      · (intro w' hSw; (try dsimp only at hSw); go_simp; (try with_reducible rfl))
      simp only [Act.put, List.setIfInBounds_toArray, List.set_cons_zero, List.set_cons_succ, List.getElem_toArray, List.getElem_cons_zero, List.getElem_cons_succ]
      refine wpAnyG_take1 (i := 59) (v := ?_) rfl (by kernel_rfl) (by kernel_rfl) (by kernel_rfl) (by kernel_rfl) (by kernel_rfl) rfl (fun _ _ _ h => h) (Or.inl ⟨by rfl, ?_⟩) hHeld ?_
      rotate_left
      · (intro w' hSw; (try dsimp only at hSw); go_simp; (try with_reducible rfl))
      simp only [Act.put, List.setIfInBounds_toArray, List.set_cons_zero, List.set_cons_succ, List.getElem_toArray, List.getElem_cons_zero, List.getElem_cons_succ]
      refine wpAnyG_take1 (i := 60) (v := ?_) rfl (by kernel_rfl) (by kernel_rfl) (by kernel_rfl) (by kernel_rfl) (by kernel_rfl) rfl (fun _ _ _ h => h) (Or.inl ⟨by rfl, ?_⟩) hHeld ?_
      rotate_left
      · (intro w' hSw; (try dsimp only at hSw); go_simp; (try with_reducible rfl))
      simp only [Act.put, List.setIfInBounds_toArray, List.set_cons_zero, List.set_cons_succ, List.getElem_toArray, List.getElem_cons_zero, List.getElem_cons_succ]
      refine wpAnyG_take1 (i := 61) (v := ?_) rfl (by kernel_rfl) (by kernel_rfl) (by kernel_rfl) (by kernel_rfl) (by kernel_rfl) rfl (fun _ _ _ h => h) (Or.inl ⟨by rfl, ?_⟩) hHeld ?_
      rotate_left
      · (intro w' hSw; (try dsimp only at hSw); go_simp; (try with_reducible rfl))
      simp only [Act.put, List.setIfInBounds_toArray, List.set_cons_zero, List.set_cons_succ, List.getElem_toArray, List.getElem_cons_zero, List.getElem_cons_succ]
      refine wpAnyG_take1 (i := 62) (v := ?_) rfl (by kernel_rfl) (by kernel_rfl) (by kernel_rfl) (by kernel_rfl) (by kernel_rfl) rfl (fun _ _ _ h => h) (Or.inl ⟨by rfl, ?_⟩) hHeld ?_
      rotate_left
      · (intro w' hSw; (try dsimp only at hSw); go_simp; (try with_reducible rfl))
      simp only [Act.put, List.setIfInBounds_toArray, List.set_cons_zero, List.set_cons_succ, List.getElem_toArray, List.getElem_cons_zero, List.getElem_cons_succ]
      refine wpAnyG_take1 (i := 63) (v := ?_) rfl (by kernel_rfl) (by kernel_rfl) (by kernel_rfl) (by kernel_rfl) (by kernel_rfl) rfl (fun _ _ _ h => h) (Or.inl ⟨by rfl, ?_⟩) hHeld ?_
      rotate_left
      · (intro w' hSw; (try dsimp only at hSw); go_simp; (try with_reducible rfl))
      simp only [Act.put, List.setIfInBounds_toArray, List.set_cons_zero, List.set_cons_succ, List.getElem_toArray, List.getElem_cons_zero, List.getElem_cons_succ]
      refine wpAnyG_one (i := 64) (by kernel_rfl) rfl (fun K hK => ?_)
      simp only [List.getElem_toArray, List.getElem_cons_zero, List.getElem_cons_succ] at hK ⊢
      go_simp
      go_at_call 63
      refine (of28_any 120 _).mono ?_
      rintro e wP ⟨gP, rfl, hownP, hbH⟩
      have hcur := hcur.trans (hbH.mono hcur.size)
      have k2 := str_arg (Arg.own hownP)
      rw [← HS1.out] at k2
      refine hK.out _ _ (fun _ => keepX _ hcur) (fun hHeld => ?_)
      have hHeld := hHeld (by decide)
      clear hK K
      try simp only [List.setIfInBounds_toArray, List.set_cons_zero, List.set_cons_succ]
      refine wpAnyG_one (i := 65) (by kernel_rfl) rfl (fun K hK => ?_)
      simp only [List.getElem_toArray, List.getElem_cons_zero, List.getElem_cons_succ] at hK ⊢
      go_simp
      refine hK.out _ _ (fun _ => keepX _ hcur) (fun hHeld => ?_)
      have hHeld := hHeld (by decide)
      clear hK K
      try simp only [List.setIfInBounds_toArray, List.set_cons_zero, List.set_cons_succ]
      refine wpAnyG_take1 (i := 66) (v := ?_) rfl (by kernel_rfl) (by kernel_rfl) (by kernel_rfl) (by kernel_rfl) (by kernel_rfl) rfl (fun _ _ _ h => h) (Or.inl ⟨by rfl, ?_⟩) hHeld ?_
      rotate_left
      · (intro w' hSw; (try dsimp only at hSw); go_simp; (try with_reducible rfl))
      simp only [Act.put, List.setIfInBounds_toArray, List.set_cons_zero, List.set_cons_succ, List.getElem_toArray, List.getElem_cons_zero, List.getElem_cons_succ]
      refine wpAnyG_take1 (i := 67) (v := ?_) rfl (by kernel_rfl) (by kernel_rfl) (by kernel_rfl) (by kernel_rfl) (by kernel_rfl) rfl (fun _ _ _ h => h) (Or.inl ⟨by rfl, ?_⟩) hHeld ?_
      rotate_left
      · (intro w' hSw; (try dsimp only at hSw); go_simp; (try with_reducible rfl))
      simp only [Act.put, List.setIfInBounds_toArray, List.set_cons_zero, List.set_cons_succ, List.getElem_toArray, List.getElem_cons_zero, List.getElem_cons_succ]
      refine wpAnyG_one (i := 68) (by kernel_rfl) rfl (fun K hK => ?_)
      simp only [List.getElem_toArray, List.getElem_cons_zero, List.getElem_cons_succ] at hK ⊢
      go_simp
      refine hK.out _ _ (fun h => absurd rfl h) (fun _ => ?_)
      clear hK K
      refine wpAnyG_done (by kernel_rfl) ?_ _
      have B9 := Lib.hid (B.out.trans (hcur.mono B.out.size))
      go_wp2
      go_ret
      exact ⟨rfl, B9.out⟩

end Go.Proofs.Ytnmlplfcdnakhaa
