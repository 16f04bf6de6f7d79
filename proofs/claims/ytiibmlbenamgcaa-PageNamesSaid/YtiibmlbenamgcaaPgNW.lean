/- Layer 13, PageNames: the walk. -/
import Derived.Test.YtiibmlbenamgcaaPgA
namespace Go.Proofs.Ytiibmlbenamgcaa
open Go.RowKit
set_option linter.unusedVariables false
set_option maxRecDepth 100000

def gT5 : Txt := pgSec 0 0 5
def gT6 : Txt := gT5.set 31 1
def gC5 : List Pnd := [(10, gT5)]
def gC6 : List Pnd := [(10, gT6)]
theorem gT5_len : gT5.length = 32 := by kernel_rfl
theorem gT6_len : gT6.length = 32 := by kernel_rfl
theorem gC5_small : SmallD gS gC5 := few_smallJ (by kernel_rfl)
theorem gC6_small : SmallD gS gC6 := few_smallJ (by kernel_rfl)
theorem g_x1 : pxE 2 9 4 2 2 8 1 1 2 = 2 ∧ pxT 2 9 4 2 2 8 1 1 2 = [] := ⟨by kernel_rfl, by kernel_rfl⟩
theorem g_x2 : pxE 2 9 4 2 2 8 2 0 0 = 2 ∧ pxT 2 9 4 2 2 8 2 0 0 = [] := ⟨by kernel_rfl, by kernel_rfl⟩
theorem g_x3 : pxE 2 9 4 2 2 8 0 2 0 = 2 ∧ pxT 2 9 4 2 2 8 0 2 0 = [] ∧ pxN 2 9 4 2 2 8 0 2 0 = 0 := ⟨by kernel_rfl, by kernel_rfl, by kernel_rfl⟩
theorem g_x4 : pxE 0 0 0 0 0 0 0 0 0 = 8 ∧ pxT 0 0 0 0 0 0 0 0 0 = [] := ⟨by kernel_rfl, by kernel_rfl⟩
theorem g_x9 : pxE 2 9 4 2 2 8 0 0 5 = 0 ∧ pxT 2 9 4 2 2 8 0 0 5 = gT5 ∧ pxN 2 9 4 2 2 8 0 0 5 = 10 := ⟨by kernel_rfl, by kernel_rfl, by kernel_rfl⟩
theorem g_r5 : mkE 2 9 4 2 2 8 [] [] 0 = 8 ∧ mkB 2 9 4 2 2 8 [] [] 0 = [] := ⟨by kernel_rfl, by kernel_rfl⟩
theorem g_r8 : mkE 2 9 4 2 2 8 gS [] 2 = 2 ∧ mkB 2 9 4 2 2 8 gS [] 2 = [] := ⟨by kernel_rfl, by kernel_rfl⟩
theorem g_r11 : mkE 2 9 4 2 2 8 gS gC5 0 = 0 ∧ mkB 2 9 4 2 2 8 gS gC5 0 = [5, 0] := ⟨by kernel_rfl, by kernel_rfl⟩
theorem g_r17 : mkE 2 9 4 2 2 8 gS gC6 0 = 0 ∧ mkB 2 9 4 2 2 8 gS gC6 0 = [255, 0] := ⟨by kernel_rfl, by kernel_rfl⟩
theorem g_w10 : wrE gS [] 10 gT5 = 0 ∧ wrS gS [] 10 gT5 = gS ∧ wrC gS [] 10 gT5 = gC5 := ⟨by kernel_rfl, by kernel_rfl, by kernel_rfl⟩
theorem g_w16 : wrE gS [] 10 gT6 = 0 ∧ wrS gS [] 10 gT6 = gS ∧ wrC gS [] 10 gT6 = gC6 := ⟨by kernel_rfl, by kernel_rfl, by kernel_rfl⟩
theorem pgSec_byte {p n b : Int} (hp : isByte p) (hn : isByte n) (hb : isByte b) : ∀ z ∈ pgSec p n b, isByte z := by
  intro z hz
  unfold pgSec at hz
  rcases List.mem_append.1 hz with hz | hz
  · simp only [List.mem_cons, List.not_mem_nil, or_false] at hz
    rcases hz with rfl | rfl | rfl | rfl
    · exact ⟨by decide, by decide⟩
    · exact hp
    · exact hn
    · exact hb
  · rw [List.eq_of_mem_replicate hz]
    exact ⟨by decide, by decide⟩
theorem gT5_byte : ∀ z ∈ gT5, isByte z := pgSec_byte ⟨by decide, by decide⟩ ⟨by decide, by decide⟩ ⟨by decide, by decide⟩
theorem gT6_byte : ∀ z ∈ gT6, isByte z := fun z hz => by
  rcases List.mem_or_eq_of_mem_set hz with h | rfl
  · exact gT5_byte z h
  · exact ⟨by decide, by decide⟩
theorem g_str50 : (strOfNums [5, 0]).toList = ([5, 0] : List UInt8) := by kernel_rfl
theorem g_str255 : (strOfNums [255, 0]).toList = ([255, 0] : List UInt8) := by kernel_rfl
theorem Dsk.nil13 (w : World) : Dsk w none 0 0 none 0 0 [] [] := ⟨Secs.nil w, Pnds.nil w⟩
/-- A row of the call's own stays where a byte of a newer row is written. -/
theorem owns_off13 {w : World} {base B g i : Nat} {t : TypeId} {A : Option Addr} {n c : Nat} {xs : List Value} (h : w.ownsRow base t 1 (.slice A n c) n xs) (hB : ∀ k, (Value.slice A n c).ownBlock = some k → k < B) (hg : B ≤ g) (u : Value) : (w.setCell ⟨g, i, none⟩ u).ownsRow base t 1 (.slice A n c) n xs := by
  refine h.kept (grownBy_set w g i u) ?_
  rcases ho : (Value.slice A n c).ownBlock with _ | k
  · exact .inl rfl
  · refine .inr fun e => ?_
    injection e with e
    have := hB k ho
    omega

set_option maxHeartbeats 12800000 in
theorem pnames_of (w : World) : Calls Try.prog 3 #[] w fun e w' => e = .returned (.bool true) ∧ Below w.heap.size w w' := by
  have B := Lib.hid (Below.refl w.heap.size w)
  have T1 := Lib.hid (fun wx : World => g_text (p := 1) (n := 1) (b := 2) (m := 0) ⟨by decide, by decide⟩ g_x1.1 g_x1.2 rfl wx)
  have T2 := Lib.hid (fun wx : World => g_text (p := 2) (n := 0) (b := 0) (m := 0) ⟨by decide, by decide⟩ g_x2.1 g_x2.2 rfl wx)
  have P3 := Lib.hid (fun wx : World => g_plan (p := 0) (n := 2) (b := 0) (m := 0) ⟨by decide, by decide⟩ g_x3.1 g_x3.2.1 g_x3.2.2 rfl wx)
  have T4 := Lib.hid (fun wx : World => (show Calls Try.prog 7 #[cfgV 0 0 0 0 0 0, .int .i64 0, .int .i64 0, .int .u8 0] wx (fun e w' => ∃ A c, e = .returned (.tuple #[.slice A 0 c, .int .i64 8]) ∧ w'.ownsRow wx.heap.size 5 1 (.slice A 0 c) 0 (ints .u8 []) ∧ Below wx.heap.size wx w') from by
    have r := pgtext_any 0 0 0 0 0 0 0 0 0 wx ⟨by decide, by decide⟩
    unfold RowOut at r
    rw [g_x4.1, g_x4.2] at r
    exact r))
  have R5 := Lib.hid (fun wx : World => (show Calls Try.prog 10 #[cfgV 2 9 4 2 2 8, diskV none 0 0 none 0 0, .int .i64 0] wx (fun e w' => ∃ A c, e = .returned (.tuple #[.slice A 0 c, .int .i64 8]) ∧ w'.ownsRow wx.heap.size 5 1 (.slice A 0 c) 0 (ints .u8 []) ∧ Below wx.heap.size wx w') from by
    have r := pgread_any 2 9 4 2 2 8 0 none 0 0 none 0 0 [] [] wx (Dsk.nil13 wx) SmallD.nil
    unfold RowOut at r
    rw [g_r5.1, g_r5.2] at r
    exact r))
  have SE := Lib.hid (fun wx : World => psectors_any 2 9 4 2 2 8 wx)
  rw [gS_sec.1, gS_sec.2] at SE
  have NW := Lib.hid (fun wx : World => (dsk_does.new 86 wx (.inl (by decide))).mono fun e w' hout => DiskOut.as hout (S' := gS) (C' := []) (E' := 0) (n := 86) (n' := 0) gS_new.1 rfl gS_new.2 gS_len rfl)
  have R8 := Lib.hid (fun A1 c1 A1' c1' wx hx => g_read (n' := 0) (m := 0) gS_small g_r8.1 g_r8.2 rfl A1 c1 A1' c1' wx hx)
  have P9 := Lib.hid (fun wx : World => g_plan (p := 0) (n := 0) (b := 5) (m := 32) ⟨by decide, by decide⟩ g_x9.1 g_x9.2.1 g_x9.2.2 gT5_len wx)
  have W10 := Lib.hid (fun A1 c1 A1' c1' Ab cb wx (hx : Dsk wx A1 86 c1 A1' 0 c1' gS []) (hr : Arg wx .u8 Ab 32 cb gT5) => (dsk_does.write A1 86 c1 A1' 0 c1' gS [] 10 Ab 32 cb gT5 wx hx gS_small hr gT5_byte (by decide)).mono fun e w' hout => DiskOut.as hout (S' := gS) (C' := gC5) (E' := 0) (n := 86) (n' := 1) g_w10.2.1 g_w10.2.2 g_w10.1 gS_len rfl)
  have R11 := Lib.hid (fun A1 c1 A1' c1' wx hx => g_read (n' := 1) (m := 2) gC5_small g_r11.1 g_r11.2 rfl A1 c1 A1' c1' wx hx)
  have W16 := Lib.hid (fun A1 c1 A1' c1' Ab cb wx (hx : Dsk wx A1 86 c1 A1' 0 c1' gS []) (hr : Arg wx .u8 Ab 32 cb gT6) => (dsk_does.write A1 86 c1 A1' 0 c1' gS [] 10 Ab 32 cb gT6 wx hx gS_small hr gT6_byte (by decide)).mono fun e w' hout => DiskOut.as hout (S' := gS) (C' := gC6) (E' := 0) (n := 86) (n' := 1) g_w16.2.1 g_w16.2.2 g_w16.1 gS_len rfl)
  have R17 := Lib.hid (fun A1 c1 A1' c1' wx hx => g_read (n' := 1) (m := 2) gC6_small g_r17.1 g_r17.2 rfl A1 c1 A1' c1' wx hx)
  obtain ⟨ib, hib, hbz, hb1, hb2⟩ := info_parts byte_info
  have hml : (1000 : Nat) ≤ maxLen := by decide
  go_enter Try.func3, Try.ntmps3
  go_wp2_with fail
  refine (two13_any _).mono ?_
  rintro e v1 ⟨rfl, hb⟩
  have B := Lib.hid (B.out.trans (hb.mono B.out.size))
  clear hb
  go_wp2_with fail
  refine (T1.out _).mono ?_
  rintro e v2 ⟨A1, r1, rfl, hown, hb⟩
  have B := Lib.hid (B.out.trans (hb.mono B.out.size))
  clear hb hown
  go_wp2_with fail
  refine (two13_any _).mono ?_
  rintro e v3 ⟨rfl, hb⟩
  have B := Lib.hid (B.out.trans (hb.mono B.out.size))
  clear hb
  go_wp2_with fail
  refine (T2.out _).mono ?_
  rintro e v4 ⟨A2, r2, rfl, hown, hb⟩
  have B := Lib.hid (B.out.trans (hb.mono B.out.size))
  clear hb hown
  go_wp2_with fail
  refine (two13_any _).mono ?_
  rintro e v5 ⟨rfl, hb⟩
  have B := Lib.hid (B.out.trans (hb.mono B.out.size))
  clear hb
  go_wp2_with fail
  refine (P3.out _).mono ?_
  rintro e v6 ⟨A3, r3, rfl, hown, hb⟩
  have hY := Blk.new v6 30 [.int .i64 0, .slice A3 0 r3]
  have hbk : Below v6.heap.size v6 (v6.alloc (.cells #[.int .i64 0, .slice A3 0 r3] 30)) := (Below.refl _ _).alloc (Nat.le_refl _) _
  have hb := hb.trans (hbk.mono hb.size)
  have B := Lib.hid (B.out.trans (hb.mono B.out.size))
  clear hb hbk hown
  go_upto_region 4 with fail
  obtain ⟨G6, hG⟩ : ∃ x, x = v6.heap.size := ⟨_, rfl⟩
  rw [← hG] at hY ⊢
  obtain ⟨v7, hW⟩ : ∃ x : World, x = v6.alloc (.cells #[.int .i64 0, .slice A3 0 r3] 30) := ⟨_, rfl⟩
  rw [← hW] at hY B ⊢
  clear hW hG
  have Y5 := Lib.hid hY
  clear hY
  clear Y5
  go_wp2_with fail
  refine (T4.out _).mono ?_
  rintro e v8 ⟨A4, r4, rfl, hown, hb⟩
  have B := Lib.hid (B.out.trans (hb.mono B.out.size))
  clear hb hown
  go_wp2_with fail
  refine (two13_any _).mono ?_
  rintro e v9 ⟨rfl, hb⟩
  have B := Lib.hid (B.out.trans (hb.mono B.out.size))
  clear hb
  go_wp2_with fail
  refine (R5.out _).mono ?_
  rintro e v10 ⟨A5, r5, rfl, hown, hb⟩
  have B := Lib.hid (B.out.trans (hb.mono B.out.size))
  clear hb hown
  go_wp2_with fail
  refine (two13_any _).mono ?_
  rintro e v11 ⟨rfl, hb⟩
  have B := Lib.hid (B.out.trans (hb.mono B.out.size))
  clear hb
  go_wp2_with fail
  refine (SE.out _).mono ?_
  rintro e v12 ⟨rfl, hb⟩
  have B := Lib.hid (B.out.trans (hb.mono B.out.size))
  clear hb
  go_wp2_with fail
  refine (NW.out _).mono ?_
  rintro e v13 ⟨A13, r13, A13', r13', rfl, hown, hb⟩
  have hY := DBox.new (Dsk.of_own hown)
  have hbk : Below v13.heap.size v13 (v13.alloc (.cells #[.slice A13 86 r13, .slice A13' 0 r13'] 37)) := (Below.refl _ _).alloc (Nat.le_refl _) _
  have hb := hb.trans (hbk.mono hb.size)
  have B := Lib.hid (B.out.trans (hb.mono B.out.size))
  clear hb hbk hown
  go_upto_region 8 with fail
  obtain ⟨G13, hG⟩ : ∃ x, x = v13.heap.size := ⟨_, rfl⟩
  rw [← hG] at hY ⊢
  obtain ⟨v14, hW⟩ : ∃ x : World, x = v13.alloc (.cells #[.slice A13 86 r13, .slice A13' 0 r13'] 37) := ⟨_, rfl⟩
  rw [← hW] at hY B ⊢
  clear hW hG
  have D13 := Lib.hid hY
  clear hY
  have hcur : Below v14.heap.size v14 v14.drew := below_drewN (Below.refl _ _) 1
  have keepX : ∀ wx, Below v14.heap.size v14 wx → wx.cell? ⟨G13, 0, none⟩ = some (.slice A13 86 r13) ∧ wx.cell? ⟨G13, 1, none⟩ = some (.slice A13' 0 r13') := fun wx hx => (D13.out.below hx).cells
  have hkX := keepX _ hcur
  go_region_held3 (fun w' => w'.cell? ⟨G13, 0, none⟩ = some (.slice A13 86 r13) ∧ w'.cell? ⟨G13, 1, none⟩ = some (.slice A13' 0 r13'))
    (first | exact hkX | go_keep)
    (first
      | (go_at_call 8; (with_reducible refine (two13_any _).mono ?_); rintro e wT ⟨rfl, hbT⟩; have hcur := hcur.trans (hbT.mono hcur.size); have hkX := keepX _ hcur)
      | (go_at_call 10; (with_reducible refine (R8.out _ _ _ _ _ (D13.out.below hcur).dsk).mono ?_); rintro e v15 ⟨A15, r15, rfl, hown, hbR⟩; have hcur := hcur.trans (hbR.mono hcur.size); have hkX := keepX _ hcur))
  have B := Lib.hid (B.out.trans (hcur.mono B.out.size))
  have D13 := Lib.hid (D13.out.below hcur)
  have V15 := Lib.hid (Arg.own hown)
  clear hcur keepX hkX hown hbR
  clear V15
  have D13a := D13
  have BA0 := B
  have BA := Lib.hid (Below.refl v15.heap.size v15)
  clear D13
  go_wp2_with fail
  refine (two13_any _).mono ?_
  rintro e v16 ⟨rfl, hb⟩
  have B := Lib.hid (B.out.trans (hb.mono B.out.size))
  have BA := Lib.hid (BA.out.trans (hb.mono BA.out.size))
  clear hb
  go_wp2_with fail
  refine (P9.out _).mono ?_
  rintro e v17 ⟨A17, r17, rfl, hown, hb⟩
  have hGE := Nat.le_trans BA.out.size hb.size
  have hY := Blk.new v17 30 [.int .i64 10, .slice A17 32 r17]
  have hbk : Below v17.heap.size v17 (v17.alloc (.cells #[.int .i64 10, .slice A17 32 r17] 30)) := (Below.refl _ _).alloc (Nat.le_refl _) _
  have hb := hb.trans (hbk.mono hb.size)
  have B := Lib.hid (B.out.trans (hb.mono B.out.size))
  have BA := Lib.hid (BA.out.trans (hb.mono BA.out.size))
  have V17 := Lib.hid ((Arg.own hown).below hbk)
  clear hb hbk hown
  go_upto_region 10 with fail
  obtain ⟨G17, hG⟩ : ∃ x, x = v17.heap.size := ⟨_, rfl⟩
  rw [← hG] at hY hGE ⊢
  obtain ⟨v18, hW⟩ : ∃ x : World, x = v17.alloc (.cells #[.int .i64 10, .slice A17 32 r17] 30) := ⟨_, rfl⟩
  rw [← hW] at hY B BA V17 ⊢
  clear hW hG
  have Y17 := Lib.hid hY
  clear hY
  have GE := Lib.hid hGE
  clear hGE
  obtain ⟨c0, c1⟩ := (D13a.out.below BA.out).cells
  have y0 := Y17.out.cell 0
  have y1 := Y17.out.cell 1
  simp only [List.getElem?_cons_zero, List.getElem?_cons_succ] at y0 y1
  go_wp2_with fail
  refine (W10.out _ _ _ _ _ _ _ (D13a.out.below BA.out).dsk V17.out).mono ?_
  rintro e v19 ⟨A19, r19, A19', r19', rfl, hown, hb⟩
  have hY := DBox.new (Dsk.of_own hown)
  have hbk : Below v19.heap.size v19 (v19.alloc (.cells #[.slice A19 86 r19, .slice A19' 1 r19'] 37)) := (Below.refl _ _).alloc (Nat.le_refl _) _
  have hb := hb.trans (hbk.mono hb.size)
  have B := Lib.hid (B.out.trans (hb.mono B.out.size))
  have BA := Lib.hid (BA.out.trans (hb.mono BA.out.size))
  have V17 := Lib.hid (V17.out.below hb)
  have Y17 := Lib.hid (Y17.out.below hb Y17.out.lt)
  clear hb hbk hown c0 c1 y0 y1
  go_upto_region 11 with fail
  obtain ⟨G19, hG⟩ : ∃ x, x = v19.heap.size := ⟨_, rfl⟩
  rw [← hG] at hY ⊢
  obtain ⟨v20, hW⟩ : ∃ x : World, x = v19.alloc (.cells #[.slice A19 86 r19, .slice A19' 1 r19'] 37) := ⟨_, rfl⟩
  rw [← hW] at hY B BA V17 Y17 ⊢
  clear hW hG
  have D19 := Lib.hid hY
  clear hY
  have hcur : Below v20.heap.size v20 v20.drew := below_drewN (Below.refl _ _) 1
  have keepX : ∀ wx, Below v20.heap.size v20 wx → wx.cell? ⟨G19, 0, none⟩ = some (.slice A19 86 r19) ∧ wx.cell? ⟨G19, 1, none⟩ = some (.slice A19' 1 r19') := fun wx hx => (D19.out.below hx).cells
  have hkX := keepX _ hcur
  go_region_held3 (fun w' => w'.cell? ⟨G19, 0, none⟩ = some (.slice A19 86 r19) ∧ w'.cell? ⟨G19, 1, none⟩ = some (.slice A19' 1 r19'))
    (first | exact hkX | go_keep)
    (first
      | (go_at_call 8; (with_reducible refine (two13_any _).mono ?_); rintro e wT ⟨rfl, hbT⟩; have hcur := hcur.trans (hbT.mono hcur.size); have hkX := keepX _ hcur)
      | (go_at_call 10; (with_reducible refine (R11.out _ _ _ _ _ (D19.out.below hcur).dsk).mono ?_); rintro e v21 ⟨A21, r21, rfl, hown, hbR⟩; have hcur := hcur.trans (hbR.mono hcur.size); have hkX := keepX _ hcur))
  have B := Lib.hid (B.out.trans (hcur.mono B.out.size))
  have BA := Lib.hid (BA.out.trans (hcur.mono BA.out.size))
  have V17 := Lib.hid (V17.out.below hcur)
  have Y17 := Lib.hid (Y17.out.below hcur Y17.out.lt)
  have D19 := Lib.hid (D19.out.below hcur)
  have V21 := Lib.hid (hown)
  clear hcur keepX hkX hown hbR
  clear D19
  have BA1 := BA
  have Y17w := Y17
  have HL21 := Lib.hid (show ∀ k, (Value.slice A21 2 r21).ownBlock = some k → k < v21.heap.size from fun k hk => (V21.out.lt k hk).2)
  have hal : Below v21.heap.size v21 (v21.alloc (.cells #[] 5)) := (Below.refl _ _).alloc (Nat.le_refl _) _
  have y1 := (Y17.out.below hal Y17.out.lt).cell 1
  simp only [List.getElem?_cons_zero, List.getElem?_cons_succ] at y1
  clear hal
  go_upto_region 13 with (at_builtin; (refine wpList_dup v21 rfl (.tmp 89) (.tmp 91) _ rfl 5 ib _ 1 Try.underlying22 hib hbz hb1 hb2 rfl rfl A17 32 r17 (ints .u8 gT5) rfl (by rw [ints_length]; exact gT5_len) V17.out.seq (ints_one _ _) (by omega) (by omega) ?_); intro AM cM u5 hownM hbM; have OM := Lib.hid hownM; have BM := Lib.hid hbM; have x1 := (Y17.out.below hbM Y17.out.lt).cell 1; have f1 := (Y17.out.below hbM Y17.out.lt).free 1; simp only [List.getElem?_cons_zero, List.getElem?_cons_succ] at x1; clear hownM hbM)
  clear x1 f1 y1
  clear V17
  have B := Lib.hid (B.out.trans (BM.out.mono B.out.size))
  have BA := Lib.hid (BA.out.trans (BM.out.mono BA.out.size))
  have Y17 := Lib.hid (Y17.out.below BM.out Y17.out.lt)
  have V21 := Lib.hid (owns_below V21.out BM.out)
  have OM := Lib.hid (owns_other_box OM.out Y17.out (by decide) 1 (.slice AM 32 cM))
  have V21 := Lib.hid (owns_other_box V21.out Y17.out (by decide) 1 (.slice AM 32 cM))
  have BA := Lib.hid (BA.out.setCell (p := ⟨G17, 1, none⟩) GE.out (.slice AM 32 cM))
  have B := Lib.hid (B.out.setCell (p := ⟨G17, 1, none⟩) (Nat.le_trans BA0.out.size GE.out) (.slice AM 32 cM))
  have Y17 := Lib.hid (Y17.out.set 1 (.slice AM 32 cM))
  obtain ⟨u6, hu6⟩ : ∃ x : World, x = u5.setCell ⟨G17, 1, none⟩ (.slice AM 32 cM) := ⟨_, rfl⟩
  rw [← hu6] at OM V21 BA B Y17 ⊢
  have HBM := Lib.hid (show v21.heap.size ≤ u5.heap.size from BM.out.size)
  clear hu6 BM
  have y1 := Y17.out.cell 1
  simp only [List.set_cons_zero, List.set_cons_succ, List.getElem?_cons_zero, List.getElem?_cons_succ] at y1
  obtain ⟨gM, rfl, hgM, hcM, hfM, hsetM⟩ := owns_int_at OM.out (show 31 < 32 by decide)
  have OM6 := Lib.hid (hsetM 1)
  have HGM := Lib.hid hgM
  clear hsetM hgM
  go_upto_region 16 with fail
  clear y1 hcM hfM
  have V21 := Lib.hid (owns_off13 V21.out HL21.out HGM.out (i := 31) (.int .u8 1))
  have hge := Nat.le_trans BA1.out.size HGM.out
  have BA := Lib.hid (BA.out.setCell (p := ⟨gM, 31, none⟩) hge (.int .u8 1))
  have B := Lib.hid (B.out.setCell (p := ⟨gM, 31, none⟩) (Nat.le_trans BA0.out.size hge) (.int .u8 1))
  have Y17 := Lib.hid (Y17.out.away (g' := gM) (fun e => by have := Y17w.out.lt; have := HGM.out; omega) 31 (.int .u8 1))
  obtain ⟨u7, hu7⟩ : ∃ x : World, x = u6.setCell ⟨gM, 31, none⟩ (.int .u8 1) := ⟨_, rfl⟩
  rw [← hu7] at OM6 V21 BA B Y17 ⊢
  clear hu7 hge
  have MA := Lib.hid (Arg.own OM6.out)
  obtain ⟨c0, c1⟩ := (D13a.out.below BA.out).cells
  have y0 := Y17.out.cell 0
  have y1 := Y17.out.cell 1
  simp only [List.set_cons_zero, List.set_cons_succ, List.getElem?_cons_zero, List.getElem?_cons_succ] at y0 y1
  go_wp2_with fail
  refine (W16.out _ _ _ _ _ _ _ (D13a.out.below BA.out).dsk MA.out).mono ?_
  rintro e v22 ⟨A23, r23, A23', r23', rfl, hown, hb⟩
  have hY := DBox.new (Dsk.of_own hown)
  have hbk : Below v22.heap.size v22 (v22.alloc (.cells #[.slice A23 86 r23, .slice A23' 1 r23'] 37)) := (Below.refl _ _).alloc (Nat.le_refl _) _
  have hb := hb.trans (hbk.mono hb.size)
  have B := Lib.hid (B.out.trans (hb.mono B.out.size))
  have BA := Lib.hid (BA.out.trans (hb.mono BA.out.size))
  have V21 := Lib.hid (owns_below V21.out hb)
  clear hb hbk hown c0 c1 y0 y1
  go_upto_region 17 with fail
  obtain ⟨G22, hG⟩ : ∃ x, x = v22.heap.size := ⟨_, rfl⟩
  rw [← hG] at hY ⊢
  obtain ⟨v23, hW⟩ : ∃ x : World, x = v22.alloc (.cells #[.slice A23 86 r23, .slice A23' 1 r23'] 37) := ⟨_, rfl⟩
  rw [← hW] at hY B BA V21 ⊢
  clear hW hG
  have D23 := Lib.hid hY
  clear hY
  have hcur : Below v23.heap.size v23 v23.drew := below_drewN (Below.refl _ _) 1
  have keepX : ∀ wx, Below v23.heap.size v23 wx → wx.cell? ⟨G22, 0, none⟩ = some (.slice A23 86 r23) ∧ wx.cell? ⟨G22, 1, none⟩ = some (.slice A23' 1 r23') := fun wx hx => (D23.out.below hx).cells
  have hkX := keepX _ hcur
  go_region_held3 (fun w' => w'.cell? ⟨G22, 0, none⟩ = some (.slice A23 86 r23) ∧ w'.cell? ⟨G22, 1, none⟩ = some (.slice A23' 1 r23'))
    (first | exact hkX | go_keep)
    (first
      | (go_at_call 8; (with_reducible refine (two13_any _).mono ?_); rintro e wT ⟨rfl, hbT⟩; have hcur := hcur.trans (hbT.mono hcur.size); have hkX := keepX _ hcur)
      | (go_at_call 10; (with_reducible refine (R17.out _ _ _ _ _ (D23.out.below hcur).dsk).mono ?_); rintro e v24 ⟨A25, r25, rfl, hown, hbR⟩; have hcur := hcur.trans (hbR.mono hcur.size); have hkX := keepX _ hcur))
  have B := Lib.hid (B.out.trans (hcur.mono B.out.size))
  have BA := Lib.hid (BA.out.trans (hcur.mono BA.out.size))
  have V21 := Lib.hid (owns_below V21.out hcur)
  have D23 := Lib.hid (D23.out.below hcur)
  have V25 := Lib.hid (Arg.own hown)
  clear hcur keepX hkX hown hbR
  go_wp2_with fail
  refine (alive_page _).mono ?_
  rintro e v25 ⟨rfl, hb⟩
  have B := Lib.hid (B.out.trans (hb.mono B.out.size))
  have V21 := Lib.hid (owns_below V21.out hb)
  have V25 := Lib.hid (V25.out.below hb)
  clear hb
  have q21 := str_arg (Arg.own V21.out)
  have q25 := str_arg V25.out
  have s21 := g_str50
  have s25 := g_str255
  clear D13a BA Y17 D23 MA OM6 OM
  go_wp2
  go_ret
  exact ⟨rfl, B.out⟩

end Go.Proofs.Ytiibmlbenamgcaa
