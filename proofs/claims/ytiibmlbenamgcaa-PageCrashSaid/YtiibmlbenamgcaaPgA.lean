/- Layer 13, the law's own: chapter 7's config, the chapter's examples. -/
import Derived.Test.YtiibmlbenamgcaaPgP5
import Derived.Test.YtiibmlbenamgcaaCellAp0
import Derived.Test.YtiibmlbenamgcaaCellWr
import Derived.KernelRfl
import Derived.Deep.RegionHeld3
namespace Go.Proofs.Ytiibmlbenamgcaa
open Go.RowKit
set_option linter.unusedVariables false
set_option maxRecDepth 100000

theorem two13_any (w : World) : Calls Try.prog 8 #[] w fun e w' => e = .returned (cfgV 2 9 4 2 2 8) ∧ Below w.heap.size w w' := by
  have y := Blk.new w 27 [.int .i64 2, .int .i64 9, .int .i64 4, .int .i64 2, .int .i64 2, .int .i64 8]
  obtain ⟨z0, z1, z2, z3, z4, z5⟩ := y.cfg
  have hb : Below w.heap.size w (w.alloc (.cells #[.int .i64 2, .int .i64 9, .int .i64 4, .int .i64 2, .int .i64 2, .int .i64 8] 27)) := (Below.refl _ _).alloc (Nat.le_refl _) _
  have HB := Lib.hid hb
  clear y hb
  go_enter Try.func8, Try.ntmps8
  go_wp2
  refine bodyPost_ret (v := cfgV 2 9 4 2 2 8) ?_ rfl ⟨rfl, HB.out⟩
  simp [results, Try.f8, go_sem, z0, z1, z2, z3, z4, z5]

/-- The chapter's disk of noughts; the write of page 1 of pair 1, track 8; behind a crash that lays it Bad. -/
def gS : List Sec := List.replicate 86 (false, noughts)
def gT : Txt := pgSec 1 1 1
def gC : List Pnd := [(13, gT)]
def gB : List Sec := crS gS gC [2]
theorem gS_len : gS.length = 86 := by kernel_rfl
theorem gS_new : newS 86 = gS ∧ newE 86 = 0 := ⟨by kernel_rfl, by kernel_rfl⟩
theorem gS_sec : secN 2 9 4 2 2 8 = 86 ∧ chkC 2 9 4 2 2 8 = 0 := ⟨by decide +kernel, by decide +kernel⟩
theorem gS_small : SmallD gS [] := few_smallJ (by kernel_rfl)
theorem gC_small : SmallD gS gC := few_smallJ (by kernel_rfl)
theorem gB_small : SmallD gB [] := few_smallJ (by kernel_rfl)
theorem gB_len : gB.length = 86 := by kernel_rfl
theorem gT_len : gT.length = 32 := by kernel_rfl
theorem g_x : pxE 2 9 4 2 2 8 1 1 1 = 0 ∧ pxT 2 9 4 2 2 8 1 1 1 = gT ∧ pxN 2 9 4 2 2 8 1 1 1 = 13 := ⟨by kernel_rfl, by kernel_rfl, by kernel_rfl⟩
theorem g_r : mkE 2 9 4 2 2 8 gS [] 1 = 0 ∧ mkB 2 9 4 2 2 8 gS [] 1 = [0, 0] := ⟨by kernel_rfl, by kernel_rfl⟩
theorem g_b : mkE 2 9 4 2 2 8 gB [] 1 = 0 ∧ mkB 2 9 4 2 2 8 gB [] 1 = [0, 1] := ⟨by kernel_rfl, by kernel_rfl⟩
theorem g_w : wrE gS [] 13 gT = 0 ∧ wrS gS [] 13 gT = gS ∧ wrC gS [] 13 gT = gC := ⟨by kernel_rfl, by kernel_rfl, by kernel_rfl⟩
theorem g_c : chkD gS gC = 0 := by kernel_rfl
theorem gT_byte : ∀ z ∈ gT, isByte z := by
  intro z hz
  unfold gT pgSec at hz
  rcases List.mem_append.1 hz with hz | hz
  · simp only [List.mem_cons, List.not_mem_nil, or_false] at hz
    rcases hz with rfl | rfl | rfl | rfl <;> exact ⟨by decide, by decide⟩
  · rw [List.eq_of_mem_replicate hz]
    exact ⟨by decide, by decide⟩
theorem g_str5 : (strOfNums [1, 1, 1, 1, 0]).toList = ([1, 1, 1, 1, 0] : List UInt8) := by kernel_rfl
theorem g_str00 : (strOfNums [0, 0]).toList = ([0, 0] : List UInt8) := by kernel_rfl
theorem g_str01 : (strOfNums [0, 1]).toList = ([0, 1] : List UInt8) := by kernel_rfl

theorem arg_bit13 {w : World} {k : IntKind} {g o n c lo hi : Nat} {zs : List Int} (h : Arg w k (some ⟨g, o, none⟩) n c zs) (h1 : lo ≤ hi) (h2 : hi ≤ n) : Arg w k (some ⟨g, o + lo, none⟩) (hi - lo) (c - lo) ((zs.drop lo).take (hi - lo)) := by
  refine ⟨?_, by rw [List.length_take, List.length_drop, h.len]; omega, by have := h.cap; omega, by have := h.max; omega⟩
  have hs : ints k ((zs.drop lo).take (hi - lo)) = ((ints k zs).drop lo).take (hi - lo) := by simp [ints, List.map_take, List.map_drop]
  rw [hs]
  exact (h.seq.drop lo).take _
/-- Read of a disk of 86 sectors, by what it tells. -/
theorem g_read {S : List Sec} {C : List Pnd} {p E : Int} {L : Txt} {n' m : Nat} (hs : SmallD S C) (hE : mkE 2 9 4 2 2 8 S C p = E) (hB : mkB 2 9 4 2 2 8 S C p = L) (hl : L.length = m) (A1 : Option Addr) (c1 : Nat) (A1' : Option Addr) (c1' : Nat) (wx : World) (hx : Dsk wx A1 86 c1 A1' n' c1' S C) :
    Calls Try.prog 10 #[cfgV 2 9 4 2 2 8, diskV A1 86 c1 A1' n' c1', .int .i64 p] wx fun e w' => ∃ A c, e = .returned (.tuple #[.slice A m c, .int .i64 E]) ∧ w'.ownsRow wx.heap.size 5 1 (.slice A m c) m (ints .u8 L) ∧ Below wx.heap.size wx w' := by
  have r := pgread_any 2 9 4 2 2 8 p A1 86 c1 A1' n' c1' S C wx hx hs
  unfold RowOut at r
  rw [hE, hB] at r
  subst hl
  exact r
/-- Text, Plan of the chapter's config, by what they tell. -/
theorem g_text {p n b E : Int} {L : Txt} {m : Nat} (hb : isByte b) (hE : pxE 2 9 4 2 2 8 p n b = E) (hB : pxT 2 9 4 2 2 8 p n b = L) (hl : L.length = m) (wx : World) :
    Calls Try.prog 7 #[cfgV 2 9 4 2 2 8, .int .i64 p, .int .i64 n, .int .u8 b] wx fun e w' => ∃ A c, e = .returned (.tuple #[.slice A m c, .int .i64 E]) ∧ w'.ownsRow wx.heap.size 5 1 (.slice A m c) m (ints .u8 L) ∧ Below wx.heap.size wx w' := by
  have r := pgtext_any 2 9 4 2 2 8 p n b wx hb
  unfold RowOut at r
  rw [hE, hB] at r
  subst hl
  exact r
theorem g_plan {p n b E N : Int} {L : Txt} {m : Nat} (hb : isByte b) (hE : pxE 2 9 4 2 2 8 p n b = E) (hB : pxT 2 9 4 2 2 8 p n b = L) (hN : pxN 2 9 4 2 2 8 p n b = N) (hl : L.length = m) (wx : World) :
    Calls Try.prog 9 #[cfgV 2 9 4 2 2 8, .int .i64 p, .int .i64 n, .int .u8 b] wx fun e w' => ∃ A c, e = .returned (.tuple #[.agg #[.int .i64 N, .slice A m c], .int .i64 E]) ∧ w'.ownsRow wx.heap.size 5 1 (.slice A m c) m (ints .u8 L) ∧ Below wx.heap.size wx w' := by
  have r := pgplan_any 2 9 4 2 2 8 p n b wx hb
  unfold PgnOut at r
  rw [hE, hB, hN] at r
  subst hl
  exact r

set_option maxHeartbeats 12800000 in
theorem alive_page (w : World) : Calls Try.prog 14 #[] w fun e w' => e = .returned (.bool true) ∧ Below w.heap.size w w' := by
  have B := Lib.hid (Below.refl w.heap.size w)
  have TX := Lib.hid (fun wx : World => g_text (p := 1) (n := 1) (b := 1) ⟨by decide, by decide⟩ g_x.1 g_x.2.1 gT_len wx)
  have PL := Lib.hid (fun wx : World => g_plan (p := 1) (n := 1) (b := 1) ⟨by decide, by decide⟩ g_x.1 g_x.2.1 g_x.2.2 gT_len wx)
  have SE := Lib.hid (fun wx : World => psectors_any 2 9 4 2 2 8 wx)
  rw [gS_sec.1, gS_sec.2] at SE
  have NW := Lib.hid (fun wx : World => (dsk_does.new 86 wx (.inl (by decide))).mono fun e w' hout => DiskOut.as hout (S' := gS) (C' := []) (E' := 0) (n := 86) (n' := 0) gS_new.1 rfl gS_new.2 gS_len rfl)
  have R1 := Lib.hid (fun A1 c1 A1' c1' wx hx => g_read (n' := 0) (m := 2) gS_small g_r.1 g_r.2 rfl A1 c1 A1' c1' wx hx)
  have R2 := Lib.hid (fun A1 c1 A1' c1' wx hx => g_read (n' := 0) (m := 2) gB_small g_b.1 g_b.2 rfl A1 c1 A1' c1' wx hx)
  have WR := Lib.hid (fun A1 c1 A1' c1' Ab cb wx (hx : Dsk wx A1 86 c1 A1' 0 c1' gS []) (hr : Arg wx .u8 Ab 32 cb gT) => (dsk_does.write A1 86 c1 A1' 0 c1' gS [] 13 Ab 32 cb gT wx hx gS_small hr gT_byte (by decide)).mono fun e w' hout => DiskOut.as hout (S' := gS) (C' := gC) (E' := 0) (n := 86) (n' := 1) g_w.2.1 g_w.2.2 g_w.1 gS_len rfl)
  have CR := Lib.hid (fun A1 c1 A1' c1' Ab cb wx (hx : Dsk wx A1 86 c1 A1' 1 c1' gS gC) (hr : Arg wx .u8 Ab 1 cb [2]) => (dsk_does.crash A1 86 c1 A1' 1 c1' gS gC Ab 1 cb [2] wx hx gC_small hr (one_byteJ ⟨by decide, by decide⟩) (by decide)).mono fun e w' hout => DiskOut.as hout (S' := gB) (C' := []) (E' := 0) (n := 86) (n' := 0) rfl rfl g_c gB_len rfl)
  go_enter Try.func14, Try.ntmps14
  go_wp2_with fail
  refine (two13_any _).mono ?_
  rintro e v1 ⟨rfl, hb⟩
  have B := Lib.hid (B.out.trans (hb.mono B.out.size))
  clear hb
  go_wp2_with fail
  refine (TX.out _).mono ?_
  rintro e v2 ⟨A1, r1, rfl, hown, hb⟩
  have B := Lib.hid (B.out.trans (hb.mono B.out.size))
  have V1 := Lib.hid (Arg.own hown)
  clear hb hown
  go_wp2_with fail
  refine (two13_any _).mono ?_
  rintro e v3 ⟨rfl, hb⟩
  have B := Lib.hid (B.out.trans (hb.mono B.out.size))
  have V1 := Lib.hid (V1.out.below hb)
  clear hb
  go_wp2_with fail
  refine (SE.out _).mono ?_
  rintro e v4 ⟨rfl, hb⟩
  have B := Lib.hid (B.out.trans (hb.mono B.out.size))
  have V1 := Lib.hid (V1.out.below hb)
  clear hb
  go_wp2_with fail
  refine (NW.out _).mono ?_
  rintro e v5 ⟨A5, r5, A5', r5', rfl, hown, hb⟩
  have hY := DBox.new (Dsk.of_own hown)
  have hbk : Below v5.heap.size v5 (v5.alloc (.cells #[.slice A5 86 r5, .slice A5' 0 r5'] 37)) := (Below.refl _ _).alloc (Nat.le_refl _) _
  have hb := hb.trans (hbk.mono hb.size)
  have B := Lib.hid (B.out.trans (hb.mono B.out.size))
  have V1 := Lib.hid (V1.out.below hb)
  clear hb hbk hown
  go_upto_region 4 with fail
  obtain ⟨G5, hG⟩ : ∃ x, x = v5.heap.size := ⟨_, rfl⟩
  rw [← hG] at hY ⊢
  obtain ⟨v6, hW⟩ : ∃ x : World, x = v5.alloc (.cells #[.slice A5 86 r5, .slice A5' 0 r5'] 37) := ⟨_, rfl⟩
  rw [← hW] at hY B V1 ⊢
  clear hW hG
  have D5 := Lib.hid hY
  clear hY
  have hcur : Below v6.heap.size v6 v6.drew := below_drewN (Below.refl _ _) 1
  have keepX : ∀ wx, Below v6.heap.size v6 wx → wx.cell? ⟨G5, 0, none⟩ = some (.slice A5 86 r5) ∧ wx.cell? ⟨G5, 1, none⟩ = some (.slice A5' 0 r5') := fun wx hx => (D5.out.below hx).cells
  have hkX := keepX _ hcur
  go_region_held3 (fun w' => w'.cell? ⟨G5, 0, none⟩ = some (.slice A5 86 r5) ∧ w'.cell? ⟨G5, 1, none⟩ = some (.slice A5' 0 r5'))
    (first | exact hkX | go_keep)
    (first
      | (go_at_call 8; (with_reducible refine (two13_any _).mono ?_); rintro e wT ⟨rfl, hbT⟩; have hcur := hcur.trans (hbT.mono hcur.size); have hkX := keepX _ hcur)
      | (go_at_call 10; (with_reducible refine (R1.out _ _ _ _ _ (D5.out.below hcur).dsk).mono ?_); rintro e v7 ⟨A7, r7, rfl, hown, hbR⟩; have hcur := hcur.trans (hbR.mono hcur.size); have hkX := keepX _ hcur))
  have B := Lib.hid (B.out.trans (hcur.mono B.out.size))
  have V1 := Lib.hid (V1.out.below hcur)
  have D5 := Lib.hid (D5.out.below hcur)
  have V7 := Lib.hid (Arg.own hown)
  clear hcur keepX hkX hown hbR
  go_wp2_with fail
  refine (two13_any _).mono ?_
  rintro e v8 ⟨rfl, hb⟩
  have B := Lib.hid (B.out.trans (hb.mono B.out.size))
  have V1 := Lib.hid (V1.out.below hb)
  have D5 := Lib.hid (D5.out.below hb)
  have V7 := Lib.hid (V7.out.below hb)
  clear hb
  go_wp2_with fail
  refine (PL.out _).mono ?_
  rintro e v9 ⟨A9, r9, rfl, hown, hb⟩
  have hY := Blk.new v9 30 [.int .i64 13, .slice A9 32 r9]
  have hbk : Below v9.heap.size v9 (v9.alloc (.cells #[.int .i64 13, .slice A9 32 r9] 30)) := (Below.refl _ _).alloc (Nat.le_refl _) _
  have hb := hb.trans (hbk.mono hb.size)
  have B := Lib.hid (B.out.trans (hb.mono B.out.size))
  have V1 := Lib.hid (V1.out.below hb)
  have D5 := Lib.hid (D5.out.below hb)
  have V7 := Lib.hid (V7.out.below hb)
  have V9 := Lib.hid ((Arg.own hown).below hbk)
  clear hb hbk hown
  go_upto_region 6 with fail
  obtain ⟨G9, hG⟩ : ∃ x, x = v9.heap.size := ⟨_, rfl⟩
  rw [← hG] at hY ⊢
  obtain ⟨v10, hW⟩ : ∃ x : World, x = v9.alloc (.cells #[.int .i64 13, .slice A9 32 r9] 30) := ⟨_, rfl⟩
  rw [← hW] at hY B V1 D5 V7 V9 ⊢
  clear hW hG
  have Y9 := Lib.hid hY
  clear hY
  obtain ⟨c0, c1⟩ := D5.out.cells
  have y0 := Y9.out.cell 0
  have y1 := Y9.out.cell 1
  simp only [List.getElem?_cons_zero, List.getElem?_cons_succ] at y0 y1
  go_wp2_with fail
  refine (WR.out _ _ _ _ _ _ _ D5.out.dsk V9.out).mono ?_
  rintro e v11 ⟨A11, r11, A11', r11', rfl, hown, hb⟩
  have hY := DBox.new (Dsk.of_own hown)
  have hbk : Below v11.heap.size v11 (v11.alloc (.cells #[.slice A11 86 r11, .slice A11' 1 r11'] 37)) := (Below.refl _ _).alloc (Nat.le_refl _) _
  have hb := hb.trans (hbk.mono hb.size)
  have B := Lib.hid (B.out.trans (hb.mono B.out.size))
  have V1 := Lib.hid (V1.out.below hb)
  have D5 := Lib.hid (D5.out.below hb)
  have V7 := Lib.hid (V7.out.below hb)
  have V9 := Lib.hid (V9.out.below hb)
  have Y9 := Lib.hid (Y9.out.below hb Y9.out.lt)
  clear hb hbk hown c0 c1 y0 y1
  go_upto_region 7 with fail
  obtain ⟨G11, hG⟩ : ∃ x, x = v11.heap.size := ⟨_, rfl⟩
  rw [← hG] at hY ⊢
  obtain ⟨v12, hW⟩ : ∃ x : World, x = v11.alloc (.cells #[.slice A11 86 r11, .slice A11' 1 r11'] 37) := ⟨_, rfl⟩
  rw [← hW] at hY B V1 D5 V7 V9 Y9 ⊢
  clear hW hG
  have D11 := Lib.hid hY
  clear hY
  obtain ⟨c0, c1⟩ := D11.out.cells
  have hL := lit_oneJ v12 2
  have hk2 : Below v12.heap.size v12 (v12.alloc (.cells #[.int .u8 2] 5)) := (Below.refl _ _).alloc (Nat.le_refl _) _
  go_wp2_with fail
  have B := Lib.hid (B.out.trans (hk2.mono B.out.size))
  have V1 := Lib.hid (V1.out.below hk2)
  have D5 := Lib.hid (D5.out.below hk2)
  have V7 := Lib.hid (V7.out.below hk2)
  have V9 := Lib.hid (V9.out.below hk2)
  have Y9 := Lib.hid (Y9.out.below hk2 Y9.out.lt)
  have D11 := Lib.hid (D11.out.below hk2)
  have HL := Lib.hid hL
  clear hL hk2
  refine (CR.out _ _ _ _ _ _ _ D11.out.dsk HL.out).mono ?_
  rintro e v13 ⟨A13, r13, A13', r13', rfl, hown, hb⟩
  have hY := DBox.new (Dsk.of_own hown)
  have hbk : Below v13.heap.size v13 (v13.alloc (.cells #[.slice A13 86 r13, .slice A13' 0 r13'] 37)) := (Below.refl _ _).alloc (Nat.le_refl _) _
  have hb := hb.trans (hbk.mono hb.size)
  have B := Lib.hid (B.out.trans (hb.mono B.out.size))
  have V1 := Lib.hid (V1.out.below hb)
  have D5 := Lib.hid (D5.out.below hb)
  have V7 := Lib.hid (V7.out.below hb)
  have V9 := Lib.hid (V9.out.below hb)
  have Y9 := Lib.hid (Y9.out.below hb Y9.out.lt)
  have D11 := Lib.hid (D11.out.below hb)
  clear hb hbk hown c0 c1 HL
  go_upto_region 8 with fail
  obtain ⟨G13, hG⟩ : ∃ x, x = v13.heap.size := ⟨_, rfl⟩
  rw [← hG] at hY ⊢
  obtain ⟨v14, hW⟩ : ∃ x : World, x = v13.alloc (.cells #[.slice A13 86 r13, .slice A13' 0 r13'] 37) := ⟨_, rfl⟩
  rw [← hW] at hY B V1 D5 V7 V9 Y9 D11 ⊢
  clear hW hG
  have D13 := Lib.hid hY
  clear hY
  have hcur : Below v14.heap.size v14 v14.drew := below_drewN (Below.refl _ _) 1
  have keepX : ∀ wx, Below v14.heap.size v14 wx → wx.cell? ⟨G13, 0, none⟩ = some (.slice A13 86 r13) ∧ wx.cell? ⟨G13, 1, none⟩ = some (.slice A13' 0 r13') := fun wx hx => (D13.out.below hx).cells
  have hkX := keepX _ hcur
  go_region_held3 (fun w' => w'.cell? ⟨G13, 0, none⟩ = some (.slice A13 86 r13) ∧ w'.cell? ⟨G13, 1, none⟩ = some (.slice A13' 0 r13'))
    (first | exact hkX | go_keep)
    (first
      | (go_at_call 8; (with_reducible refine (two13_any _).mono ?_); rintro e wT ⟨rfl, hbT⟩; have hcur := hcur.trans (hbT.mono hcur.size); have hkX := keepX _ hcur)
      | (go_at_call 10; (with_reducible refine (R2.out _ _ _ _ _ (D13.out.below hcur).dsk).mono ?_); rintro e v15 ⟨A15, r15, rfl, hown, hbR⟩; have hcur := hcur.trans (hbR.mono hcur.size); have hkX := keepX _ hcur))
  have B := Lib.hid (B.out.trans (hcur.mono B.out.size))
  have V1 := Lib.hid (V1.out.below hcur)
  have D5 := Lib.hid (D5.out.below hcur)
  have V7 := Lib.hid (V7.out.below hcur)
  have V9 := Lib.hid (V9.out.below hcur)
  have Y9 := Lib.hid (Y9.out.below hcur Y9.out.lt)
  have D11 := Lib.hid (D11.out.below hcur)
  have D13 := Lib.hid (D13.out.below hcur)
  have V15 := Lib.hid (Arg.own hown)
  clear hcur keepX hkX hown hbR
  obtain ⟨g1, o1, rfl, _, _⟩ := V1.out.seq.int (j := 0) (by rw [gT_len]; decide)
  have q5 := str_arg (arg_bit13 V1.out (lo := 0) (hi := 5) (by decide) (by decide))
  rw [show (gT.drop 0).take (5 - 0) = [1, 1, 1, 1, 0] by kernel_rfl] at q5
  simp only [Nat.add_zero, Nat.sub_zero] at q5
  have k0 : (5 : Int) ≤ (r1 : Int) := by have := V1.out.cap; omega
  have k1 : ¬ (r1 : Int) < 5 := by omega
  have k2 : ¬ r1 = 0 := by omega
  have k3 : ¬ 0 = r1 := by omega
  have q7 := str_arg V7.out
  have q15 := str_arg V15.out
  have s5 := g_str5
  have s7 := g_str00
  have s15 := g_str01
  go_wp2
  go_ret
  exact ⟨rfl, B.out⟩

end Go.Proofs.Ytiibmlbenamgcaa
