/- Layer 5, DiskDoes: the walk: a write, what is read, whether a write waits: the program's answers and the document's; what is answered is new memory. -/
import Derived.Test.YtajocifomjgjhaaDiskW
import Derived.Deep.RegionHeld3
namespace Go.Proofs.Ytajocifomjgjhaa
open Go.RowKit
set_option linter.unusedVariables false

set_option maxRecDepth 100000 in
set_option maxHeartbeats 12800000 in
theorem does_of (P : DskDoes) (a0 : Option Addr) (len0 cap0 : Nat) (b0 : Option Addr) (len1 cap1 : Nat) (S : List Sec) (C : List Pnd) (at_ : Int) (a2 : Option Addr) (len2 cap2 : Nat) (z2 : List Int) (w : World) (w0 : Dsk w a0 len0 cap0 b0 len1 cap1 S C) (w2 : IsRow .u8 w a2 len2 cap2 z2) :
    Calls Try.prog 4 #[diskV a0 len0 cap0 b0 len1 cap1, .int .i64 at_, .slice a2 len2 cap2] w fun e w' => e = .returned (.bool true) ∧ Below w.heap.size w w' := by
  have PP := Lib.hid P
  obtain ⟨b, hb, hbw⟩ := w2.arg
  have hby : ∀ z ∈ b, isByte z := fun z hz => wf_byte (hbw z hz)
  have BY8 := Lib.hid hby
  have hbel : Below w.heap.size w (w.alloc (.cells #[.slice a0 len0 cap0, .slice b0 len1 cap1] 25)) := (Below.refl _ _).alloc (Nat.le_refl _) _
  have XQ := Lib.hid (DBox.new w0)
  have RB := Lib.hid (hb.below hbel)
  have B2 := Lib.hid hbel
  have G1 := great_any a0 len0 cap0 b0 len1 cap1 S C 60 _ (w0.below hbel)
  obtain ⟨c0, c1⟩ := XQ.out.cells
  have hbl := hb.len
  have hbc := Nat.le_trans hb.cap hb.max
  unfold maxLen at hbc
  clear P w0 w2 hb hbw hby hbel
  cases hg1 : greatD S C 60 with
  | true =>
    rw [hg1] at G1
    have G1 := Lib.hid G1
    clear hg1 hbl
    go_enter Try.func4, Try.ntmps4
    go_wp2_with fail
    refine G1.out.mono ?_
    rintro e w3 ⟨rfl, hb3⟩
    have B3 := Lib.hid (B2.out.trans (hb3.mono B2.out.size))
    clear hb3
    go_wp2
    go_ret
    exact ⟨rfl, B3.out⟩
  | false =>
    rw [hg1] at G1
    have G1 := Lib.hid G1
    have SZ := Lib.hid (small_ofD (by decide) (by decide) hg1)
    clear hg1
    by_cases hl1 : 100 < len2
    · have hl2 : (100 : Int) < (len2 : Int) := by omega
      clear hbl hl1
      go_enter Try.func4, Try.ntmps4
      go_wp2_with fail
      refine G1.out.mono ?_
      rintro e w3 ⟨rfl, hb3⟩
      have B3 := Lib.hid (B2.out.trans (hb3.mono B2.out.size))
      clear hb3
      go_wp2
      go_ret
      exact ⟨rfl, B3.out⟩
    · have hl2 : ¬ (100 : Int) < (len2 : Int) := by omega
      have hl3 : len2 ≤ 100 := by omega
      obtain ⟨I1, K1, E1, hu, hru, hsu⟩ := does_write PP.out SZ.out at_ BY8.out (by rw [hbl]; exact hl3)
      obtain ⟨R2, E2, ho, hro, hso, hsb⟩ := does_read PP.out SZ.out XQ.out.dsk.secs.byte XQ.out.dsk.pnds.byte at_
      obtain ⟨V3, E3, K3, hwa, hrwa, hck, hrck⟩ := does_waits PP.out SZ.out at_
      have HU := Lib.hid hu
      have HRU := Lib.hid hru
      have HSU := Lib.hid hsu
      have HO := Lib.hid ho
      have HRO := Lib.hid hro
      have HSO := Lib.hid hso
      have HSB := Lib.hid hsb
      have HWA := Lib.hid hwa
      have HRWA := Lib.hid hrwa
      have HCK := Lib.hid hck
      have HRCK := Lib.hid hrck
      have HBL := Lib.hid hbl
      clear hu hru hsu ho hro hso hsb hwa hrwa hck hrck hbl hl1 hbc
      go_enter Try.func4, Try.ntmps4
      go_wp2_with fail
      refine G1.out.mono ?_
      rintro e w3 ⟨rfl, hb3⟩
      have B3 := Lib.hid (B2.out.trans (hb3.mono B2.out.size))
      have XQ := Lib.hid (XQ.out.below hb3)
      have RB := Lib.hid (RB.out.below hb3)
      clear hb3 c0 c1
      obtain ⟨c0, c1⟩ := XQ.out.cells
      have T := Lib.hid (twin_any a0 len0 cap0 b0 len1 cap1 S C w3 XQ.out.dsk SZ.out)
      go_wp2_with fail
      refine T.out.mono ?_
      rintro e w4 ⟨AO, cO, BO', dO, rfl, hown, hb4⟩
      have B4 := Lib.hid (B3.out.trans (hb4.mono B3.out.size))
      have XQ := Lib.hid (XQ.out.below hb4)
      have RB := Lib.hid (RB.out.below hb4)
      have OO := Lib.hid hown
      clear T hown hb4 c0 c1
      obtain ⟨ib, hib, hbz, hb1, hb2⟩ := info_parts byte_info
      have hml : (1000 : Nat) ≤ maxLen := by decide
      go_wp2_with (at_builtin; refine wpList_dup_g w4 rfl (.tmp 32) (.tmp 33) _ rfl 5 ib _ 1 Try.underlying31 hib hbz hb1 hb2 rfl rfl a2 len2 cap2 (ints .u8 b) rfl (by rw [ints_length, RB.out.len]) RB.out.seq (ints_one _ _) (by omega) (by omega) ?_; intro AM cM w5 hown5 hbel5; have O5 := Lib.hid hown5; have B5 := Lib.hid hbel5; clear hown5 hbel5; obtain ⟨c0, c1⟩ := box_disk w5 AO len0 cO BO' len1 dO)
      have K5 : Below w4.heap.size w4 (w5.alloc (.cells #[.slice AO len0 cO, .slice BO' len1 dO] 25)) := B5.out.alloc B5.out.size _
      have XQ := XQ.out.below K5
      have RB := RB.out.below K5
      have XO := DBox.new ((Dsk.of_own OO.out).below B5.out)
      have OM := owns_below O5.out (show Below w5.heap.size w5 (w5.alloc (.cells #[.slice AO len0 cO, .slice BO' len1 dO] 25)) from (Below.refl _ _).alloc (Nat.le_refl _) _)
      have B6 := B4.out.trans (K5.mono B4.out.size)
      obtain ⟨BO, hBO⟩ : ∃ BO, BO = w5.heap.size := ⟨_, rfl⟩
      rw [← hBO] at XO ⊢
      obtain ⟨w6, hw6⟩ : ∃ x : World, x = w5.alloc (.cells #[.slice AO len0 cO, .slice BO' len1 dO] 25) := ⟨_, rfl⟩
      rw [← hw6] at XQ RB XO OM B6 c0 c1 ⊢
      rw [← hBO] at c0 c1
      have B6 := Lib.hid B6
      have D := Lib.hid (Below.refl w6.heap.size w6)
      clear hBO hw6 K5 OO O5 B5 B4 B3 B2 G1 hib hbz hb1 hb2 hl2
      have XQ6 := Lib.hid XQ
      have RB6 := Lib.hid RB
      have XO6 := Lib.hid XO
      have OM6 := Lib.hid OM
      have XQ := Lib.hid XQ
      have RB := Lib.hid RB
      have XO := Lib.hid XO
      have OM := Lib.hid OM
      clear c0 c1
      obtain ⟨c0, c1⟩ := XO.out.cells
      go_wp2_with fail
      have N := Lib.hid (HU.out AO len0 cO BO' len1 dO AM len2 cM w6 XO.out.dsk (Arg.own OM.out))
      clear c0 c1
      refine N.out.mono ?_
      rintro e w7 ⟨AX, cX, AX', dX, rfl, hown, hbn⟩
      have hb2 : Below w6.heap.size w6 (w7.alloc (.cells #[.slice AX I1.length cX, .slice AX' K1.length dX] 25)) := hbn.alloc hbn.size _
      have hb3 : Below w7.heap.size w7 (w7.alloc (.cells #[.slice AX I1.length cX, .slice AX' K1.length dX] 25)) := (Below.refl _ _).alloc (Nat.le_refl _) _
      have XQ := XQ.out.below hb2
      have RB := RB.out.below hb2
      have XO := XO.out.below hb2
      have OM := owns_below OM.out hb2
      have XX := DBox.new (Dsk.of_own hown)
      have OX := (hown.below hb3).lower D.out.size
      have D := D.out.trans (hb2.mono D.out.size)
      have XQ := Lib.hid XQ
      have RB := Lib.hid RB
      have XO := Lib.hid XO
      have OM := Lib.hid OM
      have XX := Lib.hid XX
      have OX := Lib.hid OX
      have D := Lib.hid D
      obtain ⟨c0, c1⟩ := XQ.out.cells
      clear hown hbn hb2 hb3 N
      go_wp2_with fail
      obtain ⟨BX, hB⟩ : ∃ x, x = w7.heap.size := ⟨_, rfl⟩
      rw [← hB] at XX ⊢
      obtain ⟨w8, hW⟩ : ∃ x : World, x = (w7.alloc (.cells #[.slice AX I1.length cX, .slice AX' K1.length dX] 25)) := ⟨_, rfl⟩
      rw [← hW] at XQ RB XO OM XX OX D c0 c1 ⊢
      clear hB hW
      have N := Lib.hid (HRU.out a0 len0 cap0 b0 len1 cap1 a2 len2 cap2 w8 XQ.out.dsk RB.out)
      clear c0 c1
      refine N.out.mono ?_
      rintro e w9 ⟨AY, cY, AY', dY, rfl, hown, hbn⟩
      have hb2 : Below w8.heap.size w8 (w9.alloc (.cells #[.slice AY I1.length cY, .slice AY' K1.length dY] 25)) := hbn.alloc hbn.size _
      have hb3 : Below w9.heap.size w9 (w9.alloc (.cells #[.slice AY I1.length cY, .slice AY' K1.length dY] 25)) := (Below.refl _ _).alloc (Nat.le_refl _) _
      have XQ := XQ.out.below hb2
      have RB := RB.out.below hb2
      have XO := XO.out.below hb2
      have OM := owns_below OM.out hb2
      have XX := XX.out.below hb2
      have OX := OX.out.below hb2
      have XY := DBox.new (Dsk.of_own hown)
      have OY := (hown.below hb3).lower D.out.size
      have D := D.out.trans (hb2.mono D.out.size)
      have XQ := Lib.hid XQ
      have RB := Lib.hid RB
      have XO := Lib.hid XO
      have OM := Lib.hid OM
      have XX := Lib.hid XX
      have OX := Lib.hid OX
      have XY := Lib.hid XY
      have OY := Lib.hid OY
      have D := Lib.hid D
      obtain ⟨c0, c1⟩ := XO.out.cells
      clear hown hbn hb2 hb3 N
      go_wp2_with fail
      obtain ⟨BY, hB⟩ : ∃ x, x = w9.heap.size := ⟨_, rfl⟩
      rw [← hB] at XY ⊢
      obtain ⟨w10, hW⟩ : ∃ x : World, x = (w9.alloc (.cells #[.slice AY I1.length cY, .slice AY' K1.length dY] 25)) := ⟨_, rfl⟩
      rw [← hW] at XQ RB XO OM XX OX XY OY D c0 c1 ⊢
      clear hB hW
      have N := Lib.hid (HO.out AO len0 cO BO' len1 dO w10 XO.out.dsk)
      clear c0 c1
      refine N.out.mono ?_
      rintro e w11 ⟨AC, cC, rfl, hown, hbn⟩
      have XQ := XQ.out.below hbn
      have RB := RB.out.below hbn
      have XO := XO.out.below hbn
      have OM := owns_below OM.out hbn
      have XX := XX.out.below hbn
      have OX := OX.out.below hbn
      have XY := XY.out.below hbn
      have OY := OY.out.below hbn
      have OC := owns_base hown D.out.size
      have D := D.out.trans (hbn.mono D.out.size)
      clear hown hbn N
      have XQ := Lib.hid XQ
      have RB := Lib.hid RB
      have XO := Lib.hid XO
      have OM := Lib.hid OM
      have XX := Lib.hid XX
      have OX := Lib.hid OX
      have XY := Lib.hid XY
      have OY := Lib.hid OY
      have OC := Lib.hid OC
      have D := Lib.hid D
      obtain ⟨c0, c1⟩ := XQ.out.cells
      go_wp2_with fail
      have N := Lib.hid (HRO.out a0 len0 cap0 b0 len1 cap1 w11 XQ.out.dsk)
      clear c0 c1
      refine N.out.mono ?_
      rintro e w12 ⟨AD, cD, rfl, hown, hbn⟩
      have XQ := XQ.out.below hbn
      have RB := RB.out.below hbn
      have XO := XO.out.below hbn
      have OM := owns_below OM.out hbn
      have XX := XX.out.below hbn
      have OX := OX.out.below hbn
      have XY := XY.out.below hbn
      have OY := OY.out.below hbn
      have OC := owns_below OC.out hbn
      have OD := owns_base hown D.out.size
      have D := D.out.trans (hbn.mono D.out.size)
      clear hown hbn N
      have XQ := Lib.hid XQ
      have RB := Lib.hid RB
      have XO := Lib.hid XO
      have OM := Lib.hid OM
      have XX := Lib.hid XX
      have OX := Lib.hid OX
      have XY := Lib.hid XY
      have OY := Lib.hid OY
      have OC := Lib.hid OC
      have OD := Lib.hid OD
      have D := Lib.hid D
      obtain ⟨c0, c1⟩ := XO.out.cells
      go_wp2_with fail
      have N := Lib.hid (HWA.out AO len0 cO BO' len1 dO w12 XO.out.dsk)
      clear c0 c1
      refine N.out.mono ?_
      rintro e w13 ⟨rfl, hbn⟩
      have XQ := XQ.out.below hbn
      have RB := RB.out.below hbn
      have XO := XO.out.below hbn
      have OM := owns_below OM.out hbn
      have XX := XX.out.below hbn
      have OX := OX.out.below hbn
      have XY := XY.out.below hbn
      have OY := OY.out.below hbn
      have OC := owns_below OC.out hbn
      have OD := owns_below OD.out hbn
      have D := D.out.trans (hbn.mono D.out.size)
      clear hbn N
      have XQ := Lib.hid XQ
      have RB := Lib.hid RB
      have XO := Lib.hid XO
      have OM := Lib.hid OM
      have XX := Lib.hid XX
      have OX := Lib.hid OX
      have XY := Lib.hid XY
      have OY := Lib.hid OY
      have OC := Lib.hid OC
      have OD := Lib.hid OD
      have D := Lib.hid D
      obtain ⟨c0, c1⟩ := XQ.out.cells
      go_wp2_with fail
      have N := Lib.hid (HRWA.out a0 len0 cap0 b0 len1 cap1 w13 XQ.out.dsk)
      clear c0 c1
      refine N.out.mono ?_
      rintro e w14 ⟨rfl, hbn⟩
      have XQ := XQ.out.below hbn
      have RB := RB.out.below hbn
      have XO := XO.out.below hbn
      have OM := owns_below OM.out hbn
      have XX := XX.out.below hbn
      have OX := OX.out.below hbn
      have XY := XY.out.below hbn
      have OY := OY.out.below hbn
      have OC := owns_below OC.out hbn
      have OD := owns_below OD.out hbn
      have D := D.out.trans (hbn.mono D.out.size)
      clear hbn N
      have XQ := Lib.hid XQ
      have RB := Lib.hid RB
      have XO := Lib.hid XO
      have OM := Lib.hid OM
      have XX := Lib.hid XX
      have OX := Lib.hid OX
      have XY := Lib.hid XY
      have OY := Lib.hid OY
      have OC := Lib.hid OC
      have OD := Lib.hid OD
      have D := Lib.hid D
      go_wp2
      have hcur : Below w14.heap.size w14 w14.drew := below_drewN (Below.refl _ _) 1
      have keepX : ∀ wx, Below w14.heap.size w14 wx → wx.cell? ⟨BO, 0, none⟩ = some (.slice AO len0 cO) ∧ wx.cell? ⟨BO, 1, none⟩ = some (.slice BO' len1 dO) ∧ wx.cell? ⟨w.heap.size, 0, none⟩ = some (.slice a0 len0 cap0) ∧ wx.cell? ⟨w.heap.size, 1, none⟩ = some (.slice b0 len1 cap1) ∧ wx.cell? ⟨BX, 0, none⟩ = some (.slice AX I1.length cX) ∧ wx.cell? ⟨BX, 1, none⟩ = some (.slice AX' K1.length dX) ∧ wx.cell? ⟨BY, 0, none⟩ = some (.slice AY I1.length cY) ∧ wx.cell? ⟨BY, 1, none⟩ = some (.slice AY' K1.length dY) ∧ (convert 31 9 (.slice AC R2.length cC)).run Try.prog wx = .ok (.string (strOfNums R2)) wx ∧ (convert 31 9 (.slice AD R2.length cD)).run Try.prog wx = .ok (.string (strOfNums R2)) wx := fun wx hx => by
        obtain ⟨u00, u01⟩ := (XO.out.below hx).cells
        obtain ⟨u10, u11⟩ := (XQ.out.below hx).cells
        obtain ⟨u20, u21⟩ := (XX.out.below hx).cells
        obtain ⟨u30, u31⟩ := (XY.out.below hx).cells
        exact ⟨u00, u01, u10, u11, u20, u21, u30, u31, str_arg (Arg.own (owns_below OC.out hx)), str_arg (Arg.own (owns_below OD.out hx))⟩
      have hkX := keepX _ hcur
      go_region_held3 (fun w' => w'.cell? ⟨BO, 0, none⟩ = some (.slice AO len0 cO) ∧ w'.cell? ⟨BO, 1, none⟩ = some (.slice BO' len1 dO) ∧ w'.cell? ⟨w.heap.size, 0, none⟩ = some (.slice a0 len0 cap0) ∧ w'.cell? ⟨w.heap.size, 1, none⟩ = some (.slice b0 len1 cap1) ∧ w'.cell? ⟨BX, 0, none⟩ = some (.slice AX I1.length cX) ∧ w'.cell? ⟨BX, 1, none⟩ = some (.slice AX' K1.length dX) ∧ w'.cell? ⟨BY, 0, none⟩ = some (.slice AY I1.length cY) ∧ w'.cell? ⟨BY, 1, none⟩ = some (.slice AY' K1.length dY) ∧ (convert 31 9 (.slice AC R2.length cC)).run Try.prog w' = .ok (.string (strOfNums R2)) w' ∧ (convert 31 9 (.slice AD R2.length cD)).run Try.prog w' = .ok (.string (strOfNums R2)) w')
        (first | exact hkX | go_keep)
        (first
          | (go_at_call 22; refine (same_yes _ _ _ _ _ _ _ _ _ _ _ _ _ _ _ (XX.out.below hcur).dsk (XY.out.below hcur).dsk).mono ?_; rintro e wN ⟨rfl, hbN⟩; have hcur := hcur.trans (hbN.mono hcur.size); have hkX := keepX _ hcur)
          | (go_at_call 16; refine (HCK.out _ _ _ _ _ _ _ (XO.out.below hcur).dsk).mono ?_; rintro e wN ⟨rfl, hbN⟩; have hcur := hcur.trans (hbN.mono hcur.size); have hkX := keepX _ hcur)
          | (go_at_call 23; refine (HRCK.out _ _ _ _ _ _ _ (XQ.out.below hcur).dsk).mono ?_; rintro e wN ⟨rfl, hbN⟩; have hcur := hcur.trans (hbN.mono hcur.size); have hkX := keepX _ hcur))
      have HCUR := Lib.hid hcur
      have D := Lib.hid (D.out.trans (hcur.mono D.out.size))
      have XX := (XX.out.below hcur).blk
      have OX := OX.out.below hcur
      have OC := Lib.hid (owns_below OC.out hcur)
      have t0 := XX.cell 0
      have t1 := XX.cell 1
      simp only [List.getElem?_cons_zero, List.getElem?_cons_succ] at t0 t1
      have hz0 := Lib.hid D.out.size
      have SP := Lib.hid (spoil_any AX I1.length cX AX' K1.length dX w6.heap.size I1 K1 wN OX D.out.size HSU.out)
      clear hcur hkX keepX XX OX hbN
      go_wp2_with fail
      refine SP.out.mono ?_
      rintro e wA ⟨rfl, hbA, hsA⟩
      have D := D.out.trans hbA
      obtain ⟨tC, hbyC, hlC, hoC⟩ := hsA.row _ _ _ _ _ HSB.out OC.out
      have hoC' := hoC
      clear SP t0 t1 hsA hbA OC HCUR
      obtain ⟨LC, hLC⟩ : ∃ x, x = R2.length := ⟨_, rfl⟩
      rw [← hLC] at hoC hlC ⊢
      have HLC := Lib.hid (show LC ≤ 100 by rw [hLC]; exact HSO.out)
      clear hoC' hLC
      have D0 := Lib.hid D
      have TC := Lib.hid hoC
      have BC := Lib.hid hbyC
      have TL := Lib.hid hlC
      clear D hoC hbyC hlC
      go_wp2
      go_loopw [22] (fun x wr => ∃ k : Nat, k ≤ LC ∧ x = .int .i64 k ∧ (∃ zs, (∀ z ∈ zs, isByte z) ∧ zs.length = LC ∧ wr.ownsRow w6.heap.size 5 1 (.slice AC LC cC) LC (ints .u8 zs)) ∧ Below w6.heap.size w6 wr) (fun x _ => LC - (intOf x).toNat)
      case atStart => exact ⟨0, Nat.zero_le _, rfl, ⟨tC, BC.out, TL.out, TC.out⟩, D0.out⟩
      case round =>
        obtain ⟨k, hk, rfl, ⟨zs, hzb, hzl, hzo⟩, hD⟩ := hrel
        have hcc := Arg.own hzo
        have hcm := Nat.le_trans hcc.cap hcc.max
        unfold maxLen at hcm
        have hL100 := HLC.out
        by_cases hkL : k < LC
        · have hki : (k : Int) < (LC : Int) := by omega
          obtain ⟨g, rfl, hbg, hcg, hfg, hset⟩ := owns_int_at hzo hkL
          have hbyte : isByte (zs.getD k 0) := hzb _ (getD_mem zs k (by omega))
          obtain ⟨x, hx⟩ : ∃ x, x = zs.getD k 0 := ⟨_, rfl⟩
          rw [← hx] at hcg hbyte
          have hx0 : 0 ≤ x := hbyte.1
          have hx1 : x < 256 := hbyte.2
          have SET := Lib.hid (hset ((x + 1) % 256))
          have ZB := Lib.hid (show ∀ z ∈ zs.set k ((x + 1) % 256), isByte z from fun z hz => by
            rcases List.mem_or_eq_of_mem_set hz with hz | rfl
            · exact hzb z hz
            · exact ⟨by omega, by omega⟩)
          have ZL := Lib.hid (show (zs.set k ((x + 1) % 256)).length = LC by rw [List.length_set]; exact hzl)
          have BD := Lib.hid (hD.setCell (p := ⟨g, k, none⟩) hbg (.int .u8 ((x + 1) % 256)))
          clear hx hbyte hset hzb hzl hzo hD hcc
          go_wp2
          go_roundw
          case rel => exact ⟨k + 1, by omega, by go_num, ⟨_, ZB.out, ZL.out, SET.out⟩, BD.out⟩
          case measure => simp [intOf]; omega
        · obtain rfl : k = LC := by omega
          have hki : ¬ (k : Int) < (k : Int) := by omega
          have XO := XO6.out.below hD
          have XQ := XQ6.out.below hD
          obtain ⟨c0, c1⟩ := XO.cells
          obtain ⟨d0, d1⟩ := XQ.cells
          have K6 := Lib.hid (same_yes AO len0 cO BO' len1 dO S C a0 len0 cap0 b0 len1 cap1 wr XO.dsk XQ.dsk)
          have D := Lib.hid hD
          clear hzb hzl hzo hD hcc XO XQ
          go_wp2_with fail
          refine K6.out.mono ?_
          rintro e wF ⟨rfl, hbF⟩
          have D := D.out.trans (hbF.mono D.out.size)
          have e1 := str_arg (Arg.own (owns_below OM6.out D))
          have e2 := str_arg (RB6.out.below D)
          have BF := Lib.hid (B6.out.trans (D.mono B6.out.size))
          clear D hbF K6
          go_wp2
          go_ret
          exact ⟨rfl, BF.out⟩

end Go.Proofs.Ytajocifomjgjhaa
