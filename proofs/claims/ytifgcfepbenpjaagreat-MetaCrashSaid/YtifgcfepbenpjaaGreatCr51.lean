/- Texts of layers 1 to 12, joined. -/
import Derived.Test.YtifgcfepbenpjaaGreatCr50
set_option maxRecDepth 100000
set_option maxHeartbeats 12800000
set_option linter.unusedVariables false
namespace Go.Proofs.YtifgcfepbenpjaaGreat
open Go.RowKit
theorem mcrash_of (P T A M W Q : Int) (D : Option Addr) (d : Nat) (D' : Option Addr) (d' : Nat) (S : List Sec) (C : List Pnd) (Ab : Option Addr) (nb cb : Nat) (b : Txt) (many : Int) (Af : Option Addr) (nf cf : Nat) (F : List Int) (w : World) (hq : Dsk w D S.length d D' C.length d' S C) (hb : Arg w .u8 Ab nb cb b) (hby : ∀ z ∈ b, isByte z) (hf : Arg w .u8 Af nf cf F) (hfy : ∀ z ∈ F, isByte z) :
  Calls Tryz.prog 6 #[cfgV P T A M W Q, diskV D S.length d D' C.length d', .slice Ab nb cb, .int .i64 many, .slice Af nf cf] w fun e w' => e = .returned (.bool true) ∧ Below w.heap.size w w' := by
 obtain ⟨x, hb0⟩ := box_cfg w P T A M W Q
 obtain ⟨w1, hw1⟩ : ∃ y, y = w.alloc (.cells #[.int .i64 P, .int .i64 T, .int .i64 A, .int .i64 M, .int .i64 W, .int .i64 Q] 36) := ⟨_, rfl⟩
 have hs1 : w1.heap.size = w.heap.size + 1 := by rw [hw1]; simp
 rw [← hw1] at x hb0
 have y := Blk.new w1 25 [.slice D S.length d, .slice D' C.length d']
 have h2 : Below w1.heap.size w1 (w1.alloc (.cells #[.slice D S.length d, .slice D' C.length d'] 25)) := (Below.refl _ _).alloc (Nat.le_refl _) _
 obtain ⟨w0, hw0⟩ : ∃ y, y = w1.alloc (.cells #[.slice D S.length d, .slice D' C.length d'] 25) := ⟨_, rfl⟩
 rw [← hw0] at y h2
 have hx := x.below h2 x.lt
 rw [hs1] at y
 have hbb := hb0.trans (h2.mono hb0.size)
 have X := Lh hx
 have Y := Lh y
 have B := Lh hbb
 have DQ := Lh (hq.below hbb)
 have NB := Lh (hb.below hbb)
 have NF := Lh (hf.below hbb)
 have HBY := Lh hby
 have HFY := Lh hfy
 have LB := Lh hb.len
 have LF := Lh hf.len
 have gg := fun w hx => great_any D S.length d D' C.length d' S C 300 w hx
 have SBY := Lh hq.secs.byte
 clear x y h2 hx hb0 hbb hs1 hq hb hf hby hfy
 obtain ⟨X_0, X_1, X_2, X_3, X_4, X_5⟩ := X.out.cfg
 obtain ⟨Y_0, Y_1⟩ := Y.out.two_
 go_enter Tryz.func6, Tryz.ntmps6
 go_wp2_with fail
 rw [← hw1, ← hw0]
 clear hw1 hw0
 clear X_0 X_1 X_2 X_3 X_4 X_5 Y_0 Y_1
 refine (alive12_any _).mono ?_
 rintro e v1 ⟨rfl, hb⟩
 have B := Lh (B.out.trans (hb.mono B.out.size))
 have X := Lh (X.out.below hb X.out.lt)
 have Y := Lh (Y.out.below hb Y.out.lt)
 have DQ := Lh (DQ.out.below hb)
 have NB := Lh (NB.out.below hb)
 have NF := Lh (NF.out.below hb)
 clear hb
 obtain ⟨X_0, X_1, X_2, X_3, X_4, X_5⟩ := X.out.cfg
 obtain ⟨Y_0, Y_1⟩ := Y.out.two_
 go_wp2_with fail
 clear X_0 X_1 X_2 X_3 X_4 X_5 Y_0 Y_1
 cases hg : greatD S C 300 with
 | true =>
  rw [hg] at gg
  refine (gg _ DQ.out).mono ?_
  rintro e w2 ⟨rfl, hb⟩
  have Y := Lh (Y.out.below hb Y.out.lt)
  have B := Lh (B.out.trans (hb.mono B.out.size))
  obtain ⟨Y_0, Y_1⟩ := Y.out.two_
  clear hb
  go_wp2
  go_ret
  exact ⟨rfl, B.out⟩
 | false =>
  rw [hg] at gg
  have SM := Lh (small_ofD (by decide) (by decide) hg)
  clear hg
  refine (gg _ DQ.out).mono ?_
  rintro e v2 ⟨rfl, hb⟩
  have B := Lh (B.out.trans (hb.mono B.out.size))
  have X := Lh (X.out.below hb X.out.lt)
  have Y := Lh (Y.out.below hb Y.out.lt)
  have DQ := Lh (DQ.out.below hb)
  have NB := Lh (NB.out.below hb)
  have NF := Lh (NF.out.below hb)
  clear hb gg
  obtain ⟨X_0, X_1, X_2, X_3, X_4, X_5⟩ := X.out.cfg
  obtain ⟨Y_0, Y_1⟩ := Y.out.two_
  by_cases h1 : 0 < C.length
  ·have g : (0 : Int) < (C.length : Int) := by omega
   go_wp2
   go_ret
   exact ⟨rfl, B.out⟩
  have hC : C = [] := List.eq_nil_of_length_eq_zero (by omega)
  subst hC
  have hn0 : ¬ (0 : Int) < ((0 : Nat) : Int) := by decide
  dsimp only [List.length_nil] at Y Y_1
  by_cases h2 : 100 < nb
  ·have g : (100 : Int) < (nb : Int) := by omega
   go_wp2
   go_ret
   exact ⟨rfl, B.out⟩
  by_cases h3 : 200 < nf
  ·have g : (200 : Int) < (nf : Int) := by omega
   go_wp2
   go_ret
   exact ⟨rfl, B.out⟩
  have g2 : ¬ (100 : Int) < (nb : Int) := by omega
  have g3 : ¬ (200 : Int) < (nf : Int) := by omega
  have PO := Lh (fun S D d D' d' wx hx hs => popen12_any P T A M W Q D S.length d D' 0 d' S [] wx hx hs)
  unfold MetOut at PO
  obtain ⟨E, hE⟩ : ∃ y, y = moE P T A M W Q S [] := ⟨_, rfl⟩
  obtain ⟨m, hm⟩ : ∃ y, y = moV P T A M W Q S [] := ⟨_, rfl⟩
  have P1 := Lh (PO.out S D d D' d')
  rw [← hE, ← hm] at P1
  by_cases hE0 : E = 0
  ·skip
   have K := Lh (crash_known (hE.symm.trans hE0) hm SBY.out)
   subst hE0
   have HE := Lh hE
   have HM := Lh hm
   obtain ⟨⟨v, a, g⟩, n, u, t⟩ := m
   dsimp only at P1 K
   have KT := Lh (three_of12 K.out.2.1.2.2.2.2)
   have PR := Lh (fun D d D' d' Bm cm wx hx hy => porderly_any P T A M W Q D S.length d D' 0 d' S [] v a g n u Bm t.length cm t wx hx SM.out K.out.2.2.1 hy (Nat.le_trans KT.out (by decide)))
   have PC := Lh (fun Bm cm wx hx hy hz => pcommit12_any P T A M W Q D S.length d D' 0 d' S [] v a g n u Bm t.length cm t Ab nb cb b wx hx SM.out K.out.2.2.1 hy (Nat.le_trans KT.out (by decide)) hz HBY.out (by omega))
   unfold PlanOutB at PC
   rw [K.out.2.2.2.2.1] at PR
   obtain ⟨m2, hm2⟩ : ∃ y, y = cmO P T A M W Q S [] ⟨(v, a, g), n, u, t⟩ b := ⟨_, rfl⟩
   obtain ⟨L, hL⟩ : ∃ y, y = cmL P T A M W Q S [] ⟨(v, a, g), n, u, t⟩ b := ⟨_, rfl⟩
   obtain ⟨E2, hE2⟩ : ∃ y, y = cmE P T A M W Q S [] ⟨(v, a, g), n, u, t⟩ b := ⟨_, rfl⟩
   obtain ⟨O, hO⟩ : ∃ y, y = orB P T A M W Q S [] ⟨(v, a, g), n, u, t⟩ := ⟨_, rfl⟩
   rw [← hm2, ← hL, ← hE2] at PC
   rw [← hO] at PR
   have HM2 := Lh hm2
   have HL := Lh hL
   have HE2 := Lh hE2
   have HO := Lh hO
   clear hE hm hm2 hL hE2 hO
   obtain ⟨⟨v2, a2, g2'⟩, n2, u2, t2⟩ := m2
   dsimp only at PC
   obtain ⟨kt, hkt⟩ : ∃ y, y = t.length := ⟨_, rfl⟩
   obtain ⟨k2, hk2⟩ : ∃ y, y = t2.length := ⟨_, rfl⟩
   obtain ⟨nl, hnl⟩ : ∃ y, y = L.length := ⟨_, rfl⟩
   rw [← hkt] at P1 PR PC
   rw [← hk2] at PC
   rw [← hnl] at PC
   have LN := Lh hnl
   clear hnl hkt hk2
   go_wp2_with fail
   clear X_0 X_1 X_2 X_3 X_4 X_5 Y_0 Y_1
   refine (P1.out _ DQ.out SM.out).mono ?_
   rintro e v3 ⟨A3, x3, rfl, hown, hb⟩
   obtain ⟨hY, hk⟩ := met_box v3 v a g n u A3 kt x3
   have hb0 := hb
   replace hb := hb.trans (hk.mono hb.size)
   have B := Lh (B.out.trans (hb.mono B.out.size))
   have X := Lh (X.out.below hb X.out.lt)
   have Y := Lh (Y.out.below hb Y.out.lt)
   have DQ := Lh (DQ.out.below hb)
   have NB := Lh (NB.out.below hb)
   have NF := Lh (NF.out.below hb)
   have RC := Lh ((Recs.of_own hown).below hk)
   have Z := Lh hY
   clear hY hk hb0
   clear hb hown P1
   obtain ⟨X_0, X_1, X_2, X_3, X_4, X_5⟩ := X.out.cfg
   obtain ⟨Y_0, Y_1⟩ := Y.out.two_
   obtain ⟨Z_0, Z_1, Z_2, Z_3, Z_4, Z_5⟩ := Z.out.met
   go_wp2_with fail
   clear X_0 X_1 X_2 X_3 X_4 X_5 Y_0 Y_1 Z_0 Z_1 Z_2 Z_3 Z_4 Z_5
   obtain ⟨v4, hv4⟩ : ∃ y, y = v3.alloc (.cells #[.int .u32 v, .int .i64 a, .int .u64 g, .int .i64 n, .int .i64 u, .slice A3 kt x3] 32) := ⟨_, rfl⟩
   rw [← hv4] at B X Y DQ NB NF RC Z ⊢
   clear hv4
   refine (PR.out _ _ _ _ _ _ _ DQ.out RC.out).mono ?_
   rintro e v5 ⟨rfl, hb⟩
   have B := Lh (B.out.trans (hb.mono B.out.size))
   have X := Lh (X.out.below hb X.out.lt)
   have Y := Lh (Y.out.below hb Y.out.lt)
   have DQ := Lh (DQ.out.below hb)
   have NB := Lh (NB.out.below hb)
   have NF := Lh (NF.out.below hb)
   have RC := Lh (RC.out.below hb)
   have Z := Lh (Z.out.below hb Z.out.lt)
   clear hb PR
   obtain ⟨X_0, X_1, X_2, X_3, X_4, X_5⟩ := X.out.cfg
   obtain ⟨Y_0, Y_1⟩ := Y.out.two_
   obtain ⟨Z_0, Z_1, Z_2, Z_3, Z_4, Z_5⟩ := Z.out.met
   go_wp2_with fail
   clear X_0 X_1 X_2 X_3 X_4 X_5 Y_0 Y_1 Z_0 Z_1 Z_2 Z_3 Z_4 Z_5
   refine (PC.out _ _ _ DQ.out RC.out NB.out).mono ?_
   rintro e v6 ⟨A4, x4, A5, x5, rfl, hown, hacts, hb⟩
   obtain ⟨hY, hk⟩ := met_box v6 v2 a2 g2' n2 u2 A4 k2 x4
   have hb0 := hb
   replace hb := hb.trans (hk.mono hb.size)
   have B := Lh (B.out.trans (hb.mono B.out.size))
   have X := Lh (X.out.below hb X.out.lt)
   have Y := Lh (Y.out.below hb Y.out.lt)
   have DQ := Lh (DQ.out.below hb)
   have NB := Lh (NB.out.below hb)
   have NF := Lh (NF.out.below hb)
   have RC := Lh (RC.out.below hb)
   have Z := Lh (Z.out.below hb Z.out.lt)
   have R2 := Lh ((Recs.of_own hown).below hk)
   have AC := Lh (hacts.below hk)
   have V := Lh hY
   clear hY hk hb0
   clear hb hown hacts PC
   obtain ⟨X_0, X_1, X_2, X_3, X_4, X_5⟩ := X.out.cfg
   obtain ⟨Y_0, Y_1⟩ := Y.out.two_
   obtain ⟨Z_0, Z_1, Z_2, Z_3, Z_4, Z_5⟩ := Z.out.met
   by_cases hE2 : E2 = 0
   ·skip
    subst hE2
    cases O with
    | false =>
     go_wp2
     go_ret
     exact ⟨rfl, B.out⟩
    | true =>
     obtain ⟨S', C', hdn, hmay, htl⟩ := mcrash_tells HE.out.symm HM.out SBY.out HE2.out.symm HO.out.symm HBY.out many
     rw [← HL.out] at hdn htl
     rw [← HM2.out] at htl
     have HD := Lh hdn
     have HY := Lh hmay
     have HT := Lh (htl F)
     clear hdn hmay htl
     have NL := Lh (show nl ≤ 1000 by rw [LN.out, HL.out]; exact Nat.le_trans cmL_many (by decide))
     go_wp2_with fail
     clear X_0 X_1 X_2 X_3 X_4 X_5 Y_0 Y_1 Z_0 Z_1 Z_2 Z_3 Z_4 Z_5
     obtain ⟨v7, hv7⟩ : ∃ y, y = v6.alloc (.cells #[.int .u32 v2, .int .i64 a2, .int .u64 g2', .int .i64 n2, .int .i64 u2, .slice A4 k2 x4] 32) := ⟨_, rfl⟩
     rw [← hv7] at B X Y DQ NB NF RC Z R2 AC V ⊢
     clear hv7
     obtain ⟨LA, hoa, hax⟩ := AC.out.is
     have DN := Lh (done12_any D d D' d' S [] A5 nl x5 _ LA L many S' C' _ DQ.out SM.out hoa hax HD.out AC.out.byte NL.out)
     clear hoa hax
     have DQ0 := Lh DQ.out
     refine (DN.out).mono ?_
     rintro e v8 ⟨A6, x6, A6', x6', rfl, hdd, hsd, hb⟩
     clear AC
     have hY := Blk.new v8 25 [.slice A6 S'.length x6, .slice A6' C'.length x6']
     have hk : Below v8.heap.size v8 (v8.alloc (.cells #[.slice A6 S'.length x6, .slice A6' C'.length x6'] 25)) := (Below.refl _ _).alloc (Nat.le_refl _) _
     have hb0 := hb
     replace hb := hb.trans (hk.mono hb.size)
     have B := Lh (B.out.trans (hb.mono B.out.size))
     have X := Lh (X.out.below hb X.out.lt)
     have Y := Lh (Y.out.below hb Y.out.lt)
     have DQ := Lh (DQ.out.below hb)
     have NB := Lh (NB.out.below hb)
     have NF := Lh (NF.out.below hb)
     have RC := Lh (RC.out.below hb)
     have Z := Lh (Z.out.below hb Z.out.lt)
     have R2 := Lh (R2.out.below hb)
     have V := Lh (V.out.below hb V.out.lt)
     have DU := Lh ((hdd.dsk (DQ0.out.below hb0)).below hk)
     have HSD := Lh (hsd)
     have U := Lh hY
     clear hY hk hb0
     clear hb DN hdd hsd DQ0
     obtain ⟨U_0, U_1⟩ := U.out.two_
     have CR := Lh (fun wx hx hf => dsk_does.crash A6 S'.length x6 A6' C'.length x6' S' C' Af nf cf F wx hx HSD.out hf HFY.out (by rw [LF.out]; omega))
     have CH : chkD S' C' = 0 := if_pos HY.out
     rw [CH] at CR
     obtain ⟨S2, hS2⟩ : ∃ y, y = crS S' C' F := ⟨_, rfl⟩
     rw [← hS2] at CR HT
     have SM2 := Lh (show SmallD S2 [] by rw [hS2]; exact cr_small HSD.out F)
     clear CH hS2
     go_wp2_with fail
     clear U_0 U_1
     obtain ⟨v9, hv9⟩ : ∃ y, y = v8.alloc (.cells #[.slice A6 S'.length x6, .slice A6' C'.length x6'] 25) := ⟨_, rfl⟩
     rw [← hv9] at B X Y DQ NB NF RC Z R2 V DU U ⊢
     clear hv9
     refine (CR.out _ DU.out NF.out).mono ?_
     rintro e v10 ⟨A7, x7, A7', x7', rfl, hown, hb⟩
     clear U
     clear DU
     have hY := Blk.new v10 25 [.slice A7 S2.length x7, .slice A7' 0 x7']
     have hk : Below v10.heap.size v10 (v10.alloc (.cells #[.slice A7 S2.length x7, .slice A7' 0 x7'] 25)) := (Below.refl _ _).alloc (Nat.le_refl _) _
     have hb0 := hb
     replace hb := hb.trans (hk.mono hb.size)
     have B := Lh (B.out.trans (hb.mono B.out.size))
     have X := Lh (X.out.below hb X.out.lt)
     have Y := Lh (Y.out.below hb Y.out.lt)
     have DQ := Lh (DQ.out.below hb)
     have NB := Lh (NB.out.below hb)
     have NF := Lh (NF.out.below hb)
     have RC := Lh (RC.out.below hb)
     have Z := Lh (Z.out.below hb Z.out.lt)
     have R2 := Lh (R2.out.below hb)
     have V := Lh (V.out.below hb V.out.lt)
     have DG := Lh ((Dsk.of_own hown).below hk)
     have G := Lh hY
     clear hY hk hb0
     clear hb CR hown
     obtain ⟨X_0, X_1, X_2, X_3, X_4, X_5⟩ := X.out.cfg
     obtain ⟨G_0, G_1⟩ := G.out.two_
     obtain ⟨m3, hm3⟩ : ∃ y, y = moV P T A M W Q S2 [] := ⟨_, rfl⟩
     have P3 := Lh (PO.out S2 A7 x7 A7' x7')
     have HT3 := HT.out
     rw [HT3.1, ← hm3] at P3
     rw [← hm3, ← LN.out] at HT3
     obtain ⟨_, tb, tu, tt⟩ := HT3
     clear hm3 HT
     obtain ⟨⟨vz, az, gz⟩, nz, uz, t3⟩ := m3
     dsimp only at P3 tb tu tt
     subst tb
     subst tu
     obtain ⟨k3, hk3⟩ : ∃ y, y = t3.length := ⟨_, rfl⟩
     rw [← hk3] at P3
     have TT := Lh tt
     clear hk3 tt
     go_wp2_with fail
     clear X_0 X_1 X_2 X_3 X_4 X_5 G_0 G_1
     obtain ⟨v11, hv11⟩ : ∃ y, y = v10.alloc (.cells #[.slice A7 S2.length x7, .slice A7' 0 x7'] 25) := ⟨_, rfl⟩
     rw [← hv11] at B X Y DQ NB NF RC Z R2 V DG G ⊢
     clear hv11
     refine (P3.out _ DG.out SM2.out).mono ?_
     rintro e v12 ⟨A8, x8, rfl, hown, hb⟩
     obtain ⟨hY, hk⟩ := met_box v12 vz az gz nz 0 A8 k3 x8
     have hb0 := hb
     replace hb := hb.trans (hk.mono hb.size)
     have B := Lh (B.out.trans (hb.mono B.out.size))
     have X := Lh (X.out.below hb X.out.lt)
     have Y := Lh (Y.out.below hb Y.out.lt)
     have DQ := Lh (DQ.out.below hb)
     have NB := Lh (NB.out.below hb)
     have NF := Lh (NF.out.below hb)
     have RC := Lh (RC.out.below hb)
     have Z := Lh (Z.out.below hb Z.out.lt)
     have R2 := Lh (R2.out.below hb)
     have V := Lh (V.out.below hb V.out.lt)
     have DG := Lh (DG.out.below hb)
     have G := Lh (G.out.below hb G.out.lt)
     have R3 := Lh ((Recs.of_own hown).below hk)
     have E := Lh hY
     clear hY hk hb0
     clear hb P3 hown
     obtain ⟨Z_0, Z_1, Z_2, Z_3, Z_4, Z_5⟩ := Z.out.met
     obtain ⟨E_0, E_1, E_2, E_3, E_4, E_5⟩ := E.out.met
     obtain ⟨V_0, V_1, V_2, V_3, V_4, V_5⟩ := V.out.met
     have SA := Lh (fun wx h1 h2 => same11_b A8 k3 x8 t3 A4 k2 x4 t2 wx h1 h2)
     have SB := Lh (fun wx h1 h2 => same11_b A8 k3 x8 t3 A3 kt x3 t wx h1 h2)
     by_cases ht : t3 = t2
     ·skip
      rw [decide_eq_true ht] at SA
      clear ht SB
      go_wp2_with fail
      clear Z_0 Z_1 Z_2 Z_3 Z_4 Z_5 E_0 E_1 E_2 E_3 E_4 E_5 V_0 V_1 V_2 V_3 V_4 V_5
      obtain ⟨v13, hv13⟩ : ∃ y, y = v12.alloc (.cells #[.int .u32 vz, .int .i64 az, .int .u64 gz, .int .i64 nz, .int .i64 0, .slice A8 k3 x8] 32) := ⟨_, rfl⟩
      rw [← hv13] at B X Y DQ NB NF RC Z R2 V DG G R3 E ⊢
      clear hv13
      refine (SA.out _ R3.out R2.out).mono ?_
      rintro e v14 ⟨rfl, hb⟩
      have B := Lh (B.out.trans (hb.mono B.out.size))
      have X := Lh (X.out.below hb X.out.lt)
      have Y := Lh (Y.out.below hb Y.out.lt)
      have DQ := Lh (DQ.out.below hb)
      have NB := Lh (NB.out.below hb)
      have NF := Lh (NF.out.below hb)
      have RC := Lh (RC.out.below hb)
      have Z := Lh (Z.out.below hb Z.out.lt)
      have R2 := Lh (R2.out.below hb)
      have V := Lh (V.out.below hb V.out.lt)
      have DG := Lh (DG.out.below hb)
      have G := Lh (G.out.below hb G.out.lt)
      have R3 := Lh (R3.out.below hb)
      have E := Lh (E.out.below hb E.out.lt)
      clear hb
      obtain ⟨E_0, E_1, E_2, E_3, E_4, E_5⟩ := E.out.met
      obtain ⟨Z_0, Z_1, Z_2, Z_3, Z_4, Z_5⟩ := Z.out.met
      go_wp2
      go_ret
      exact ⟨rfl, B.out⟩
     ·skip
      rw [decide_eq_false ht] at SA
      have hmn : many < (nl : Int) ∧ t3 = t := by
       rcases TT.out with h | h
       ·exact absurd h ht
       ·exact h
      rw [decide_eq_true hmn.2] at SB
      have hm1 := hmn.1
      clear ht hmn
      go_wp2_with fail
      clear Z_0 Z_1 Z_2 Z_3 Z_4 Z_5 E_0 E_1 E_2 E_3 E_4 E_5 V_0 V_1 V_2 V_3 V_4 V_5
      obtain ⟨v13, hv13⟩ : ∃ y, y = v12.alloc (.cells #[.int .u32 vz, .int .i64 az, .int .u64 gz, .int .i64 nz, .int .i64 0, .slice A8 k3 x8] 32) := ⟨_, rfl⟩
      rw [← hv13] at B X Y DQ NB NF RC Z R2 V DG G R3 E ⊢
      clear hv13
      refine (SA.out _ R3.out R2.out).mono ?_
      rintro e v14 ⟨rfl, hb⟩
      have B := Lh (B.out.trans (hb.mono B.out.size))
      have X := Lh (X.out.below hb X.out.lt)
      have Y := Lh (Y.out.below hb Y.out.lt)
      have DQ := Lh (DQ.out.below hb)
      have NB := Lh (NB.out.below hb)
      have NF := Lh (NF.out.below hb)
      have RC := Lh (RC.out.below hb)
      have Z := Lh (Z.out.below hb Z.out.lt)
      have R2 := Lh (R2.out.below hb)
      have V := Lh (V.out.below hb V.out.lt)
      have DG := Lh (DG.out.below hb)
      have G := Lh (G.out.below hb G.out.lt)
      have R3 := Lh (R3.out.below hb)
      have E := Lh (E.out.below hb E.out.lt)
      clear hb
      obtain ⟨E_0, E_1, E_2, E_3, E_4, E_5⟩ := E.out.met
      obtain ⟨Z_0, Z_1, Z_2, Z_3, Z_4, Z_5⟩ := Z.out.met
      go_wp2_with fail
      clear E_0 E_1 E_2 E_3 E_4 E_5 Z_0 Z_1 Z_2 Z_3 Z_4 Z_5
      refine (SB.out _ R3.out RC.out).mono ?_
      rintro e v15 ⟨rfl, hb⟩
      have B := Lh (B.out.trans (hb.mono B.out.size))
      have X := Lh (X.out.below hb X.out.lt)
      have Y := Lh (Y.out.below hb Y.out.lt)
      have DQ := Lh (DQ.out.below hb)
      have NB := Lh (NB.out.below hb)
      have NF := Lh (NF.out.below hb)
      have RC := Lh (RC.out.below hb)
      have Z := Lh (Z.out.below hb Z.out.lt)
      have R2 := Lh (R2.out.below hb)
      have V := Lh (V.out.below hb V.out.lt)
      have DG := Lh (DG.out.below hb)
      have G := Lh (G.out.below hb G.out.lt)
      have R3 := Lh (R3.out.below hb)
      have E := Lh (E.out.below hb E.out.lt)
      clear hb
      obtain ⟨E_0, E_1, E_2, E_3, E_4, E_5⟩ := E.out.met
      obtain ⟨Z_0, Z_1, Z_2, Z_3, Z_4, Z_5⟩ := Z.out.met
      go_wp2
      go_ret
      exact ⟨rfl, B.out⟩
   ·skip
    have hL : L = [] := by rw [HL.out]; unfold cmL; rw [if_neg (fun h => hE2 (HE2.out.trans h))]
    subst hL
    obtain rfl : nl = 0 := LN.out
    cases O with
    | false =>
     go_wp2
     go_ret
     exact ⟨rfl, B.out⟩
    | true =>
     go_wp2
     go_ret
     exact ⟨rfl, B.out⟩
  ·skip
   clear hE hm
   obtain ⟨⟨v, a, g⟩, n, u, t⟩ := m
   dsimp only at P1
   obtain ⟨kt, hkt⟩ : ∃ y, y = t.length := ⟨_, rfl⟩
   rw [← hkt] at P1
   clear hkt
   go_wp2_with fail
   clear X_0 X_1 X_2 X_3 X_4 X_5 Y_0 Y_1
   refine (P1.out _ DQ.out SM.out).mono ?_
   rintro e v3 ⟨A3, x3, rfl, hown, hb⟩
   have B := Lh (B.out.trans (hb.mono B.out.size))
   have X := Lh (X.out.below hb X.out.lt)
   have Y := Lh (Y.out.below hb Y.out.lt)
   have DQ := Lh (DQ.out.below hb)
   have NB := Lh (NB.out.below hb)
   have NF := Lh (NF.out.below hb)
   clear hb hown P1
   go_wp2
   go_ret
   exact ⟨rfl, (B.out.alloc B.out.size _)⟩
end Go.Proofs.YtifgcfepbenpjaaGreat
