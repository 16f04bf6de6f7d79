/- Texts of layers 1 to 12, joined. -/
import Derived.Test.YtifgcfepbenpjaaGreatNb49
import Derived.BigRegion
set_option maxRecDepth 100000
set_option maxHeartbeats 12800000
set_option linter.unusedVariables false
namespace Go.Proofs.YtifgcfepbenpjaaGreat
open Go.RowKit
theorem booted12_any (P T A M W Q:Int) (w:World) (hc:mayC P T A M W Q) :
  Calls Tryz.prog 8 #[cfgV P T A M W Q] w (BootedOut P T A M W Q w):=by
 obtain ⟨x,hb0⟩:=box_cfg w P T A M W Q
 obtain ⟨w1,hw1⟩:∃ y,y=w.alloc (.cells #[.int .i64 P,.int .i64 T,.int .i64 A,.int .i64 M,.int .i64 W,.int .i64 Q] 36):=⟨_,rfl⟩
 have hs1:w1.heap.size=w.heap.size + 1:=by rw [hw1];simp
 rw [← hw1] at x hb0
 have y:=Blk.new w1 25 [.slice none 0 0,.slice none 0 0]
 have h2:Below w1.heap.size w1 (w1.alloc (.cells #[.slice none 0 0,.slice none 0 0] 25)):=(Below.refl _ _).alloc (Nat.le_refl _) _
 obtain ⟨w2,hw2⟩:∃ y,y=w1.alloc (.cells #[.slice none 0 0,.slice none 0 0] 25):=⟨_,rfl⟩
 have hs2:w2.heap.size=w1.heap.size + 1:=by rw [hw2];simp
 rw [← hw2] at y h2
 obtain ⟨z,h3⟩:=met_box w2 0 0 0 0 0 none 0 0
 obtain ⟨w0,hw0⟩:∃ y,y=w2.alloc (.cells #[.int .u32 0,.int .i64 0,.int .u64 0,.int .i64 0,.int .i64 0,.slice none 0 0] 32):=⟨_,rfl⟩
 rw [← hw0] at z h3
 have hx:=(x.below h2 x.lt).below h3 (Nat.lt_of_lt_of_le x.lt h2.size)
 have hy:=y.below h3 y.lt
 rw [hs2,hs1] at z
 rw [hs1] at hy
 have hb:=(hb0.trans (h2.mono hb0.size)).trans (h3.mono (hb0.trans (h2.mono hb0.size)).size)
 have X:=Lh hx
 have R1:=Lh hy
 have R2:=Lh z
 have B:=Lh hb
 obtain ⟨hE,_,hmt,hsm,_⟩:=blank_may hc
 obtain ⟨hm1,hm2,hb1,hb2,S',hdn,hinv⟩:=inv_blank hc
 have PS:=Lh (fun wx:World=>psectors_any P T A M W Q wx)
 unfold secN chkC at PS
 rw [if_pos hc,if_pos hc] at PS
 obtain ⟨F,hF⟩:∃ y,y=fE P T A:=⟨_,rfl⟩
 rw [← hF] at PS hE hmt hsm hm1 hm2 hb1 hb2 hdn
 have PN:=Lh (fun wx:World=>pnew_any F wx)
 rw [hE] at PN
 obtain ⟨S0,hS0⟩:∃ y,y=newS F:=⟨_,rfl⟩
 rw [← hS0] at PN hmt hsm hm1 hm2 hb1 hb2 hdn
 have PO:=Lh (fun D d D' d' wx hx=>popen12_any P T A M W Q D S0.length d D' 0 d' S0 [] wx hx hsm)
 rw [hm1,hm2] at PO
 have PB:=Lh (fun D d D' d' Bm cm wx hx hy=>pboot12_any P T A M W Q D S0.length d D' 0 d' S0 [] 0 0 0 0 0 Bm 0 cm [] wx hx hsm ⟨⟨by decide,by decide⟩,⟨by decide,by decide⟩⟩ hy (by decide))
 rw [hb1,hb2] at PB
 obtain ⟨L,hL⟩:∃ y,y=bootA P T A M W Q S0 [] ⟨(0,0,0),0,0,[]⟩:=⟨_,rfl⟩
 rw [← hL] at PB hdn
 have hLn:L.length≤1000:=by
  rw [hL]
  unfold bootA
  rw [if_pos hb1,actsA_length]
  have:=sp_one P T A M W Q S0 [] (bootS ⟨(0,0,0),0,0,[]⟩)
  omega
 have INV:=Lh (And.intro hinv (And.intro hsm hdn))
 have HLN:=Lh hLn
 unfold MetOut at PO
 unfold PlanOutB at PB
 dsimp only [List.length_nil] at PO PB
 clear x y z h2 h3 hx hy hb0 hb hs1 hs2 hE hmt hsm hm1 hm2 hb1 hb2 hdn hinv hL hLn hF hS0 hc
 obtain ⟨X_0,X_1,X_2,X_3,X_4,X_5⟩:=X.out.cfg
 go_enter Tryz.func8,Tryz.ntmps8
 go_wp2_with fail
 rw [← hw1,← hw2,← hw0]
 clear hw1 hw2 hw0
 clear X_0 X_1 X_2 X_3 X_4 X_5
 refine (PS.out _).mono ?_
 rintro e v1 ⟨rfl,hb⟩
 have B:=Lh (B.out.trans (hb.mono B.out.size))
 have X:=Lh (X.out.below hb X.out.lt)
 have R1:=Lh (R1.out.below hb R1.out.lt)
 have R2:=Lh (R2.out.below hb R2.out.lt)
 clear hb PS
 obtain ⟨X_0,X_1,X_2,X_3,X_4,X_5⟩:=X.out.cfg
 go_wp2_with fail
 clear X_0 X_1 X_2 X_3 X_4 X_5
 have B0:=B.out.size
 refine (PN.out _).mono ?_
 rintro e v2 ⟨A4,k4,A4',k4',rfl,hown,hb⟩
 have hY:=Blk.new v2 25 [.slice A4 S0.length k4,.slice A4' 0 k4']
 have hk:Below v2.heap.size v2 (v2.alloc (.cells #[.slice A4 S0.length k4,.slice A4' 0 k4'] 25)):=(Below.refl _ _).alloc (Nat.le_refl _) _
 have hb0:=hb
 replace hb:=hb.trans (hk.mono hb.size)
 have B:=Lh (B.out.trans (hb.mono B.out.size))
 have X:=Lh (X.out.below hb X.out.lt)
 have R1:=Lh (R1.out.below hb R1.out.lt)
 have R2:=Lh (R2.out.below hb R2.out.lt)
 have DD:=Lh ((hown.lower B0).below hk)
 have Y:=Lh hY
 clear hY hk hb0
 clear hb PN hown B0
 obtain ⟨X_0,X_1,X_2,X_3,X_4,X_5⟩:=X.out.cfg
 obtain ⟨Y_0,Y_1⟩:=Y.out.two_
 go_wp2_with fail
 clear X_0 X_1 X_2 X_3 X_4 X_5 Y_0 Y_1
 obtain ⟨v3,hv3⟩:∃ y,y=v2.alloc (.cells #[.slice A4 S0.length k4,.slice A4' 0 k4'] 25):=⟨_,rfl⟩
 rw [← hv3] at B X R1 R2 DD Y ⊢
 clear hv3
 refine (PO.out _ _ _ _ _ (Dsk.of_own DD.out)).mono ?_
 rintro e v4 ⟨A6,k6,rfl,hown,hb⟩
 obtain ⟨hY,hk⟩:=met_box v4 0 0 0 0 0 A6 0 k6
 have hb0:=hb
 replace hb:=hb.trans (hk.mono hb.size)
 have B:=Lh (B.out.trans (hb.mono B.out.size))
 have X:=Lh (X.out.below hb X.out.lt)
 have R1:=Lh (R1.out.below hb R1.out.lt)
 have R2:=Lh (R2.out.below hb R2.out.lt)
 have DD:=Lh (DD.out.below hb)
 have Y:=Lh (Y.out.below hb Y.out.lt)
 have RC:=Lh ((Recs.of_own hown).below hk)
 have Z:=Lh hY
 clear hY hk hb0
 clear hb PO hown
 obtain ⟨X_0,X_1,X_2,X_3,X_4,X_5⟩:=X.out.cfg
 obtain ⟨Y_0,Y_1⟩:=Y.out.two_
 obtain ⟨Z_0,Z_1,Z_2,Z_3,Z_4,Z_5⟩:=Z.out.met
 go_wp2_with fail
 clear X_0 X_1 X_2 X_3 X_4 X_5 Y_0 Y_1 Z_0 Z_1 Z_2 Z_3 Z_4 Z_5
 obtain ⟨v5,hv5⟩:∃ y,y=v4.alloc (.cells #[.int .u32 0,.int .i64 0,.int .u64 0,.int .i64 0,.int .i64 0,.slice A6 0 k6] 32):=⟨_,rfl⟩
 rw [← hv5] at B X R1 R2 DD Y RC Z ⊢
 clear hv5
 have B0:=B.out.size
 have L0:=R2.out.lt
 refine (PB.out _ _ _ _ _ _ _ (Dsk.of_own DD.out) RC.out).mono ?_
 rintro e v6 ⟨A8,k8,A9,k9,rfl,hown,hacts,hb⟩
 clear X
 clear RC
 clear Z
 obtain ⟨hY,hk⟩:=met_box v6 1 0 0 0 0 A8 0 k8
 have hb0:=hb
 replace hb:=hb.trans (hk.mono hb.size)
 have B:=Lh (B.out.trans (hb.mono B.out.size))
 have R1:=Lh (R1.out.below hb R1.out.lt)
 have R2:=Lh (R2.out.below hb R2.out.lt)
 have DD:=Lh (DD.out.below hb)
 have Y:=Lh (Y.out.below hb Y.out.lt)
 have RC:=Lh ((hown.lower B0).below hk)
 have AC:=Lh (hacts.below hk)
 have LZ:=Lh (Nat.lt_of_lt_of_le L0 hb0.size)
 have Z:=Lh hY
 clear hY hk hb0
 clear hb PB hown hacts B0 L0
 obtain ⟨Y_0,Y_1⟩:=Y.out.two_
 obtain ⟨Z_0,Z_1,Z_2,Z_3,Z_4,Z_5⟩:=Z.out.met
 go_wp2_with fail
 clear Y_0 Y_1 Z_0 Z_1 Z_2 Z_3 Z_4 Z_5
 obtain ⟨v7,hv7⟩:∃ y,y=v6.alloc (.cells #[.int .u32 1,.int .i64 0,.int .u64 0,.int .i64 0,.int .i64 0,.slice A8 0 k8] 32):=⟨_,rfl⟩
 rw [← hv7] at B R1 R2 DD Y RC AC Z ⊢
 clear hv7
 obtain ⟨LA,hoa,hax⟩:=AC.out.is
 have DN:=Lh (done12_any A4 k4 A4' k4' S0 [] A9 L.length k9 _ LA L L.length S' [] _ (Dsk.of_own DD.out) INV.out.2.1 hoa hax (INV.out.2.2 _ (by simp)) AC.out.byte HLN.out)
 clear hoa hax
 have B0:=B.out.size
 have DD0:=Lh DD.out
 have L0:=R2.out.lt
 refine (DN.out).mono ?_
 rintro e v8 ⟨A10,k10,A10',k10',rfl,hdk,hsk,hb⟩
 clear AC
 clear Y
 have hY:=Blk.new v8 25 [.slice A10 S'.length k10,.slice A10' 0 k10']
 have hk:Below v8.heap.size v8 (v8.alloc (.cells #[.slice A10 S'.length k10,.slice A10' 0 k10'] 25)):=(Below.refl _ _).alloc (Nat.le_refl _) _
 have hb0:=hb
 replace hb:=hb.trans (hk.mono hb.size)
 have B:=Lh (B.out.trans (hb.mono B.out.size))
 have R1:=Lh (R1.out.below hb R1.out.lt)
 have R2:=Lh (R2.out.below hb R2.out.lt)
 have DD:=Lh (DD.out.below hb)
 have RC:=Lh (RC.out.below hb)
 have Z:=Lh (Z.out.below hb Z.out.lt)
 have DD:=Lh ((hdk.own (DD0.out.below hb0) B0).below hk)
 have LY:=Lh (Nat.lt_of_lt_of_le L0 hb0.size)
 have Y:=Lh hY
 clear hY hk hb0
 clear hb DN hdk B0 DD0 L0
 obtain ⟨Y_0,Y_1⟩:=Y.out.two_
 obtain ⟨Z_0,Z_1,Z_2,Z_3,Z_4,Z_5⟩:=Z.out.met
 obtain ⟨R1_0,R1_1⟩:=R1.out.two_
 obtain ⟨R2_0,R2_1,R2_2,R2_3,R2_4,R2_5⟩:=R2.out.met
 have f0:=R1.out.free 0
 have f1:=R1.out.free 1
 have g0:=R2.out.free
 go_upto_region 6 with fail
 obtain ⟨v,hv⟩:∃ y,y=v8.alloc (.cells #[.slice A10 S'.length k10,.slice A10' 0 k10'] 25):=⟨_,rfl⟩
 rw [← hv] at B R1 R2 DD RC Z Y Y_0 Y_1 Z_0 Z_1 Z_2 Z_3 Z_4 Z_5 R1_0 R1_1 R2_0 R2_1 R2_2 R2_3 R2_4 R2_5 f0 f1 g0 ⊢
 obtain ⟨yb,hyb⟩:∃ y,y=v8.heap.size:=⟨_,rfl⟩
 obtain ⟨zb,hzb⟩:∃ y,y=v6.heap.size:=⟨_,rfl⟩
 have ny:w.heap.size + 1 + 1 < yb:=by rw [hyb];exact LY.out
 have nz:w.heap.size + 1 + 1 < zb:=by rw [hzb];exact LZ.out
 rw [← hyb] at Y Y_0 Y_1 ⊢
 rw [← hzb] at Z Z_0 Z_1 Z_2 Z_3 Z_4 Z_5 ⊢
 clear hv hyb hzb LY LZ
 have keepX:∀ wx,Blk wx yb 25 [.slice A10 S'.length k10,.slice A10' 0 k10']→Blk wx zb 32 (metL 1 0 0 0 0 A8 0 k8)→wx.cell? ⟨yb,0,none⟩=some (.slice A10 S'.length k10)∧wx.cell? ⟨yb,1,none⟩=some (.slice A10' 0 k10')∧wx.cell? ⟨zb,0,none⟩=some (.int .u32 1)∧wx.cell? ⟨zb,1,none⟩=some (.int .i64 0)∧wx.cell? ⟨zb,2,none⟩=some (.int .u64 0)∧wx.cell? ⟨zb,3,none⟩=some (.int .i64 0)∧wx.cell? ⟨zb,4,none⟩=some (.int .i64 0)∧wx.cell? ⟨zb,5,none⟩=some (.slice A8 0 k8):=fun wx hy hz=>by
  obtain ⟨a0,a1⟩:=hy.two_
  obtain ⟨b0,b1,b2,b3,b4,b5⟩:=hz.met
  exact ⟨a0,a1,b0,b1,b2,b3,b4,b5⟩
 have kD:∀ {wx:World} {H:Nat} {t:TypeId} {cs:List Value},Blk wx H t cs→Blk wx.drew H t cs:=fun h=>h.below ((Below.refl _ _).drew) h.lt
 have k0:=keepX _ (kD Y.out) (kD Z.out)
 have y1:=((Y.out.away (g':=w.heap.size + 1) (by omega) 0 (.slice A10 S'.length k10)).away (g':=w.heap.size + 1) (by omega) 1 (.slice A10' 0 k10'))
 have z1:=((Z.out.away (g':=w.heap.size + 1) (by omega) 0 (.slice A10 S'.length k10)).away (g':=w.heap.size + 1) (by omega) 1 (.slice A10' 0 k10'))
 have k1:=keepX _ (kD y1) (kD z1)
 have k2:=keepX _ (kD (y1.sixOff (G:=w.heap.size + 1 + 1) (by omega) 1 0 0 0 0 A8 0 k8)) (kD (z1.sixOff (G:=w.heap.size + 1 + 1) (by omega) 1 0 0 0 0 A8 0 k8))
 clear keepX kD y1 z1
 go_region_held3 (fun w'=>w'.cell? ⟨yb,0,none⟩=some (.slice A10 S'.length k10)∧w'.cell? ⟨yb,1,none⟩=some (.slice A10' 0 k10')∧w'.cell? ⟨zb,0,none⟩=some (.int .u32 1)∧w'.cell? ⟨zb,1,none⟩=some (.int .i64 0)∧w'.cell? ⟨zb,2,none⟩=some (.int .u64 0)∧w'.cell? ⟨zb,3,none⟩=some (.int .i64 0)∧w'.cell? ⟨zb,4,none⟩=some (.int .i64 0)∧w'.cell? ⟨zb,5,none⟩=some (.slice A8 0 k8))
  (first | with_reducible exact k0 | with_reducible exact k1 | with_reducible exact k2) (fail)
 clear k0 k1 k2 Y_0 Y_1 Z_0 Z_1 Z_2 Z_3 Z_4 Z_5 R1_0 R1_1 R2_0 R2_1 R2_2 R2_3 R2_4 R2_5 f0 f1 g0
 have BX:=R1.out.two (.slice A10 S'.length k10) (.slice A10' 0 k10')
 have BM:=(R2.out.away (g':=w.heap.size + 1) (by omega) 0 (.slice A10 S'.length k10)).away (g':=w.heap.size + 1) (by omega) 1 (.slice A10' 0 k10')
 have BY:=BX.sixOff (G:=w.heap.size + 1 + 1) (by omega) 1 0 0 0 0 A8 0 k8
 have BZ:=BM.sixM 1 0 0 0 0 A8 0 k8
 have FD:=Lh (BY.below ((Below.refl _ _).drew) BY.lt)
 have FM:=Lh (BZ.below ((Below.refl _ _).drew) BZ.lt)
 have FO:=Lh (((DD.out.two R1.out (.slice A10 S'.length k10) (.slice A10' 0 k10')).sixM BM 1 0 0 0 0 A8 0 k8).below ((Below.refl _ _).drew))
 have FR:=Lh ((((RC.out.boxD R1.out 0 (.slice A10 S'.length k10)).boxD (R1.out.set 0 _) 1 (.slice A10' 0 k10')).boxSix BM 1 0 0 0 0 A8 0 k8).below ((Below.refl _ _).drew))
 have FB:=Lh ((below_sixM (below_two B.out (show w.heap.size≤w.heap.size + 1 by omega) (.slice A10 S'.length k10) (.slice A10' 0 k10')) (show w.heap.size≤w.heap.size + 1 + 1 by omega) 1 0 0 0 0 A8 0 k8).drew)
 clear BX BM BY BZ B R1 R2 DD RC Z Y
 go_wp2
 obtain ⟨a0,a1⟩:=FD.out.two_
 obtain ⟨b0,b1,b2,b3,b4,b5⟩:=FM.out.met
 refine bodyPost_ret (v:=.tuple #[diskV A10 S'.length k10 A10' 0 k10',metV 1 0 0 0 0 A8 0 k8,.bool true]) ?_ rfl ⟨S',A10,k10,A10',k10',A8,k8,rfl,FO.out,hsk,FR.out,INV.out.1,FB.out⟩
 clear FD FM FO FR FB
 simp [results,Tryz.f8,go_sem,a0,a1,b0,b1,b2,b3,b4,b5]
theorem alive12_any (w:World):Calls Tryz.prog 16 #[] w fun e w'=>e=.returned (.bool true)∧Below w.heap.size w w' :=
 alive12_of w fun wx=>booted12_any 2 9 4 2 2 8 wx (by unfold mayC;decide)
end Go.Proofs.YtifgcfepbenpjaaGreat
