/- Texts of layers 1 to 12, joined. -/
import Derived.Test.YtifgcfepbenpjaaGreatNb30
set_option maxRecDepth 100000
set_option maxHeartbeats 12800000
set_option linter.unusedVariables false
namespace Go.Proofs.YtifgcfepbenpjaaGreat
open Go.RowKit
theorem precin_any (A:Option Addr) (n c:Nat) (t:Txt) (w:World) (ht:Arg w .u8 A n c t) (hby:∀ z ∈ t,isByte z) (hn:n≤1000):Calls Tryz.prog 149 #[.slice A n c] w (OfOut w t):=by
 have hlen:=ht.len
 obtain ⟨x,hbel⟩:=rec_box w zR
 have hbel:Below w.heap.size w (w.alloc (.cells #[.int .i64 0,.int .u32 0,.int .u32 0,.int .i64 0,.int .u8 0,.int .i64 0,.bool false,.bool false] 64)):=hbel
 change Blk (w.alloc (.cells #[.int .i64 0,.int .u32 0,.int .u32 0,.int .i64 0,.int .u8 0,.int .i64 0,.bool false,.bool false] 64)) _ _ _ at x
 have HA:=Lh (ht.below hbel)
 obtain ⟨v1,hv1⟩:∃ x,x=w.alloc (.cells #[.int .i64 0,.int .u32 0,.int .u32 0,.int .i64 0,.int .u8 0,.int .i64 0,.bool false,.bool false] 64):=⟨_,rfl⟩
 rw [← hv1] at x hbel HA
 have X:=Lh x
 have B:=Lh hbel
 have hlt:=x.lt
 unfold OfOut
 by_cases h14:n=14
 ·subst h14
  have hnm:=nums8_eq hlen
  have hiff:=bit_iff hlen hby
  have hi:=bit_is hlen hby
  have RAW:=Lh (fun (k:isN t)=>bit_raw hby k.2.2.1)
  have hde:decide (ntB (bitR t)=t)=decide (isN t):=decide_eq_decide.2 hiff
  have EQ:=Lh (fun (A':Option Addr) (n' c':Nat) wx (h1:Arg wx .u8 A' n' c' (ntB (bitR t))) (h2:Arg wx .u8 A 14 c t)=>pequal11_any A' n' c' (ntB (bitR t)) A 14 c t wx h1 h2 (ntB_byte _) hby)
  rw [hde] at EQ
  have NP:=Lh (fun wx=>pnote11_any (bitR t) wx hi)
  unfold RowOut at NP
  obtain ⟨b1,hb1⟩:∃ b,b=ntB (bitR t):=⟨_,rfl⟩
  obtain ⟨E1,hE1⟩:∃ b,b=rcE (bitR t):=⟨_,rfl⟩
  rw [← hb1,← hE1] at NP
  rw [← hb1] at EQ
  obtain ⟨x0,hx0⟩:∃ x,x=t.getD 0 0:=⟨_,rfl⟩
  obtain ⟨x1,hx1⟩:∃ x,x=t.getD 1 0:=⟨_,rfl⟩
  obtain ⟨x10,hx10⟩:∃ x,x=t.getD 10 0:=⟨_,rfl⟩
  obtain ⟨x11,hx11⟩:∃ x,x=t.getD 11 0:=⟨_,rfl⟩
  obtain ⟨x12,hx12⟩:∃ x,x=t.getD 12 0:=⟨_,rfl⟩
  obtain ⟨x13,hx13⟩:∃ x,x=t.getD 13 0:=⟨_,rfl⟩
  obtain ⟨V1,hV1⟩:∃ x,x=val ((t.drop 2).take 4):=⟨_,rfl⟩
  obtain ⟨V2,hV2⟩:∃ x,x=val ((t.drop 6).take 4):=⟨_,rfl⟩
  have y1:=byte_getD11 hby 1
  have y10:=byte_getD11 hby 10
  have y11:=byte_getD11 hby 11
  have y12:=byte_getD11 hby 12
  have y13:=byte_getD11 hby 13
  rw [← hx0,← hx1,← hx10,← hx11,← hx12,← hx13,← hV1,← hV2] at hnm
  rw [← hx1] at y1
  rw [← hx10] at y10
  rw [← hx11] at y11
  rw [← hx12] at y12
  rw [← hx13] at y13
  unfold isByte at y1 y10 y11 y12 y13
  obtain ⟨q,hq⟩:∃ q,q=decide (x13 / 2 % 2=1):=⟨_,rfl⟩
  obtain ⟨a,ha⟩:∃ q,q=decide (x13 % 2=1):=⟨_,rfl⟩
  have hraw:bitR t=⟨x1,V1,V2,x10,x11,x12,q,a⟩:=by rw [hq,ha,hx1,hV1,hV2,hx10,hx11,hx12,hx13];rfl
  rw [hraw] at NP RAW hi
  obtain ⟨⟨i1,i2⟩,⟨i3,i4⟩,_⟩:=hi
  dsimp only at i1 i2 i3 i4
  have e1:IntKind.i64.wrap x1=x1:=by rw [IntKind.wrap_i64];omega
  have e2:IntKind.u32.wrap V1=V1:=by rw [IntKind.wrap_u32];omega
  have e3:IntKind.u32.wrap V2=V2:=by rw [IntKind.wrap_u32];omega
  have e4:IntKind.i64.wrap x10=x10:=by rw [IntKind.wrap_i64];omega
  have e5:IntKind.i64.wrap x12=x12:=by rw [IntKind.wrap_i64];omega
  have e6:IntKind.u8.wrap x11=x11:=by rw [IntKind.wrap_u8];omega
  have e7:(bits .and .u64 x13 2 != 0)=q:=(and_two y13.1 y13.2).trans hq.symm
  have e8:(bits .and .u64 x13 1 != 0)=a:=(and_one y13.1 y13.2).trans ha.symm
  have HNM:=Lh hnm
  have HB:=Lh hby
  have HL:=Lh hlen
  clear hiff hde hb1 hE1 hx0 hx1 hx10 hx11 hx12 hx13 hV1 hV2 hnm hby hlen ht hn hq ha hraw i1 i2 i3 i4 y1 y10 y11 y12 y13 x hbel
  go_enter Tryz.func149,Tryz.ntmps149
  go_wp2_with fail
  rw [← hv1]
  clear hv1
  refine (psizes8_any _).mono ?_
  rintro e w1 ⟨gS,rfl,hAS,hb⟩
  have B:=Lh (B.out.trans (hb.mono B.out.size))
  have X:=Lh (X.out.below hb hlt)
  have hlt:w.heap.size < w1.heap.size:=X.out.lt
  have HAS:=Lh hAS
  have RT:=Lh (HA.out.below hb)
  clear hb hAS
  go_wp2_with fail
  refine (read_ok A (some ⟨gS,0,none⟩) 14 c 8 8 t sz8R _ HAS.out.seq rfl okB_sz8R RT.out.seq HL.out at_sz8R.symm RT.out.cap RT.out.max HB.out).mono ?_
  intro e w2 hout
  obtain ⟨A2,c2,rfl,hown,hb⟩:=hout.len (zs':=[x0,x1,V1,V2,x10,x11,x12,x13]) (n:=8) HNM.out rfl
  have B:=Lh (B.out.trans (hb.mono B.out.size))
  have X:=Lh (X.out.below hb hlt)
  have hlt:w.heap.size < w2.heap.size:=X.out.lt
  have RT:=Lh (RT.out.below hb)
  obtain ⟨g,rfl,_⟩:=eight_at hown
  have keepX:∀ wx,Below w2.heap.size w2 wx→wx.cell? ⟨g,0,none⟩=some (.int .u64 x0)∧wx.cell? ⟨g,1,none⟩=some (.int .u64 x1)∧wx.cell? ⟨g,2,none⟩=some (.int .u64 V1)∧wx.cell? ⟨g,3,none⟩=some (.int .u64 V2)∧wx.cell? ⟨g,4,none⟩=some (.int .u64 x10)∧wx.cell? ⟨g,5,none⟩=some (.int .u64 x11)∧wx.cell? ⟨g,6,none⟩=some (.int .u64 x12)∧wx.cell? ⟨g,7,none⟩=some (.int .u64 x13):=fun wx hx=>by
   obtain ⟨b,e,h⟩:=eight_at (owns_below hown hx)
   injection e with e;injection e with e;subst e
   exact h
  clear hown hb hout HB HL HNM HAS HA
  go_upto_region 4 with fail
  have hcur:Below w2.heap.size w2 w2.drew:=below_drewN (Below.refl _ _) 1
  have hkX:=keepX _ hcur
  go_region_held3 (fun w'=>w'.cell? ⟨g,0,none⟩=some (.int .u64 x0)∧w'.cell? ⟨g,1,none⟩=some (.int .u64 x1)∧w'.cell? ⟨g,2,none⟩=some (.int .u64 V1)∧w'.cell? ⟨g,3,none⟩=some (.int .u64 V2)∧w'.cell? ⟨g,4,none⟩=some (.int .u64 x10)∧w'.cell? ⟨g,5,none⟩=some (.int .u64 x11)∧w'.cell? ⟨g,6,none⟩=some (.int .u64 x12)∧w'.cell? ⟨g,7,none⟩=some (.int .u64 x13))
   (first | exact hkX | exact keepX _ (hcur.alloc hcur.size _) | exact keepX _ (below_drewN ((Below.refl _ _).alloc (Nat.le_refl _) _) 1) | go_keep)
   (fail)
  have hbk:Below w2.heap.size w2 (w2.alloc (.cells #[.int .i64 x1,.int .u32 V1,.int .u32 V2,.int .i64 x10,.int .u8 x11,.int .i64 x12,.bool q,.bool a] 64)).drew:=below_drewN ((Below.refl _ _).alloc (Nat.le_refl _) _) 1
  have hY:=Blk.new w2 64 (recL ⟨x1,V1,V2,x10,x11,x12,q,a⟩)
  have hY:=hY.below (below_drewN (Below.refl _ _) 1) hY.lt
  obtain ⟨w3,hw3⟩:∃ x:World,x=(w2.alloc (.cells #[.int .i64 x1,.int .u32 V1,.int .u32 V2,.int .i64 x10,.int .u8 x11,.int .i64 x12,.bool q,.bool a] 64)).drew:=⟨_,rfl⟩
  obtain ⟨G3,hG3⟩:∃ x,x=w2.heap.size:=⟨_,rfl⟩
  rw [← hG3] at hY ⊢
  change Blk ((w2.alloc (.cells #[.int .i64 x1,.int .u32 V1,.int .u32 V2,.int .i64 x10,.int .u8 x11,.int .i64 x12,.bool q,.bool a] 64)).drew) _ _ _ at hY
  rw [← hw3] at hbk hY ⊢
  have B:=Lh (B.out.trans (hbk.mono B.out.size))
  have X:=Lh (X.out.below hbk hlt)
  have hlt:w.heap.size < w3.heap.size:=X.out.lt
  have RT:=Lh (RT.out.below hbk)
  have Y:=Lh hY
  have hltY:G3 < w3.heap.size:=hY.lt
  obtain ⟨y0,y1,y2,y3,y4,y5,y6,y7⟩:=Blk.rec (r:=⟨x1,V1,V2,x10,x11,x12,q,a⟩) hY
  clear hw3 hG3 hbk hY hcur hkX keepX e1 e2 e3 e4 e5 e6 e7 e8
  go_wp2_with fail
  refine (NP.out _).mono ?_
  rintro e w4 ⟨A4,c4,rfl,hown,hb⟩
  have B:=Lh (B.out.trans (hb.mono B.out.size))
  have X:=Lh (X.out.below hb hlt)
  have RT:=Lh (RT.out.below hb)
  have R4:=Lh (Arg.own hown)
  have Y:=Lh (Y.out.below hb hltY)
  clear hb hown y0 y1 y2 y3 y4 y5 y6 y7 hlt hltY
  go_wp2_with fail
  refine (EQ.out _ _ _ _ R4.out RT.out).mono ?_
  rintro e wE ⟨rfl,rfl⟩
  clear R4 RT EQ NP
  by_cases hg:isN t
  ·rw [decide_eq_true hg]
   have HG:=Lh hg
   have HR:=Lh (RAW.out hg)
   clear hg RAW
   obtain ⟨y0,y1,y2,y3,y4,y5,y6,y7⟩:=Blk.rec (r:=⟨x1,V1,V2,x10,x11,x12,q,a⟩) Y.out
   have hz:Blk (wE.setRow w.heap.size (recL ⟨x1,V1,V2,x10,x11,x12,q,a⟩).toArray) w.heap.size 64 (recL ⟨x1,V1,V2,x10,x11,x12,q,a⟩):=setRow_heap wE w.heap.size _ _ _ _ X.out
   have BF:=Lh (below_setRow B.out (Nat.le_refl _) (recL ⟨x1,V1,V2,x10,x11,x12,q,a⟩).toArray)
   go_wp2_with (refine wpList_store_row (o:=⟨none,.store 64 (.tmp 2) (.tmp 63),_,_,_,_⟩) rfl 64 (.tmp 2) (.tmp 63) rfl w.heap.size (recL ⟨x1,V1,V2,x10,x11,x12,q,a⟩).toArray rfl rfl 64 _ X.out (by kernel_rfl) rfl (by simp [recL,Value.oneCell']) ?_)
   obtain ⟨w5,hw5⟩:∃ x,x=wE.setRow w.heap.size (recL ⟨x1,V1,V2,x10,x11,x12,q,a⟩).toArray:=⟨_,rfl⟩
   rw [← hw5] at hz BF
   rw [← hw5]
   clear hw5
   obtain ⟨z0,z1,z2,z3,z4,z5,z6,z7⟩:=Blk.rec (r:=⟨x1,V1,V2,x10,x11,x12,q,a⟩) hz
   refine bodyPost_ret (v:=.tuple #[recV ⟨x1,V1,V2,x10,x11,x12,q,a⟩,.bool true]) ?_ rfl ⟨.inl ⟨HG.out,by rw [← HR.out]⟩,BF.out⟩
   simp [results,Tryz.f149,go_sem,z0,z1,z2,z3,z4,z5,z6,z7]
  ·rw [decide_eq_false hg]
   have HG:=Lh hg
   clear hg RAW
   have hz:Blk (wE.setRow w.heap.size (recL zR).toArray) w.heap.size 64 (recL zR):=setRow_heap wE w.heap.size _ _ _ _ X.out
   have BF:=Lh (below_setRow B.out (Nat.le_refl _) (recL zR).toArray)
   go_wp2_with (refine wpList_store_row (o:=⟨none,.store 64 (.tmp 2) (.tmp 62),_,_,_,_⟩) rfl 64 (.tmp 2) (.tmp 62) rfl w.heap.size (recL zR).toArray rfl rfl 64 _ X.out (by kernel_rfl) rfl (by simp [recL,Value.oneCell']) ?_)
   obtain ⟨w5,hw5⟩:∃ x,x=wE.setRow w.heap.size (recL zR).toArray:=⟨_,rfl⟩
   rw [← hw5] at hz BF
   rw [← hw5]
   clear hw5
   obtain ⟨z0,z1,z2,z3,z4,z5,z6,z7⟩:=Blk.rec (r:=zR) hz
   unfold zR at z0 z1 z2 z3 z4 z5 z6 z7
   dsimp only at z0 z1 z2 z3 z4 z5 z6 z7
   refine bodyPost_ret (v:=.tuple #[recV zR,.bool false]) ?_ rfl ⟨.inr ⟨HG.out,zR,rfl⟩,BF.out⟩
   simp [results,Tryz.f149,go_sem,zR,z0,z1,z2,z3,z4,z5,z6,z7]
 ·have HN:=Lh (show ¬ isN t from fun k=>h14 (hlen.symm.trans k.1))
  clear ht hby hlen x hbel
  go_enter Tryz.func149,Tryz.ntmps149
  go_wp2_with fail
  rw [← hv1]
  clear hv1
  refine (psizes8_any _).mono ?_
  rintro e w1 ⟨gS,rfl,hAS,hb⟩
  have B:=Lh (B.out.trans (hb.mono B.out.size))
  have X:=Lh (X.out.below hb hlt)
  have HAS:=Lh hAS
  clear hb hAS hlt
  go_wp2_with fail
  refine (read_short A (some ⟨gS,0,none⟩) n c 8 8 sz8R _ _ HAS.out.seq rfl okB_sz8R (by rw [at_sz8R];exact h14) hn).mono ?_
  rintro e wE ⟨rfl,rfl⟩
  have hz:Blk (w1.setRow w.heap.size (recL zR).toArray) w.heap.size 64 (recL zR):=setRow_heap w1 w.heap.size _ _ _ _ X.out
  have BF:=Lh (below_setRow B.out (Nat.le_refl _) (recL zR).toArray)
  go_wp2_with (refine wpList_store_row (o:=⟨none,.store 64 (.tmp 2) (.tmp 17),_,_,_,_⟩) rfl 64 (.tmp 2) (.tmp 17) rfl w.heap.size (recL zR).toArray rfl rfl 64 _ X.out (by kernel_rfl) rfl (by simp [recL,Value.oneCell']) ?_)
  obtain ⟨w5,hw5⟩:∃ x,x=w1.setRow w.heap.size (recL zR).toArray:=⟨_,rfl⟩
  rw [← hw5] at hz BF
  rw [← hw5]
  clear hw5
  obtain ⟨z0,z1,z2,z3,z4,z5,z6,z7⟩:=Blk.rec (r:=zR) hz
  unfold zR at z0 z1 z2 z3 z4 z5 z6 z7
  dsimp only at z0 z1 z2 z3 z4 z5 z6 z7
  refine bodyPost_ret (v:=.tuple #[recV zR,.bool false]) ?_ rfl ⟨.inr ⟨HN.out,zR,rfl⟩,BF.out⟩
  simp [results,Tryz.f149,go_sem,zR,z0,z1,z2,z3,z4,z5,z6,z7]
end Go.Proofs.YtifgcfepbenpjaaGreat
