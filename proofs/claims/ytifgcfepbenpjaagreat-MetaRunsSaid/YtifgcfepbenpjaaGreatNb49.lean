/- Texts of layers 1 to 12, joined. -/
import Derived.Test.YtifgcfepbenpjaaGreatNb48
import Derived.Deep.RegionWith
import Derived.Deep.Cut
set_option maxRecDepth 100000
set_option maxHeartbeats 12800000
set_option linter.unusedVariables false
namespace Go.Proofs.YtifgcfepbenpjaaGreat
open Go.RowKit
def AlInv (w:World) (h1 h2:Nat) (i:Value) (wr:World):Prop:=∃ (j:Nat) (S:List Sec) (D:Option Addr) (d:Nat) (D':Option Addr) (d':Nat) (B:Option Addr) (c:Nat),j≤5∧i=.int .i64 j∧Blk wr h1 25 [.slice D S.length d,.slice D' 0 d']∧Blk wr h2 32 (metL (alM j).s.1 (alM j).s.2.1 (alM j).s.2.2 (alM j).n (alM j).u B (alM j).t.length c)∧OwnDsk wr w.heap.size D S.length d D' 0 d' S []∧SmallD S []∧OwnRecs wr w.heap.size B (alM j).t.length c (alM j).t∧Inv12 2 9 4 2 2 8 S (alM j) (j:Int)∧Below w.heap.size w wr
theorem al_small (k:Nat):(alM k).t.length≤1:=by
 unfold alM
 split
 ·exact Nat.zero_le _
 ·split <;> exact Nat.le_refl _
theorem alive12_of (w:World) (hBO:∀ wx:World,Calls Tryz.prog 8 #[cfgV 2 9 4 2 2 8] wx (BootedOut 2 9 4 2 2 8 wx)):Calls Tryz.prog 16 #[] w fun e w'=>e=.returned (.bool true)∧Below w.heap.size w w':=by
 have TW:=Lh (fun wx:World=>two12_any wx)
 have BO:=Lh hBO
 clear hBO
 have PO:=Lh (fun S D d D' d' wx hx hs=>popen12_any 2 9 4 2 2 8 D S.length d D' 0 d' S [] wx hx hs)
 go_enter Tryz.func16,Tryz.ntmps16
 go_wp2_with fail
 refine (TW.out _).mono ?_
 rintro e w1 ⟨rfl,hb1⟩
 go_wp2_with fail
 refine (BO.out _).mono ?_
 rintro e w2 ⟨S0,D0,d0,D0',d0',B0,k0,rfl,hd0,hs0,hr0,hi0,hb2⟩
 have HB:=Lh (hb1.trans (hb2.mono hb1.size))
 have HD:=Lh hd0
 have HS:=Lh hs0
 have HR:=Lh hr0
 have HI:=Lh hi0
 have HB1:=Lh hb1.size
 clear hb1 hb2 hd0 hs0 hr0 hi0 BO
 obtain ⟨hm,hk⟩:=met_box (w2.alloc (.cells #[.slice D0 S0.length d0,.slice D0' 0 d0'] 25)) 1 0 0 0 0 B0 0 k0
 rw [World.size_alloc] at hm
 have h3:Below w2.heap.size w2 (w2.alloc (.cells #[.slice D0 S0.length d0,.slice D0' 0 d0'] 25)):=(Below.refl _ _).alloc (Nat.le_refl _) _
 have h4:=h3.trans (hk.mono h3.size)
 have hx:=Blk.new w2 25 [.slice D0 S0.length d0,.slice D0' 0 d0']
 have AT0:=Lh (show AlInv w w2.heap.size (w2.heap.size + 1) (.int .i64 ((0:Nat):Int)) ((w2.alloc (.cells #[.slice D0 S0.length d0,.slice D0' 0 d0'] 25)).alloc (.cells #[.int .u32 1,.int .i64 0,.int .u64 0,.int .i64 0,.int .i64 0,.slice B0 0 k0] 32)) from
  ⟨0,S0,D0,d0,D0',d0',B0,k0,by decide,rfl,hx.below hk hx.lt,hm,(HD.out.lower HB1.out).below h4,HS.out,(HR.out.lower HB1.out).below h4,HI.out,HB.out.trans (h4.mono HB.out.size)⟩)
 have HS0:=Lh (show w.heap.size≤w2.heap.size from HB.out.size)
 clear hm hk h3 h4 hx HD HS HR HI HB
 go_wp2
 go_loopw [4] (fun i wr=>AlInv w w2.heap.size (w2.heap.size + 1) i wr) (fun i _=>5 - (intOf i).toNat)
 case atStart=>exact AT0.out
 case round =>
  obtain ⟨j,S,D,d,D',d',B,c,hj,rfl,hbD,hbM,hd,hs,hr,hi,hbl⟩:=hrel
  have XD:=Lh hbD
  have XM:=Lh hbM
  have HD:=Lh hd
  have HS:=Lh hs
  have HR:=Lh hr
  have HI:=Lh hi
  have HB:=Lh hbl
  clear hbD hbM hd hs hr hi hbl AT0
  by_cases hj5:j < 5
  ·have hji:(j:Int) < 5:=by omega
   obtain ⟨hE,hO,hL2,hL10,S',hdn,hi'⟩:=al_step hj5 HI.out
   have IS:=Lh (HI.out.sup (by omega))
   have KT:=al_small j
   have K2:=Lh (al_small (j + 1))
   obtain ⟨T,hT⟩:∃ y,y=recT (noteR 1 ((j:Int) + 1)):=⟨_,rfl⟩
   have TB:=Lh (show ∀ z ∈ T,isByte z by rw [hT];exact recT_byte _)
   have NT:=Lh (fun wx=>note12_any 1 ((j:Int) + 1) wx (by decide) ⟨by omega,by omega⟩)
   rw [← hT] at NT hE hO hL2 hL10 hdn
   have hm2:∃ m2,m2=alM (j + 1):=⟨_,rfl⟩
   obtain ⟨m2,hm2⟩:=hm2
   obtain ⟨L,hL⟩:∃ y,y=cmL 2 9 4 2 2 8 S [] (alM j) T:=⟨_,rfl⟩
   rw [← hm2] at hO K2
   rw [← hL] at hL2 hL10 hdn
   obtain ⟨m,hm⟩:∃ m,m=alM j:=⟨_,rfl⟩
   rw [← hm] at XM HR IS KT hE hO hL
   obtain ⟨⟨v,a,g⟩,n,u,tt⟩:=m
   obtain ⟨⟨v2,a2,g2⟩,n2,u2,t2⟩:=m2
   dsimp only at XM HR IS KT K2
   have PC:=Lh (fun Ab cb wx h1 h2 h3=>pcommit12_any 2 9 4 2 2 8 D S.length d D' 0 d' S [] v a g n u B tt.length c tt Ab 14 cb T wx h1 HS.out IS.out h2 (by omega) h3 TB.out (by decide))
   rw [hE,hO,← hL] at PC
   unfold PlanOutB at PC
   dsimp only at PC
   obtain ⟨kt,hkt⟩:∃ y,y=tt.length:=⟨_,rfl⟩
   obtain ⟨k2,hk2⟩:∃ y,y=t2.length:=⟨_,rfl⟩
   obtain ⟨nl,hnl⟩:∃ y,y=L.length:=⟨_,rfl⟩
   rw [← hkt] at XM HR PC
   rw [← hk2] at PC
   rw [← hnl] at hL2 hL10 hdn PC
   have DNL:=Lh (And.intro hdn (And.intro hL10 (And.intro hk2 (And.intro hnl (And.intro hm2 hi')))))
   have LL2:=Lh hL2
   have w64:IntKind.i64.wrap ((j:Int) + 1)=(j:Int) + 1:=Lib.wrap_i64_small (j + 1) (by omega)
   have hlt2:w2.heap.size + 1 < wr.heap.size:=XM.out.lt
   have w32:IntKind.u32.wrap ((j:Int) + 1)=(j:Int) + 1:=wraps_u32 _ (by omega) (by omega)
   clear hE hO hL hL2 hL10 hdn hk2 hnl hm hm2 hkt KT hT hi'
   have keepX:∀ wx,Below wr.heap.size wr wx→wx.cell? ⟨w2.heap.size,0,none⟩=some (.slice D S.length d)∧wx.cell? ⟨w2.heap.size,1,none⟩=some (.slice D' 0 d')∧wx.cell? ⟨w2.heap.size + 1,0,none⟩=some (.int .u32 v)∧wx.cell? ⟨w2.heap.size + 1,1,none⟩=some (.int .i64 a)∧wx.cell? ⟨w2.heap.size + 1,2,none⟩=some (.int .u64 g)∧wx.cell? ⟨w2.heap.size + 1,3,none⟩=some (.int .i64 n)∧wx.cell? ⟨w2.heap.size + 1,4,none⟩=some (.int .i64 u)∧wx.cell? ⟨w2.heap.size + 1,5,none⟩=some (.slice B kt c):=fun wx hx =>
    have x:=XD.out.below hx XD.out.lt
    have y:=(XM.out.below hx XM.out.lt).met
    ⟨x.cell 0,x.cell 1,y.1,y.2.1,y.2.2.1,y.2.2.2.1,y.2.2.2.2.1,y.2.2.2.2.2⟩
   go_upto_region 7 with fail
   refine wp_region_upto2 rfl 16 (fun a0 f ax wx=>∃ x0 x1 x2 x3 x4 x5 x6 x7 x8 x9 x10 x11 x12 x13 x14 x15:Value,ax=(((((((((((((((a0.put (some 36) x0).put (some 37) x1).put (some 38) x2).put (some 39) x3).put (some 40) x4).put (some 41) x5).put (some 42) x6).put (some 43) x7).put (some 35) x8).put (some 44) x9).put (some 45) x10).put (some 46) x11).put (some 5) x12).put (some 6) x14).put (some 7) x15)∧Below wr.heap.size wr wx∧(f 0=true→x0=cfgV 2 9 4 2 2 8)∧(f 1=true→x1=.agg #[.slice D S.length d,.slice D' 0 d'])∧(f 2=true→x2=.agg #[.int .u32 v,.int .i64 a,.int .u64 g,.int .i64 n,.int .i64 u,.slice B kt c])∧(f 3=true→x3=.int .i64 j)∧(f 4=true→x4=.int .i64 ((j:Int) + 1))∧(f 5=true→x5=.int .u32 ((j:Int) + 1))∧(f 6=true→∃ A7 c7,x6=.slice A7 14 c7∧Arg wx .u8 A7 14 c7 T)∧(f 7=true→∃ A8 c8 A9 c9,x7=.tuple #[metV v2 a2 g2 n2 u2 A8 k2 c8,.slice A9 nl c9,.int .i64 0]∧OwnRecs wx w.heap.size A8 k2 c8 t2∧OwnActs wx w.heap.size A9 nl c9 L)∧(f 8=true→∃ A8 c8 A9 c9,x8=.tuple #[metV v2 a2 g2 n2 u2 A8 k2 c8,.slice A9 nl c9,.int .i64 0]∧OwnRecs wx w.heap.size A8 k2 c8 t2∧OwnActs wx w.heap.size A9 nl c9 L)∧(f 9=true→∃ A8 c8,x9=metV v2 a2 g2 n2 u2 A8 k2 c8∧OwnRecs wx w.heap.size A8 k2 c8 t2)∧(f 10=true→∃ A9 c9,x10=.slice A9 nl c9∧OwnActs wx w.heap.size A9 nl c9 L)∧(f 11=true→x11=.int .i64 0)∧(f 12=true→∃ h5:Nat,x12=.pointer (some ⟨h5,0,none⟩)∧wr.heap.size≤h5∧(f 13=false→Blk wx h5 32 (metL 0 0 0 0 0 none 0 0)))∧(f 13=true→f 12=true∧∃ (h5:Nat) (A8:Option Addr) (c8:Nat),x12=.pointer (some ⟨h5,0,none⟩)∧wr.heap.size≤h5∧Blk wx h5 32 (metL v2 a2 g2 n2 u2 A8 k2 c8)∧OwnRecs wx w.heap.size A8 k2 c8 t2)∧(f 14=true→∃ A9 c9,x14=.slice A9 nl c9∧OwnActs wx w.heap.size A9 nl c9 L)∧(f 15=true→x15=.int .i64 0)) (by decide) (by kernel_rfl) ?_ ?_ ?_
   ·exact ⟨u36,u37,u38,u39,u40,u41,u42,u43,u35,u44,u45,u46,u5,undef,u6,u7,(by simp only [Act.put,stA,scZ,scS]),(Below.refl _ _).drew,(fun h=>by cases h),(fun h=>by cases h),(fun h=>by cases h),(fun h=>by cases h),(fun h=>by cases h),(fun h=>by cases h),(fun h=>by cases h),(fun h=>by cases h),(fun h=>by cases h),(fun h=>by cases h),(fun h=>by cases h),(fun h=>by cases h),(fun h=>by cases h),(fun h=>by cases h),(fun h=>by cases h),(fun h=>by cases h)⟩
   ·refine ⟨⟨⟨⟨⟨⟨⟨⟨⟨⟨⟨⟨⟨⟨⟨⟨trivial,?_⟩,?_⟩,?_⟩,?_⟩,?_⟩,?_⟩,?_⟩,?_⟩,?_⟩,?_⟩,?_⟩,?_⟩,?_⟩,?_⟩,?_⟩,?_⟩
    ·intro f ax wx hJ hf hd K' hK
     obtain ⟨x0,x1,x2,x3,x4,x5,x6,x7,x8,x9,x10,x11,x12,x13,x14,x15,hax,hB,hp⟩:=hJ
     simp only [Act.put,stA,scZ,scS] at hax
     subst hax
     have HK:=Lh hK
     have PP:=Lh hp
     have HF:=Lh hf
     clear hK hp hf hd
     go_simp
     go_wp2_with (go_at_call 9;refine (TW.out _).mono ?_;rintro e w3 ⟨rfl,hb⟩)
     exact HK.out _ _ ⟨cfgV 2 9 4 2 2 8,x1,x2,x3,x4,x5,x6,x7,x8,x9,x10,x11,x12,x13,x14,x15,(by simp only [Act.put,stA,scZ,scS]),hB.trans (hb.mono hB.size),fun _=>rfl,fun h=>PP.out.2.1 (more_of (by decide) h),fun h=>PP.out.2.2.1 (more_of (by decide) h),fun h=>PP.out.2.2.2.1 (more_of (by decide) h),fun h=>PP.out.2.2.2.2.1 (more_of (by decide) h),fun h=>PP.out.2.2.2.2.2.1 (more_of (by decide) h),fun h=>(by obtain ⟨A7,c7,q1,q⟩:=PP.out.2.2.2.2.2.2.1 (more_of (by decide) h);exact ⟨A7,c7,q1,q.below hb⟩),fun h=>(by obtain ⟨A8,c8,A9,c9,q1,q⟩:=PP.out.2.2.2.2.2.2.2.1 (more_of (by decide) h);exact ⟨A8,c8,A9,c9,q1,⟨q.1.below hb,q.2.below hb⟩⟩),fun h=>(by obtain ⟨A8,c8,A9,c9,q1,q⟩:=PP.out.2.2.2.2.2.2.2.2.1 (more_of (by decide) h);exact ⟨A8,c8,A9,c9,q1,⟨q.1.below hb,q.2.below hb⟩⟩),fun h=>(by obtain ⟨A8,c8,q1,q⟩:=PP.out.2.2.2.2.2.2.2.2.2.1 (more_of (by decide) h);exact ⟨A8,c8,q1,q.below hb⟩),fun h=>(by obtain ⟨A9,c9,q1,q⟩:=PP.out.2.2.2.2.2.2.2.2.2.2.1 (more_of (by decide) h);exact ⟨A9,c9,q1,q.below hb⟩),fun h=>PP.out.2.2.2.2.2.2.2.2.2.2.2.1 (more_of (by decide) h),fun h=>(by obtain ⟨h5,q1,q2,q3⟩:=PP.out.2.2.2.2.2.2.2.2.2.2.2.2.1 (more_of (by decide) h);exact ⟨h5,q1,q2,fun h0=>(q3 (less_of (by decide) h0)).below hb (q3 (less_of (by decide) h0)).lt⟩),fun h=>(by obtain ⟨q0,h5,A8,c8,q1,q2,q3,q4⟩:=PP.out.2.2.2.2.2.2.2.2.2.2.2.2.2.1 (more_of (by decide) h);exact ⟨keep_of q0,h5,A8,c8,q1,q2,q3.below hb q3.lt,q4.below hb⟩),fun h=>(by obtain ⟨A9,c9,q1,q⟩:=PP.out.2.2.2.2.2.2.2.2.2.2.2.2.2.2.1 (more_of (by decide) h);exact ⟨A9,c9,q1,q.below hb⟩),fun h=>PP.out.2.2.2.2.2.2.2.2.2.2.2.2.2.2.2 (more_of (by decide) h)⟩
    ·intro f ax wx hJ hf hd K' hK
     obtain ⟨x0,x1,x2,x3,x4,x5,x6,x7,x8,x9,x10,x11,x12,x13,x14,x15,hax,hB,hp⟩:=hJ
     simp only [Act.put,stA,scZ,scS] at hax
     subst hax
     have HK:=Lh hK
     have PP:=Lh hp
     have HF:=Lh hf
     clear hK hp hf hd
     obtain ⟨cd0,cd1,cm0,cm1,cm2,cm3,cm4,cm5⟩:=keepX _ hB
     go_simp
     exact HK.out _ _ ⟨x0,.agg #[.slice D S.length d,.slice D' 0 d'],x2,x3,x4,x5,x6,x7,x8,x9,x10,x11,x12,x13,x14,x15,(by simp only [Act.put,stA,scZ,scS]),hB,fun h=>PP.out.1 (more_of (by decide) h),fun _=>rfl,fun h=>PP.out.2.2.1 (more_of (by decide) h),fun h=>PP.out.2.2.2.1 (more_of (by decide) h),fun h=>PP.out.2.2.2.2.1 (more_of (by decide) h),fun h=>PP.out.2.2.2.2.2.1 (more_of (by decide) h),fun h=>PP.out.2.2.2.2.2.2.1 (more_of (by decide) h),fun h=>PP.out.2.2.2.2.2.2.2.1 (more_of (by decide) h),fun h=>PP.out.2.2.2.2.2.2.2.2.1 (more_of (by decide) h),fun h=>PP.out.2.2.2.2.2.2.2.2.2.1 (more_of (by decide) h),fun h=>PP.out.2.2.2.2.2.2.2.2.2.2.1 (more_of (by decide) h),fun h=>PP.out.2.2.2.2.2.2.2.2.2.2.2.1 (more_of (by decide) h),fun h=>(by obtain ⟨h5,q1,q2,q3⟩:=PP.out.2.2.2.2.2.2.2.2.2.2.2.2.1 (more_of (by decide) h);exact ⟨h5,q1,q2,fun h0=>q3 (less_of (by decide) h0)⟩),fun h=>(by obtain ⟨q0,h5,A8,c8,q1,q2,q3,q4⟩:=PP.out.2.2.2.2.2.2.2.2.2.2.2.2.2.1 (more_of (by decide) h);exact ⟨keep_of q0,h5,A8,c8,q1,q2,q3,q4⟩),fun h=>PP.out.2.2.2.2.2.2.2.2.2.2.2.2.2.2.1 (more_of (by decide) h),fun h=>PP.out.2.2.2.2.2.2.2.2.2.2.2.2.2.2.2 (more_of (by decide) h)⟩
    ·intro f ax wx hJ hf hd K' hK
     obtain ⟨x0,x1,x2,x3,x4,x5,x6,x7,x8,x9,x10,x11,x12,x13,x14,x15,hax,hB,hp⟩:=hJ
     simp only [Act.put,stA,scZ,scS] at hax
     subst hax
     have HK:=Lh hK
     have PP:=Lh hp
     have HF:=Lh hf
     clear hK hp hf hd
     obtain ⟨cd0,cd1,cm0,cm1,cm2,cm3,cm4,cm5⟩:=keepX _ hB
     go_simp
     exact HK.out _ _ ⟨x0,x1,.agg #[.int .u32 v,.int .i64 a,.int .u64 g,.int .i64 n,.int .i64 u,.slice B kt c],x3,x4,x5,x6,x7,x8,x9,x10,x11,x12,x13,x14,x15,(by simp only [Act.put,stA,scZ,scS]),hB,fun h=>PP.out.1 (more_of (by decide) h),fun h=>PP.out.2.1 (more_of (by decide) h),fun _=>rfl,fun h=>PP.out.2.2.2.1 (more_of (by decide) h),fun h=>PP.out.2.2.2.2.1 (more_of (by decide) h),fun h=>PP.out.2.2.2.2.2.1 (more_of (by decide) h),fun h=>PP.out.2.2.2.2.2.2.1 (more_of (by decide) h),fun h=>PP.out.2.2.2.2.2.2.2.1 (more_of (by decide) h),fun h=>PP.out.2.2.2.2.2.2.2.2.1 (more_of (by decide) h),fun h=>PP.out.2.2.2.2.2.2.2.2.2.1 (more_of (by decide) h),fun h=>PP.out.2.2.2.2.2.2.2.2.2.2.1 (more_of (by decide) h),fun h=>PP.out.2.2.2.2.2.2.2.2.2.2.2.1 (more_of (by decide) h),fun h=>(by obtain ⟨h5,q1,q2,q3⟩:=PP.out.2.2.2.2.2.2.2.2.2.2.2.2.1 (more_of (by decide) h);exact ⟨h5,q1,q2,fun h0=>q3 (less_of (by decide) h0)⟩),fun h=>(by obtain ⟨q0,h5,A8,c8,q1,q2,q3,q4⟩:=PP.out.2.2.2.2.2.2.2.2.2.2.2.2.2.1 (more_of (by decide) h);exact ⟨keep_of q0,h5,A8,c8,q1,q2,q3,q4⟩),fun h=>PP.out.2.2.2.2.2.2.2.2.2.2.2.2.2.2.1 (more_of (by decide) h),fun h=>PP.out.2.2.2.2.2.2.2.2.2.2.2.2.2.2.2 (more_of (by decide) h)⟩
    ·intro f ax wx hJ hf hd K' hK
     obtain ⟨x0,x1,x2,x3,x4,x5,x6,x7,x8,x9,x10,x11,x12,x13,x14,x15,hax,hB,hp⟩:=hJ
     simp only [Act.put,stA,scZ,scS] at hax
     subst hax
     have HK:=Lh hK
     have PP:=Lh hp
     have HF:=Lh hf
     clear hK hp hf hd
     go_simp
     exact HK.out _ _ ⟨x0,x1,x2,.int .i64 j,x4,x5,x6,x7,x8,x9,x10,x11,x12,x13,x14,x15,(by simp only [Act.put,stA,scZ,scS]),hB,fun h=>PP.out.1 (more_of (by decide) h),fun h=>PP.out.2.1 (more_of (by decide) h),fun h=>PP.out.2.2.1 (more_of (by decide) h),fun _=>rfl,fun h=>PP.out.2.2.2.2.1 (more_of (by decide) h),fun h=>PP.out.2.2.2.2.2.1 (more_of (by decide) h),fun h=>PP.out.2.2.2.2.2.2.1 (more_of (by decide) h),fun h=>PP.out.2.2.2.2.2.2.2.1 (more_of (by decide) h),fun h=>PP.out.2.2.2.2.2.2.2.2.1 (more_of (by decide) h),fun h=>PP.out.2.2.2.2.2.2.2.2.2.1 (more_of (by decide) h),fun h=>PP.out.2.2.2.2.2.2.2.2.2.2.1 (more_of (by decide) h),fun h=>PP.out.2.2.2.2.2.2.2.2.2.2.2.1 (more_of (by decide) h),fun h=>(by obtain ⟨h5,q1,q2,q3⟩:=PP.out.2.2.2.2.2.2.2.2.2.2.2.2.1 (more_of (by decide) h);exact ⟨h5,q1,q2,fun h0=>q3 (less_of (by decide) h0)⟩),fun h=>(by obtain ⟨q0,h5,A8,c8,q1,q2,q3,q4⟩:=PP.out.2.2.2.2.2.2.2.2.2.2.2.2.2.1 (more_of (by decide) h);exact ⟨keep_of q0,h5,A8,c8,q1,q2,q3,q4⟩),fun h=>PP.out.2.2.2.2.2.2.2.2.2.2.2.2.2.2.1 (more_of (by decide) h),fun h=>PP.out.2.2.2.2.2.2.2.2.2.2.2.2.2.2.2 (more_of (by decide) h)⟩
    ·intro f ax wx hJ hf hd K' hK
     obtain ⟨x0,x1,x2,x3,x4,x5,x6,x7,x8,x9,x10,x11,x12,x13,x14,x15,hax,hB,hp⟩:=hJ
     simp only [Act.put,stA,scZ,scS] at hax
     subst hax
     have HK:=Lh hK
     have PP:=Lh hp
     have HF:=Lh hf
     have e3:=PP.out.2.2.2.1 (deps_at (k:=0) rfl rfl rfl hd)
     subst e3
     clear hK hp hf hd
     go_simp
     exact HK.out _ _ ⟨x0,x1,x2,.int .i64 j,.int .i64 ((j:Int) + 1),x5,x6,x7,x8,x9,x10,x11,x12,x13,x14,x15,(by simp only [Act.put,stA,scZ,scS]),hB,fun h=>PP.out.1 (more_of (by decide) h),fun h=>PP.out.2.1 (more_of (by decide) h),fun h=>PP.out.2.2.1 (more_of (by decide) h),fun _=>rfl,fun _=>rfl,fun h=>PP.out.2.2.2.2.2.1 (more_of (by decide) h),fun h=>PP.out.2.2.2.2.2.2.1 (more_of (by decide) h),fun h=>PP.out.2.2.2.2.2.2.2.1 (more_of (by decide) h),fun h=>PP.out.2.2.2.2.2.2.2.2.1 (more_of (by decide) h),fun h=>PP.out.2.2.2.2.2.2.2.2.2.1 (more_of (by decide) h),fun h=>PP.out.2.2.2.2.2.2.2.2.2.2.1 (more_of (by decide) h),fun h=>PP.out.2.2.2.2.2.2.2.2.2.2.2.1 (more_of (by decide) h),fun h=>(by obtain ⟨h5,q1,q2,q3⟩:=PP.out.2.2.2.2.2.2.2.2.2.2.2.2.1 (more_of (by decide) h);exact ⟨h5,q1,q2,fun h0=>q3 (less_of (by decide) h0)⟩),fun h=>(by obtain ⟨q0,h5,A8,c8,q1,q2,q3,q4⟩:=PP.out.2.2.2.2.2.2.2.2.2.2.2.2.2.1 (more_of (by decide) h);exact ⟨keep_of q0,h5,A8,c8,q1,q2,q3,q4⟩),fun h=>PP.out.2.2.2.2.2.2.2.2.2.2.2.2.2.2.1 (more_of (by decide) h),fun h=>PP.out.2.2.2.2.2.2.2.2.2.2.2.2.2.2.2 (more_of (by decide) h)⟩
    ·intro f ax wx hJ hf hd K' hK
     obtain ⟨x0,x1,x2,x3,x4,x5,x6,x7,x8,x9,x10,x11,x12,x13,x14,x15,hax,hB,hp⟩:=hJ
     simp only [Act.put,stA,scZ,scS] at hax
     subst hax
     have HK:=Lh hK
     have PP:=Lh hp
     have HF:=Lh hf
     have e4:=PP.out.2.2.2.2.1 (deps_at (k:=0) rfl rfl rfl hd)
     subst e4
     clear hK hp hf hd
     go_simp
     exact HK.out _ _ ⟨x0,x1,x2,x3,.int .i64 ((j:Int) + 1),.int .u32 ((j:Int) + 1),x6,x7,x8,x9,x10,x11,x12,x13,x14,x15,(by simp only [Act.put,stA,scZ,scS]),hB,fun h=>PP.out.1 (more_of (by decide) h),fun h=>PP.out.2.1 (more_of (by decide) h),fun h=>PP.out.2.2.1 (more_of (by decide) h),fun h=>PP.out.2.2.2.1 (more_of (by decide) h),fun _=>rfl,fun _=>rfl,fun h=>PP.out.2.2.2.2.2.2.1 (more_of (by decide) h),fun h=>PP.out.2.2.2.2.2.2.2.1 (more_of (by decide) h),fun h=>PP.out.2.2.2.2.2.2.2.2.1 (more_of (by decide) h),fun h=>PP.out.2.2.2.2.2.2.2.2.2.1 (more_of (by decide) h),fun h=>PP.out.2.2.2.2.2.2.2.2.2.2.1 (more_of (by decide) h),fun h=>PP.out.2.2.2.2.2.2.2.2.2.2.2.1 (more_of (by decide) h),fun h=>(by obtain ⟨h5,q1,q2,q3⟩:=PP.out.2.2.2.2.2.2.2.2.2.2.2.2.1 (more_of (by decide) h);exact ⟨h5,q1,q2,fun h0=>q3 (less_of (by decide) h0)⟩),fun h=>(by obtain ⟨q0,h5,A8,c8,q1,q2,q3,q4⟩:=PP.out.2.2.2.2.2.2.2.2.2.2.2.2.2.1 (more_of (by decide) h);exact ⟨keep_of q0,h5,A8,c8,q1,q2,q3,q4⟩),fun h=>PP.out.2.2.2.2.2.2.2.2.2.2.2.2.2.2.1 (more_of (by decide) h),fun h=>PP.out.2.2.2.2.2.2.2.2.2.2.2.2.2.2.2 (more_of (by decide) h)⟩
    ·intro f ax wx hJ hf hd K' hK
     obtain ⟨x0,x1,x2,x3,x4,x5,x6,x7,x8,x9,x10,x11,x12,x13,x14,x15,hax,hB,hp⟩:=hJ
     simp only [Act.put,stA,scZ,scS] at hax
     subst hax
     have HK:=Lh hK
     have PP:=Lh hp
     have HF:=Lh hf
     have e5:=PP.out.2.2.2.2.2.1 (deps_at (k:=0) rfl rfl rfl hd)
     subst e5
     clear hK hp hf hd
     go_simp
     go_wp2_with (go_at_call 11;refine (NT.out _).mono ?_;rintro e w3 ⟨A7,c7,rfl,hown,hb⟩)
     exact HK.out _ _ ⟨x0,x1,x2,x3,x4,.int .u32 ((j:Int) + 1),.slice A7 14 c7,x7,x8,x9,x10,x11,x12,x13,x14,x15,(by simp only [Act.put,stA,scZ,scS]),hB.trans (hb.mono hB.size),fun h=>PP.out.1 (more_of (by decide) h),fun h=>PP.out.2.1 (more_of (by decide) h),fun h=>PP.out.2.2.1 (more_of (by decide) h),fun h=>PP.out.2.2.2.1 (more_of (by decide) h),fun h=>PP.out.2.2.2.2.1 (more_of (by decide) h),fun _=>rfl,fun _=>⟨A7,c7,rfl,Arg.own hown⟩,fun h=>(by obtain ⟨A8,c8,A9,c9,q1,q⟩:=PP.out.2.2.2.2.2.2.2.1 (more_of (by decide) h);exact ⟨A8,c8,A9,c9,q1,⟨q.1.below hb,q.2.below hb⟩⟩),fun h=>(by obtain ⟨A8,c8,A9,c9,q1,q⟩:=PP.out.2.2.2.2.2.2.2.2.1 (more_of (by decide) h);exact ⟨A8,c8,A9,c9,q1,⟨q.1.below hb,q.2.below hb⟩⟩),fun h=>(by obtain ⟨A8,c8,q1,q⟩:=PP.out.2.2.2.2.2.2.2.2.2.1 (more_of (by decide) h);exact ⟨A8,c8,q1,q.below hb⟩),fun h=>(by obtain ⟨A9,c9,q1,q⟩:=PP.out.2.2.2.2.2.2.2.2.2.2.1 (more_of (by decide) h);exact ⟨A9,c9,q1,q.below hb⟩),fun h=>PP.out.2.2.2.2.2.2.2.2.2.2.2.1 (more_of (by decide) h),fun h=>(by obtain ⟨h5,q1,q2,q3⟩:=PP.out.2.2.2.2.2.2.2.2.2.2.2.2.1 (more_of (by decide) h);exact ⟨h5,q1,q2,fun h0=>(q3 (less_of (by decide) h0)).below hb (q3 (less_of (by decide) h0)).lt⟩),fun h=>(by obtain ⟨q0,h5,A8,c8,q1,q2,q3,q4⟩:=PP.out.2.2.2.2.2.2.2.2.2.2.2.2.2.1 (more_of (by decide) h);exact ⟨keep_of q0,h5,A8,c8,q1,q2,q3.below hb q3.lt,q4.below hb⟩),fun h=>(by obtain ⟨A9,c9,q1,q⟩:=PP.out.2.2.2.2.2.2.2.2.2.2.2.2.2.2.1 (more_of (by decide) h);exact ⟨A9,c9,q1,q.below hb⟩),fun h=>PP.out.2.2.2.2.2.2.2.2.2.2.2.2.2.2.2 (more_of (by decide) h)⟩
    ·intro f ax wx hJ hf hd K' hK
     obtain ⟨x0,x1,x2,x3,x4,x5,x6,x7,x8,x9,x10,x11,x12,x13,x14,x15,hax,hB,hp⟩:=hJ
     simp only [Act.put,stA,scZ,scS] at hax
     subst hax
     have HK:=Lh hK
     have PP:=Lh hp
     have HF:=Lh hf
     have e0:=PP.out.1 (deps_at (k:=0) rfl rfl rfl hd)
     subst e0
     have e1:=PP.out.2.1 (deps_at (k:=1) rfl rfl rfl hd)
     subst e1
     have e2:=PP.out.2.2.1 (deps_at (k:=2) rfl rfl rfl hd)
     subst e2
     obtain ⟨A7,c7,e6,f6⟩:=PP.out.2.2.2.2.2.2.1 (deps_at (k:=3) rfl rfl rfl hd)
     subst e6
     have F6:=Lh f6
     clear f6
     clear hK hp hf hd
     go_simp
     have HF6:=F6.out
     go_wp2_with (go_at_call 10;refine (PC.out _ _ _ (Dsk.of_own (HD.out.below hB)) (Recs.of_own (HR.out.below hB)) HF6).mono ?_;rintro e w3 ⟨A8,c8,A9,c9,rfl,hown,hacts,hb⟩)
     exact HK.out _ _ ⟨cfgV 2 9 4 2 2 8,.agg #[.slice D S.length d,.slice D' 0 d'],.agg #[.int .u32 v,.int .i64 a,.int .u64 g,.int .i64 n,.int .i64 u,.slice B kt c],x3,x4,x5,.slice A7 14 c7,.tuple #[metV v2 a2 g2 n2 u2 A8 k2 c8,.slice A9 nl c9,.int .i64 0],x8,x9,x10,x11,x12,x13,x14,x15,(by simp only [Act.put,stA,scZ,scS]),hB.trans (hb.mono hB.size),fun _=>rfl,fun _=>rfl,fun _=>rfl,fun h=>PP.out.2.2.2.1 (more_of (by decide) h),fun h=>PP.out.2.2.2.2.1 (more_of (by decide) h),fun h=>PP.out.2.2.2.2.2.1 (more_of (by decide) h),fun _=>⟨A7,c7,rfl,F6.out.below hb⟩,fun _=>⟨A8,c8,A9,c9,rfl,hown.lower (Nat.le_trans HB.out.size hB.size),hacts.lower (Nat.le_trans HB.out.size hB.size)⟩,fun h=>(by obtain ⟨A8,c8,A9,c9,q1,q⟩:=PP.out.2.2.2.2.2.2.2.2.1 (more_of (by decide) h);exact ⟨A8,c8,A9,c9,q1,⟨q.1.below hb,q.2.below hb⟩⟩),fun h=>(by obtain ⟨A8,c8,q1,q⟩:=PP.out.2.2.2.2.2.2.2.2.2.1 (more_of (by decide) h);exact ⟨A8,c8,q1,q.below hb⟩),fun h=>(by obtain ⟨A9,c9,q1,q⟩:=PP.out.2.2.2.2.2.2.2.2.2.2.1 (more_of (by decide) h);exact ⟨A9,c9,q1,q.below hb⟩),fun h=>PP.out.2.2.2.2.2.2.2.2.2.2.2.1 (more_of (by decide) h),fun h=>(by obtain ⟨h5,q1,q2,q3⟩:=PP.out.2.2.2.2.2.2.2.2.2.2.2.2.1 (more_of (by decide) h);exact ⟨h5,q1,q2,fun h0=>(q3 (less_of (by decide) h0)).below hb (q3 (less_of (by decide) h0)).lt⟩),fun h=>(by obtain ⟨q0,h5,A8,c8,q1,q2,q3,q4⟩:=PP.out.2.2.2.2.2.2.2.2.2.2.2.2.2.1 (more_of (by decide) h);exact ⟨keep_of q0,h5,A8,c8,q1,q2,q3.below hb q3.lt,q4.below hb⟩),fun h=>(by obtain ⟨A9,c9,q1,q⟩:=PP.out.2.2.2.2.2.2.2.2.2.2.2.2.2.2.1 (more_of (by decide) h);exact ⟨A9,c9,q1,q.below hb⟩),fun h=>PP.out.2.2.2.2.2.2.2.2.2.2.2.2.2.2.2 (more_of (by decide) h)⟩
    ·intro f ax wx hJ hf hd K' hK
     obtain ⟨x0,x1,x2,x3,x4,x5,x6,x7,x8,x9,x10,x11,x12,x13,x14,x15,hax,hB,hp⟩:=hJ
     simp only [Act.put,stA,scZ,scS] at hax
     subst hax
     have HK:=Lh hK
     have PP:=Lh hp
     have HF:=Lh hf
     obtain ⟨A8,c8,A9,c9,e7,f7⟩:=PP.out.2.2.2.2.2.2.2.1 (deps_at (k:=0) rfl rfl rfl hd)
     subst e7
     have F7:=Lh f7
     clear f7
     clear hK hp hf hd
     go_simp
     exact HK.out _ _ ⟨x0,x1,x2,x3,x4,x5,x6,.tuple #[metV v2 a2 g2 n2 u2 A8 k2 c8,.slice A9 nl c9,.int .i64 0],.tuple #[metV v2 a2 g2 n2 u2 A8 k2 c8,.slice A9 nl c9,.int .i64 0],x9,x10,x11,x12,x13,x14,x15,(by simp only [Act.put,stA,scZ,scS]),hB,fun h=>PP.out.1 (more_of (by decide) h),fun h=>PP.out.2.1 (more_of (by decide) h),fun h=>PP.out.2.2.1 (more_of (by decide) h),fun h=>PP.out.2.2.2.1 (more_of (by decide) h),fun h=>PP.out.2.2.2.2.1 (more_of (by decide) h),fun h=>PP.out.2.2.2.2.2.1 (more_of (by decide) h),fun h=>PP.out.2.2.2.2.2.2.1 (more_of (by decide) h),fun _=>⟨A8,c8,A9,c9,rfl,F7.out⟩,fun _=>⟨A8,c8,A9,c9,rfl,F7.out⟩,fun h=>PP.out.2.2.2.2.2.2.2.2.2.1 (more_of (by decide) h),fun h=>PP.out.2.2.2.2.2.2.2.2.2.2.1 (more_of (by decide) h),fun h=>PP.out.2.2.2.2.2.2.2.2.2.2.2.1 (more_of (by decide) h),fun h=>(by obtain ⟨h5,q1,q2,q3⟩:=PP.out.2.2.2.2.2.2.2.2.2.2.2.2.1 (more_of (by decide) h);exact ⟨h5,q1,q2,fun h0=>q3 (less_of (by decide) h0)⟩),fun h=>(by obtain ⟨q0,h5,A8,c8,q1,q2,q3,q4⟩:=PP.out.2.2.2.2.2.2.2.2.2.2.2.2.2.1 (more_of (by decide) h);exact ⟨keep_of q0,h5,A8,c8,q1,q2,q3,q4⟩),fun h=>PP.out.2.2.2.2.2.2.2.2.2.2.2.2.2.2.1 (more_of (by decide) h),fun h=>PP.out.2.2.2.2.2.2.2.2.2.2.2.2.2.2.2 (more_of (by decide) h)⟩
    ·intro f ax wx hJ hf hd K' hK
     obtain ⟨x0,x1,x2,x3,x4,x5,x6,x7,x8,x9,x10,x11,x12,x13,x14,x15,hax,hB,hp⟩:=hJ
     simp only [Act.put,stA,scZ,scS] at hax
     subst hax
     have HK:=Lh hK
     have PP:=Lh hp
     have HF:=Lh hf
     obtain ⟨A8,c8,A9,c9,e8,f8⟩:=PP.out.2.2.2.2.2.2.2.2.1 (deps_at (k:=0) rfl rfl rfl hd)
     subst e8
     have F8:=Lh f8
     clear f8
     clear hK hp hf hd
     go_simp
     exact HK.out _ _ ⟨x0,x1,x2,x3,x4,x5,x6,x7,.tuple #[metV v2 a2 g2 n2 u2 A8 k2 c8,.slice A9 nl c9,.int .i64 0],metV v2 a2 g2 n2 u2 A8 k2 c8,x10,x11,x12,x13,x14,x15,(by simp only [Act.put,stA,scZ,scS]),hB,fun h=>PP.out.1 (more_of (by decide) h),fun h=>PP.out.2.1 (more_of (by decide) h),fun h=>PP.out.2.2.1 (more_of (by decide) h),fun h=>PP.out.2.2.2.1 (more_of (by decide) h),fun h=>PP.out.2.2.2.2.1 (more_of (by decide) h),fun h=>PP.out.2.2.2.2.2.1 (more_of (by decide) h),fun h=>PP.out.2.2.2.2.2.2.1 (more_of (by decide) h),fun h=>PP.out.2.2.2.2.2.2.2.1 (more_of (by decide) h),fun _=>⟨A8,c8,A9,c9,rfl,F8.out⟩,fun _=>⟨A8,c8,rfl,F8.out.1⟩,fun h=>PP.out.2.2.2.2.2.2.2.2.2.2.1 (more_of (by decide) h),fun h=>PP.out.2.2.2.2.2.2.2.2.2.2.2.1 (more_of (by decide) h),fun h=>(by obtain ⟨h5,q1,q2,q3⟩:=PP.out.2.2.2.2.2.2.2.2.2.2.2.2.1 (more_of (by decide) h);exact ⟨h5,q1,q2,fun h0=>q3 (less_of (by decide) h0)⟩),fun h=>(by obtain ⟨q0,h5,A8,c8,q1,q2,q3,q4⟩:=PP.out.2.2.2.2.2.2.2.2.2.2.2.2.2.1 (more_of (by decide) h);exact ⟨keep_of q0,h5,A8,c8,q1,q2,q3,q4⟩),fun h=>PP.out.2.2.2.2.2.2.2.2.2.2.2.2.2.2.1 (more_of (by decide) h),fun h=>PP.out.2.2.2.2.2.2.2.2.2.2.2.2.2.2.2 (more_of (by decide) h)⟩
    ·intro f ax wx hJ hf hd K' hK
     obtain ⟨x0,x1,x2,x3,x4,x5,x6,x7,x8,x9,x10,x11,x12,x13,x14,x15,hax,hB,hp⟩:=hJ
     simp only [Act.put,stA,scZ,scS] at hax
     subst hax
     have HK:=Lh hK
     have PP:=Lh hp
     have HF:=Lh hf
     obtain ⟨A8,c8,A9,c9,e8,f8⟩:=PP.out.2.2.2.2.2.2.2.2.1 (deps_at (k:=0) rfl rfl rfl hd)
     subst e8
     have F8:=Lh f8
     clear f8
     clear hK hp hf hd
     go_simp
     exact HK.out _ _ ⟨x0,x1,x2,x3,x4,x5,x6,x7,.tuple #[metV v2 a2 g2 n2 u2 A8 k2 c8,.slice A9 nl c9,.int .i64 0],x9,.slice A9 nl c9,x11,x12,x13,x14,x15,(by simp only [Act.put,stA,scZ,scS]),hB,fun h=>PP.out.1 (more_of (by decide) h),fun h=>PP.out.2.1 (more_of (by decide) h),fun h=>PP.out.2.2.1 (more_of (by decide) h),fun h=>PP.out.2.2.2.1 (more_of (by decide) h),fun h=>PP.out.2.2.2.2.1 (more_of (by decide) h),fun h=>PP.out.2.2.2.2.2.1 (more_of (by decide) h),fun h=>PP.out.2.2.2.2.2.2.1 (more_of (by decide) h),fun h=>PP.out.2.2.2.2.2.2.2.1 (more_of (by decide) h),fun _=>⟨A8,c8,A9,c9,rfl,F8.out⟩,fun h=>PP.out.2.2.2.2.2.2.2.2.2.1 (more_of (by decide) h),fun _=>⟨A9,c9,rfl,F8.out.2⟩,fun h=>PP.out.2.2.2.2.2.2.2.2.2.2.2.1 (more_of (by decide) h),fun h=>(by obtain ⟨h5,q1,q2,q3⟩:=PP.out.2.2.2.2.2.2.2.2.2.2.2.2.1 (more_of (by decide) h);exact ⟨h5,q1,q2,fun h0=>q3 (less_of (by decide) h0)⟩),fun h=>(by obtain ⟨q0,h5,A8,c8,q1,q2,q3,q4⟩:=PP.out.2.2.2.2.2.2.2.2.2.2.2.2.2.1 (more_of (by decide) h);exact ⟨keep_of q0,h5,A8,c8,q1,q2,q3,q4⟩),fun h=>PP.out.2.2.2.2.2.2.2.2.2.2.2.2.2.2.1 (more_of (by decide) h),fun h=>PP.out.2.2.2.2.2.2.2.2.2.2.2.2.2.2.2 (more_of (by decide) h)⟩
    ·intro f ax wx hJ hf hd K' hK
     obtain ⟨x0,x1,x2,x3,x4,x5,x6,x7,x8,x9,x10,x11,x12,x13,x14,x15,hax,hB,hp⟩:=hJ
     simp only [Act.put,stA,scZ,scS] at hax
     subst hax
     have HK:=Lh hK
     have PP:=Lh hp
     have HF:=Lh hf
     obtain ⟨A8,c8,A9,c9,e8,f8⟩:=PP.out.2.2.2.2.2.2.2.2.1 (deps_at (k:=0) rfl rfl rfl hd)
     subst e8
     have F8:=Lh f8
     clear f8
     clear hK hp hf hd
     go_simp
     exact HK.out _ _ ⟨x0,x1,x2,x3,x4,x5,x6,x7,.tuple #[metV v2 a2 g2 n2 u2 A8 k2 c8,.slice A9 nl c9,.int .i64 0],x9,x10,.int .i64 0,x12,x13,x14,x15,(by simp only [Act.put,stA,scZ,scS]),hB,fun h=>PP.out.1 (more_of (by decide) h),fun h=>PP.out.2.1 (more_of (by decide) h),fun h=>PP.out.2.2.1 (more_of (by decide) h),fun h=>PP.out.2.2.2.1 (more_of (by decide) h),fun h=>PP.out.2.2.2.2.1 (more_of (by decide) h),fun h=>PP.out.2.2.2.2.2.1 (more_of (by decide) h),fun h=>PP.out.2.2.2.2.2.2.1 (more_of (by decide) h),fun h=>PP.out.2.2.2.2.2.2.2.1 (more_of (by decide) h),fun _=>⟨A8,c8,A9,c9,rfl,F8.out⟩,fun h=>PP.out.2.2.2.2.2.2.2.2.2.1 (more_of (by decide) h),fun h=>PP.out.2.2.2.2.2.2.2.2.2.2.1 (more_of (by decide) h),fun _=>rfl,fun h=>(by obtain ⟨h5,q1,q2,q3⟩:=PP.out.2.2.2.2.2.2.2.2.2.2.2.2.1 (more_of (by decide) h);exact ⟨h5,q1,q2,fun h0=>q3 (less_of (by decide) h0)⟩),fun h=>(by obtain ⟨q0,h5,A8,c8,q1,q2,q3,q4⟩:=PP.out.2.2.2.2.2.2.2.2.2.2.2.2.2.1 (more_of (by decide) h);exact ⟨keep_of q0,h5,A8,c8,q1,q2,q3,q4⟩),fun h=>PP.out.2.2.2.2.2.2.2.2.2.2.2.2.2.2.1 (more_of (by decide) h),fun h=>PP.out.2.2.2.2.2.2.2.2.2.2.2.2.2.2.2 (more_of (by decide) h)⟩
    ·intro f ax wx hJ hf hd K' hK
     obtain ⟨x0,x1,x2,x3,x4,x5,x6,x7,x8,x9,x10,x11,x12,x13,x14,x15,hax,hB,hp⟩:=hJ
     simp only [Act.put,stA,scZ,scS] at hax
     subst hax
     have HK:=Lh hK
     have PP:=Lh hp
     have HF:=Lh hf
     clear hK hp hf hd
     go_simp
     exact HK.out _ _ ⟨x0,x1,x2,x3,x4,x5,x6,x7,x8,x9,x10,x11,.pointer (some ⟨wx.heap.size,0,none⟩),x13,x14,x15,(by simp only [Act.put,stA,scZ,scS]),hB.trans (((Below.refl _ _).alloc (Nat.le_refl _) _).mono hB.size),fun h=>PP.out.1 (more_of (by decide) h),fun h=>PP.out.2.1 (more_of (by decide) h),fun h=>PP.out.2.2.1 (more_of (by decide) h),fun h=>PP.out.2.2.2.1 (more_of (by decide) h),fun h=>PP.out.2.2.2.2.1 (more_of (by decide) h),fun h=>PP.out.2.2.2.2.2.1 (more_of (by decide) h),fun h=>(by obtain ⟨A7,c7,q1,q⟩:=PP.out.2.2.2.2.2.2.1 (more_of (by decide) h);exact ⟨A7,c7,q1,q.below ((Below.refl _ _).alloc (Nat.le_refl _) _)⟩),fun h=>(by obtain ⟨A8,c8,A9,c9,q1,q⟩:=PP.out.2.2.2.2.2.2.2.1 (more_of (by decide) h);exact ⟨A8,c8,A9,c9,q1,⟨q.1.below ((Below.refl _ _).alloc (Nat.le_refl _) _),q.2.below ((Below.refl _ _).alloc (Nat.le_refl _) _)⟩⟩),fun h=>(by obtain ⟨A8,c8,A9,c9,q1,q⟩:=PP.out.2.2.2.2.2.2.2.2.1 (more_of (by decide) h);exact ⟨A8,c8,A9,c9,q1,⟨q.1.below ((Below.refl _ _).alloc (Nat.le_refl _) _),q.2.below ((Below.refl _ _).alloc (Nat.le_refl _) _)⟩⟩),fun h=>(by obtain ⟨A8,c8,q1,q⟩:=PP.out.2.2.2.2.2.2.2.2.2.1 (more_of (by decide) h);exact ⟨A8,c8,q1,q.below ((Below.refl _ _).alloc (Nat.le_refl _) _)⟩),fun h=>(by obtain ⟨A9,c9,q1,q⟩:=PP.out.2.2.2.2.2.2.2.2.2.2.1 (more_of (by decide) h);exact ⟨A9,c9,q1,q.below ((Below.refl _ _).alloc (Nat.le_refl _) _)⟩),fun h=>PP.out.2.2.2.2.2.2.2.2.2.2.2.1 (more_of (by decide) h),fun _=>⟨_,rfl,hB.size,fun _=>Blk.new _ _ _⟩,fun h=>(by have h0:=(PP.out.2.2.2.2.2.2.2.2.2.2.2.2.2.1 (more_of (by decide) h)).1;rw [HF.out] at h0;cases h0),fun h=>(by obtain ⟨A9,c9,q1,q⟩:=PP.out.2.2.2.2.2.2.2.2.2.2.2.2.2.2.1 (more_of (by decide) h);exact ⟨A9,c9,q1,q.below ((Below.refl _ _).alloc (Nat.le_refl _) _)⟩),fun h=>PP.out.2.2.2.2.2.2.2.2.2.2.2.2.2.2.2 (more_of (by decide) h)⟩
    ·intro f ax wx hJ hf hd K' hK
     obtain ⟨x0,x1,x2,x3,x4,x5,x6,x7,x8,x9,x10,x11,x12,x13,x14,x15,hax,hB,hp⟩:=hJ
     simp only [Act.put,stA,scZ,scS] at hax
     subst hax
     have HK:=Lh hK
     have PP:=Lh hp
     have HF:=Lh hf
     obtain ⟨A9z,c9z,e9,f9⟩:=PP.out.2.2.2.2.2.2.2.2.2.1 (deps_at (k:=1) rfl rfl rfl hd)
     subst e9
     have F9:=Lh f9
     clear f9
     obtain ⟨h5,e12,l5,z5⟩:=PP.out.2.2.2.2.2.2.2.2.2.2.2.2.1 (deps_at (k:=0) rfl rfl rfl hd)
     subst e12
     have Z5:=Lh (z5 hf)
     clear z5
     have q12:=deps_at (k:=0) rfl rfl rfl hd
     clear hK hp hf hd
     obtain ⟨z0,z1,z2,z3,z4,z5⟩:=Z5.out.met
     have fz:=Z5.out.free
     go_simp
     exact HK.out _ _ ⟨x0,x1,x2,x3,x4,x5,x6,x7,x8,metV v2 a2 g2 n2 u2 A9z k2 c9z,x10,x11,.pointer (some ⟨h5,0,none⟩),x13,x14,x15,(by simp only [Act.put,stA,scZ,scS]),below_sixM hB l5 v2 a2 g2 n2 u2 A9z k2 c9z,fun h=>PP.out.1 (more_of (by decide) h),fun h=>PP.out.2.1 (more_of (by decide) h),fun h=>PP.out.2.2.1 (more_of (by decide) h),fun h=>PP.out.2.2.2.1 (more_of (by decide) h),fun h=>PP.out.2.2.2.2.1 (more_of (by decide) h),fun h=>PP.out.2.2.2.2.2.1 (more_of (by decide) h),fun h=>(by obtain ⟨A7,c7,q1,q⟩:=PP.out.2.2.2.2.2.2.1 (more_of (by decide) h);exact ⟨A7,c7,q1,Arg.offM Z5.out (grown_six _ _ _ _ _ _ _ _ _ _) q⟩),fun h=>(by obtain ⟨A8,c8,A9,c9,q1,q⟩:=PP.out.2.2.2.2.2.2.2.1 (more_of (by decide) h);exact ⟨A8,c8,A9,c9,q1,⟨q.1.boxSix Z5.out v2 a2 g2 n2 u2 A9z k2 c9z,q.2.boxSix Z5.out v2 a2 g2 n2 u2 A9z k2 c9z⟩⟩),fun h=>(by obtain ⟨A8,c8,A9,c9,q1,q⟩:=PP.out.2.2.2.2.2.2.2.2.1 (more_of (by decide) h);exact ⟨A8,c8,A9,c9,q1,⟨q.1.boxSix Z5.out v2 a2 g2 n2 u2 A9z k2 c9z,q.2.boxSix Z5.out v2 a2 g2 n2 u2 A9z k2 c9z⟩⟩),fun _=>⟨A9z,c9z,rfl,F9.out.boxSix Z5.out v2 a2 g2 n2 u2 A9z k2 c9z⟩,fun h=>(by obtain ⟨A9,c9,q1,q⟩:=PP.out.2.2.2.2.2.2.2.2.2.2.1 (more_of (by decide) h);exact ⟨A9,c9,q1,q.boxSix Z5.out v2 a2 g2 n2 u2 A9z k2 c9z⟩),fun h=>PP.out.2.2.2.2.2.2.2.2.2.2.2.1 (more_of (by decide) h),fun _=>⟨h5,rfl,l5,fun h=>by simp at h⟩,fun _=>⟨keep_of q12,h5,A9z,c9z,rfl,l5,Z5.out.sixM v2 a2 g2 n2 u2 A9z k2 c9z,F9.out.boxSix Z5.out v2 a2 g2 n2 u2 A9z k2 c9z⟩,fun h=>(by obtain ⟨A9,c9,q1,q⟩:=PP.out.2.2.2.2.2.2.2.2.2.2.2.2.2.2.1 (more_of (by decide) h);exact ⟨A9,c9,q1,q.boxSix Z5.out v2 a2 g2 n2 u2 A9z k2 c9z⟩),fun h=>PP.out.2.2.2.2.2.2.2.2.2.2.2.2.2.2.2 (more_of (by decide) h)⟩
    ·intro f ax wx hJ hf hd K' hK
     obtain ⟨x0,x1,x2,x3,x4,x5,x6,x7,x8,x9,x10,x11,x12,x13,x14,x15,hax,hB,hp⟩:=hJ
     simp only [Act.put,stA,scZ,scS] at hax
     subst hax
     have HK:=Lh hK
     have PP:=Lh hp
     have HF:=Lh hf
     obtain ⟨A9,c9,e10,f10⟩:=PP.out.2.2.2.2.2.2.2.2.2.2.1 (deps_at (k:=0) rfl rfl rfl hd)
     subst e10
     have F10:=Lh f10
     clear f10
     clear hK hp hf hd
     go_simp
     exact HK.out _ _ ⟨x0,x1,x2,x3,x4,x5,x6,x7,x8,x9,.slice A9 nl c9,x11,x12,x13,.slice A9 nl c9,x15,(by simp only [Act.put,stA,scZ,scS]),hB,fun h=>PP.out.1 (more_of (by decide) h),fun h=>PP.out.2.1 (more_of (by decide) h),fun h=>PP.out.2.2.1 (more_of (by decide) h),fun h=>PP.out.2.2.2.1 (more_of (by decide) h),fun h=>PP.out.2.2.2.2.1 (more_of (by decide) h),fun h=>PP.out.2.2.2.2.2.1 (more_of (by decide) h),fun h=>PP.out.2.2.2.2.2.2.1 (more_of (by decide) h),fun h=>PP.out.2.2.2.2.2.2.2.1 (more_of (by decide) h),fun h=>PP.out.2.2.2.2.2.2.2.2.1 (more_of (by decide) h),fun h=>PP.out.2.2.2.2.2.2.2.2.2.1 (more_of (by decide) h),fun _=>⟨A9,c9,rfl,F10.out⟩,fun h=>PP.out.2.2.2.2.2.2.2.2.2.2.2.1 (more_of (by decide) h),fun h=>(by obtain ⟨h5,q1,q2,q3⟩:=PP.out.2.2.2.2.2.2.2.2.2.2.2.2.1 (more_of (by decide) h);exact ⟨h5,q1,q2,fun h0=>q3 (less_of (by decide) h0)⟩),fun h=>(by obtain ⟨q0,h5,A8,c8,q1,q2,q3,q4⟩:=PP.out.2.2.2.2.2.2.2.2.2.2.2.2.2.1 (more_of (by decide) h);exact ⟨keep_of q0,h5,A8,c8,q1,q2,q3,q4⟩),fun _=>⟨A9,c9,rfl,F10.out⟩,fun h=>PP.out.2.2.2.2.2.2.2.2.2.2.2.2.2.2.2 (more_of (by decide) h)⟩
    ·intro f ax wx hJ hf hd K' hK
     obtain ⟨x0,x1,x2,x3,x4,x5,x6,x7,x8,x9,x10,x11,x12,x13,x14,x15,hax,hB,hp⟩:=hJ
     simp only [Act.put,stA,scZ,scS] at hax
     subst hax
     have HK:=Lh hK
     have PP:=Lh hp
     have HF:=Lh hf
     have e11:=PP.out.2.2.2.2.2.2.2.2.2.2.2.1 (deps_at (k:=0) rfl rfl rfl hd)
     subst e11
     clear hK hp hf hd
     go_simp
     exact HK.out _ _ ⟨x0,x1,x2,x3,x4,x5,x6,x7,x8,x9,x10,.int .i64 0,x12,x13,x14,.int .i64 0,(by simp only [Act.put,stA,scZ,scS]),hB,fun h=>PP.out.1 (more_of (by decide) h),fun h=>PP.out.2.1 (more_of (by decide) h),fun h=>PP.out.2.2.1 (more_of (by decide) h),fun h=>PP.out.2.2.2.1 (more_of (by decide) h),fun h=>PP.out.2.2.2.2.1 (more_of (by decide) h),fun h=>PP.out.2.2.2.2.2.1 (more_of (by decide) h),fun h=>PP.out.2.2.2.2.2.2.1 (more_of (by decide) h),fun h=>PP.out.2.2.2.2.2.2.2.1 (more_of (by decide) h),fun h=>PP.out.2.2.2.2.2.2.2.2.1 (more_of (by decide) h),fun h=>PP.out.2.2.2.2.2.2.2.2.2.1 (more_of (by decide) h),fun h=>PP.out.2.2.2.2.2.2.2.2.2.2.1 (more_of (by decide) h),fun _=>rfl,fun h=>(by obtain ⟨h5,q1,q2,q3⟩:=PP.out.2.2.2.2.2.2.2.2.2.2.2.2.1 (more_of (by decide) h);exact ⟨h5,q1,q2,fun h0=>q3 (less_of (by decide) h0)⟩),fun h=>(by obtain ⟨q0,h5,A8,c8,q1,q2,q3,q4⟩:=PP.out.2.2.2.2.2.2.2.2.2.2.2.2.2.1 (more_of (by decide) h);exact ⟨keep_of q0,h5,A8,c8,q1,q2,q3,q4⟩),fun h=>PP.out.2.2.2.2.2.2.2.2.2.2.2.2.2.2.1 (more_of (by decide) h),fun _=>rfl⟩
   ·intro f ax wx hall hJ fuel
    obtain ⟨x0,x1,x2,x3,x4,x5,x6,x7,x8,x9,x10,x11,x12,x13,x14,x15,hax,hB,hp⟩:=hJ
    simp only [Act.put,stA,scZ,scS] at hax
    have e0:=hp.1 (hall 0 (by decide))
    have e1:=hp.2.1 (hall 1 (by decide))
    have e2:=hp.2.2.1 (hall 2 (by decide))
    have e3:=hp.2.2.2.1 (hall 3 (by decide))
    have e4:=hp.2.2.2.2.1 (hall 4 (by decide))
    have e5:=hp.2.2.2.2.2.1 (hall 5 (by decide))
    obtain ⟨A7,c7,e6,f6⟩:=hp.2.2.2.2.2.2.1 (hall 6 (by decide))
    obtain ⟨A8,c8,A9,c9,e7,f7⟩:=hp.2.2.2.2.2.2.2.1 (hall 7 (by decide))
    obtain ⟨A8,c8,A9,c9,e8,f8⟩:=hp.2.2.2.2.2.2.2.2.1 (hall 8 (by decide))
    obtain ⟨A8,c8,e9,f9⟩:=hp.2.2.2.2.2.2.2.2.2.1 (hall 9 (by decide))
    obtain ⟨A9,c9,e10,f10⟩:=hp.2.2.2.2.2.2.2.2.2.2.1 (hall 10 (by decide))
    have e11:=hp.2.2.2.2.2.2.2.2.2.2.2.1 (hall 11 (by decide))
    have r12:=hp.2.2.2.2.2.2.2.2.2.2.2.2.1 (hall 12 (by decide))
    have r13:=hp.2.2.2.2.2.2.2.2.2.2.2.2.2.1 (hall 13 (by decide))
    obtain ⟨A9,c9,e14,f14⟩:=hp.2.2.2.2.2.2.2.2.2.2.2.2.2.2.1 (hall 14 (by decide))
    have e15:=hp.2.2.2.2.2.2.2.2.2.2.2.2.2.2.2 (hall 15 (by decide))
    subst e0 e1 e2 e3 e4 e5 e6 e7 e8 e9 e10 e11 e14 e15
    obtain ⟨_,h5,A8,c8,q1,l5,hz5,ho1⟩:=r13
    subst q1
    subst hax
    have O1:=Lh ho1
    have O2:=Lh f14
    have H6:=Lh hB
    have L5:=Lh l5
    have Z5:=Lh hz5
    clear f6 f7 f8 f9 f10 f14 r12 hp hall hB ho1 hz5
    refine wpAny_done (by kernel_rfl) ?_ _
    have XD:=Lh (XD.out.below H6.out XD.out.lt)
    have XM:=Lh (XM.out.below H6.out XM.out.lt)
    have HD:=Lh (HD.out.below H6.out)
    have HB:=Lh (HB.out.trans (H6.out.mono HB.out.size))
    clear keepX H6 HR NT PC
    obtain ⟨LA,hoa,hax⟩:=O2.out.is
    have DN:=Lh (done12_any D d D' d' S [] A9 nl c9 _ LA L nl S' [] wx (Dsk.of_own HD.out) HS.out hoa hax (by rw [Int.toNat_natCast];exact DNL.out.1) O2.out.byte (Nat.le_trans DNL.out.2.1 (by decide)))
    clear hoa hax O2
    obtain ⟨x0,x1⟩:=XD.out.two_
    have hcase:((j:Int) < 4∧nl=2)∨¬ (j:Int) < 4:=by
     by_cases h:(j:Int) < 4
     ·exact .inl ⟨h,LL2.out h⟩
     ·exact .inr h
    clear LL2
    rcases hcase with ⟨hj4,rfl⟩ | hj4
    all_goals (
     go_wp2_with fail
     refine DN.out.mono ?_
     rintro e w7 ⟨Ad,kd,Ad',kd',rfl,hdd,hsd,hb⟩
     have hOD:=hdd.own (HD.out.below hb) HB.out.size
     have XD:=Lh (XD.out.below hb XD.out.lt)
     have XM:=Lh (XM.out.below hb XM.out.lt)
     have Z5:=Lh (Z5.out.below hb Z5.out.lt)
     have O1:=Lh (O1.out.below hb)
     have HB:=Lh (HB.out.trans (hb.mono HB.out.size))
     have OD:=Lh hOD
     have SM:=Lh hsd
     clear hdd hsd hOD hb DN HD x0 x1
     have L7:=Lh (show w2.heap.size + 1 < w7.heap.size from XM.out.lt)
     have hY:=Blk.new w7 25 [.slice Ad S'.length kd,.slice Ad' 0 kd']
     have hk:Below w7.heap.size w7 (w7.alloc (.cells #[.slice Ad S'.length kd,.slice Ad' 0 kd'] 25)):=(Below.refl _ _).alloc (Nat.le_refl _) _
     have XD:=Lh (XD.out.below hk XD.out.lt)
     have XM:=Lh (XM.out.below hk XM.out.lt)
     have Z5:=Lh (Z5.out.below hk Z5.out.lt)
     have O1:=Lh (O1.out.below hk)
     have HB:=Lh (HB.out.trans (hk.mono HB.out.size))
     have OD:=Lh (OD.out.below hk)
     have Y8:=Lh hY
     clear hY hk
     go_upto_region 13 with fail
     obtain ⟨w8,hw8⟩:∃ y,y=w7.alloc (.cells #[.slice Ad S'.length kd,.slice Ad' 0 kd'] 25):=⟨_,rfl⟩
     rw [← hw8] at XD XM Z5 O1 HB OD Y8 ⊢
     clear hw8
     obtain ⟨yb,hyb⟩:∃ y,y=w7.heap.size:=⟨_,rfl⟩
     rw [← hyb] at Y8 L7 ⊢
     clear hyb
     have n1:w2.heap.size + 1 < yb:=L7.out
     have n2':w2.heap.size + 1 < h5:=Nat.lt_of_lt_of_le hlt2 L5.out
     obtain ⟨p0,p1⟩:=Y8.out.two_
     obtain ⟨q0,q1,q2,q3,q4,q5⟩:=Z5.out.met
     obtain ⟨x0,x1⟩:=XD.out.two_
     obtain ⟨y0,y1,y2,y3,y4,y5⟩:=XM.out.met
     have f0:=XD.out.free
     have f1:=XM.out.free
     have keepX:∀ wx,Blk wx yb 25 [.slice Ad S'.length kd,.slice Ad' 0 kd']→Blk wx h5 32 (metL v2 a2 g2 n2 u2 A8 k2 c8)→wx.cell? ⟨yb,0,none⟩=some (.slice Ad S'.length kd)∧wx.cell? ⟨yb,1,none⟩=some (.slice Ad' 0 kd')∧wx.cell? ⟨h5,0,none⟩=some (.int .u32 v2)∧wx.cell? ⟨h5,1,none⟩=some (.int .i64 a2)∧wx.cell? ⟨h5,2,none⟩=some (.int .u64 g2)∧wx.cell? ⟨h5,3,none⟩=some (.int .i64 n2)∧wx.cell? ⟨h5,4,none⟩=some (.int .i64 u2)∧wx.cell? ⟨h5,5,none⟩=some (.slice A8 k2 c8):=fun wx hy hz=>by
      obtain ⟨a0,a1⟩:=hy.two_
      obtain ⟨b0,b1,b2,b3,b4,b5⟩:=hz.met
      exact ⟨a0,a1,b0,b1,b2,b3,b4,b5⟩
     have kD:∀ {wx:World} {H:Nat} {t:TypeId} {cs:List Value},Blk wx H t cs→Blk wx.drew H t cs:=fun h=>h.below ((Below.refl _ _).drew) h.lt
     have k0:=keepX _ (kD Y8.out) (kD Z5.out)
     have e1:=((Y8.out.away (g':=w2.heap.size) (by omega) 0 (.slice Ad S'.length kd)).away (g':=w2.heap.size) (by omega) 1 (.slice Ad' 0 kd'))
     have e2:=((Z5.out.away (g':=w2.heap.size) (by omega) 0 (.slice Ad S'.length kd)).away (g':=w2.heap.size) (by omega) 1 (.slice Ad' 0 kd'))
     have k1:=keepX _ (kD e1) (kD e2)
     have k3:=keepX _ (kD (e1.sixOff (G:=w2.heap.size + 1) (by omega) v2 a2 g2 n2 u2 A8 k2 c8)) (kD (e2.sixOff (G:=w2.heap.size + 1) (by omega) v2 a2 g2 n2 u2 A8 k2 c8))
     clear keepX kD e1 e2
     go_region_held3 (fun w'=>w'.cell? ⟨yb,0,none⟩=some (.slice Ad S'.length kd)∧w'.cell? ⟨yb,1,none⟩=some (.slice Ad' 0 kd')∧w'.cell? ⟨h5,0,none⟩=some (.int .u32 v2)∧w'.cell? ⟨h5,1,none⟩=some (.int .i64 a2)∧w'.cell? ⟨h5,2,none⟩=some (.int .u64 g2)∧w'.cell? ⟨h5,3,none⟩=some (.int .i64 n2)∧w'.cell? ⟨h5,4,none⟩=some (.int .i64 u2)∧w'.cell? ⟨h5,5,none⟩=some (.slice A8 k2 c8)) (first | with_reducible exact k0 | with_reducible exact k1 | with_reducible exact k3) (fail)
     clear k0 k1 k3 p0 p1 q0 q1 q2 q3 q4 q5 x0 x1 y0 y1 y2 y3 y4 y5 f0 f1
     all_goals (
      have BX:=XD.out.two (.slice Ad S'.length kd) (.slice Ad' 0 kd')
      have BM:=(XM.out.away (g':=w2.heap.size) (by omega) 0 (.slice Ad S'.length kd)).away (g':=w2.heap.size) (by omega) 1 (.slice Ad' 0 kd')
      have FD:=Lh ((BX.sixOff (G:=w2.heap.size + 1) (by omega) v2 a2 g2 n2 u2 A8 k2 c8).below ((Below.refl _ _).drew) (BX.sixOff (G:=w2.heap.size + 1) (by omega) v2 a2 g2 n2 u2 A8 k2 c8).lt)
      have FM:=Lh ((BM.sixM v2 a2 g2 n2 u2 A8 k2 c8).below ((Below.refl _ _).drew) (BM.sixM v2 a2 g2 n2 u2 A8 k2 c8).lt)
      have FO:=Lh (((OD.out.two XD.out (.slice Ad S'.length kd) (.slice Ad' 0 kd')).sixM BM v2 a2 g2 n2 u2 A8 k2 c8).below ((Below.refl _ _).drew))
      have FR:=Lh ((((O1.out.boxD XD.out 0 (.slice Ad S'.length kd)).boxD (XD.out.set 0 _) 1 (.slice Ad' 0 kd')).boxSix BM v2 a2 g2 n2 u2 A8 k2 c8).below ((Below.refl _ _).drew))
      have FB:=Lh ((below_sixM (below_two HB.out HS0.out (.slice Ad S'.length kd) (.slice Ad' 0 kd')) (show w.heap.size≤w2.heap.size + 1 from Nat.le_trans HS0.out (Nat.le_succ _)) v2 a2 g2 n2 u2 A8 k2 c8).drew)
      clear BX BM XD XM OD O1 HB
      go_wp2
      go_roundw
      case rel =>
       have e:=DNL.out.2.2.2.2.1
       refine ⟨j + 1,S',Ad,kd,Ad',kd',A8,c8,by omega,by go_num,FD.out,?_,FO.out,SM.out,?_,DNL.out.2.2.2.2.2,FB.out⟩
       ·rw [← e]
        dsimp only
        rw [← DNL.out.2.2.1]
        exact FM.out
       ·rw [← e]
        dsimp only
        rw [← DNL.out.2.2.1]
        exact FR.out
      all_goals (try case measure=>simp [intOf];omega)))
  ·have hje:j=5:=by omega
   have hjn:¬ (j:Int) < 5:=by omega
   have KT:=HI.out.R.seen
   have P5:=Lh (fun wx hx=>PO.out S D d D' d' wx hx HS.out)
   rw [KT.1,KT.2] at P5
   unfold MetOut at P5
   have al5:alM j=⟨(1,1,65537),1,1,[noteR 1 5]⟩:=by rw [hje];rfl
   rw [al5] at P5 XM HR
   dsimp only [List.length_cons,List.length_nil,Nat.zero_add] at P5
   clear KT al5 hje hj5
   have keepX:∀ wx,Below wr.heap.size wr wx→wx.cell? ⟨w2.heap.size,0,none⟩=some (.slice D S.length d)∧wx.cell? ⟨w2.heap.size,1,none⟩=some (.slice D' 0 d'):=fun wx hx=>(XD.out.below hx XD.out.lt).two_
   go_upto_region 14 with fail
   refine wp_region_upto2 rfl 9 (fun a0 f ax wx=>∃ x0 x1 x2 x3 x4 x5 x6 x7 x8:Value,ax=((((((((a0.put (some 71) x0).put (some 72) x1).put (some 73) x2).put (some 70) x3).put (some 74) x4).put (some 75) x5).put (some 10) x6).put (some 11) x8)∧Below wr.heap.size wr wx∧(f 0=true→x0=cfgV 2 9 4 2 2 8)∧(f 1=true→x1=.agg #[.slice D S.length d,.slice D' 0 d'])∧(f 2=true→∃ A8 c8,x2=.tuple #[metV 1 1 65537 1 0 A8 1 c8,.int .i64 0]∧OwnRecs wx w.heap.size A8 1 c8 [noteR 1 5])∧(f 3=true→∃ A8 c8,x3=.tuple #[metV 1 1 65537 1 0 A8 1 c8,.int .i64 0]∧OwnRecs wx w.heap.size A8 1 c8 [noteR 1 5])∧(f 4=true→∃ A8 c8,x4=metV 1 1 65537 1 0 A8 1 c8∧OwnRecs wx w.heap.size A8 1 c8 [noteR 1 5])∧(f 5=true→x5=.int .i64 0)∧(f 6=true→∃ h5:Nat,x6=.pointer (some ⟨h5,0,none⟩)∧wr.heap.size≤h5∧(f 7=false→Blk wx h5 32 (metL 0 0 0 0 0 none 0 0)))∧(f 7=true→f 6=true∧∃ (h5:Nat) (A8:Option Addr) (c8:Nat),x6=.pointer (some ⟨h5,0,none⟩)∧wr.heap.size≤h5∧Blk wx h5 32 (metL 1 1 65537 1 0 A8 1 c8)∧OwnRecs wx w.heap.size A8 1 c8 [noteR 1 5])∧(f 8=true→x8=.int .i64 0)) (by decide) (by kernel_rfl) ?_ ?_ ?_
   ·exact ⟨undef,undef,undef,undef,undef,undef,undef,undef,undef,(by simp only [Act.put,stA,scZ,scS]),(Below.refl _ _).drew,(fun h=>by cases h),(fun h=>by cases h),(fun h=>by cases h),(fun h=>by cases h),(fun h=>by cases h),(fun h=>by cases h),(fun h=>by cases h),(fun h=>by cases h),(fun h=>by cases h)⟩
   ·refine ⟨⟨⟨⟨⟨⟨⟨⟨⟨trivial,?_⟩,?_⟩,?_⟩,?_⟩,?_⟩,?_⟩,?_⟩,?_⟩,?_⟩
    ·intro f ax wx hJ hf hd K' hK
     obtain ⟨x0,x1,x2,x3,x4,x5,x6,x7,x8,hax,hB,hp⟩:=hJ
     simp only [Act.put,stA,scZ,scS] at hax
     subst hax
     have HK:=Lh hK
     have PP:=Lh hp
     have HF:=Lh hf
     clear hK hp hf hd
     go_simp
     go_wp2_with (go_at_call 9;refine (TW.out _).mono ?_;rintro e w3 ⟨rfl,hb⟩)
     exact HK.out _ _ ⟨cfgV 2 9 4 2 2 8,x1,x2,x3,x4,x5,x6,x7,x8,(by simp only [Act.put,stA,scZ,scS]),hB.trans (hb.mono hB.size),fun _=>rfl,fun h=>PP.out.2.1 (more_of (by decide) h),fun h=>(by obtain ⟨A8,c8,q1,q⟩:=PP.out.2.2.1 (more_of (by decide) h);exact ⟨A8,c8,q1,q.below hb⟩),fun h=>(by obtain ⟨A8,c8,q1,q⟩:=PP.out.2.2.2.1 (more_of (by decide) h);exact ⟨A8,c8,q1,q.below hb⟩),fun h=>(by obtain ⟨A8,c8,q1,q⟩:=PP.out.2.2.2.2.1 (more_of (by decide) h);exact ⟨A8,c8,q1,q.below hb⟩),fun h=>PP.out.2.2.2.2.2.1 (more_of (by decide) h),fun h=>(by obtain ⟨h5,q1,q2,q3⟩:=PP.out.2.2.2.2.2.2.1 (more_of (by decide) h);exact ⟨h5,q1,q2,fun h0=>(q3 (less_of (by decide) h0)).below hb (q3 (less_of (by decide) h0)).lt⟩),fun h=>(by obtain ⟨q0,h5,A8,c8,q1,q2,q3,q4⟩:=PP.out.2.2.2.2.2.2.2.1 (more_of (by decide) h);exact ⟨keep_of q0,h5,A8,c8,q1,q2,q3.below hb q3.lt,q4.below hb⟩),fun h=>PP.out.2.2.2.2.2.2.2.2 (more_of (by decide) h)⟩
    ·intro f ax wx hJ hf hd K' hK
     obtain ⟨x0,x1,x2,x3,x4,x5,x6,x7,x8,hax,hB,hp⟩:=hJ
     simp only [Act.put,stA,scZ,scS] at hax
     subst hax
     have HK:=Lh hK
     have PP:=Lh hp
     have HF:=Lh hf
     clear hK hp hf hd
     obtain ⟨cd0,cd1⟩:=keepX _ hB
     go_simp
     exact HK.out _ _ ⟨x0,.agg #[.slice D S.length d,.slice D' 0 d'],x2,x3,x4,x5,x6,x7,x8,(by simp only [Act.put,stA,scZ,scS]),hB,fun h=>PP.out.1 (more_of (by decide) h),fun _=>rfl,fun h=>PP.out.2.2.1 (more_of (by decide) h),fun h=>PP.out.2.2.2.1 (more_of (by decide) h),fun h=>PP.out.2.2.2.2.1 (more_of (by decide) h),fun h=>PP.out.2.2.2.2.2.1 (more_of (by decide) h),fun h=>(by obtain ⟨h5,q1,q2,q3⟩:=PP.out.2.2.2.2.2.2.1 (more_of (by decide) h);exact ⟨h5,q1,q2,fun h0=>q3 (less_of (by decide) h0)⟩),fun h=>(by obtain ⟨q0,h5,A8,c8,q1,q2,q3,q4⟩:=PP.out.2.2.2.2.2.2.2.1 (more_of (by decide) h);exact ⟨keep_of q0,h5,A8,c8,q1,q2,q3,q4⟩),fun h=>PP.out.2.2.2.2.2.2.2.2 (more_of (by decide) h)⟩
    ·intro f ax wx hJ hf hd K' hK
     obtain ⟨x0,x1,x2,x3,x4,x5,x6,x7,x8,hax,hB,hp⟩:=hJ
     simp only [Act.put,stA,scZ,scS] at hax
     subst hax
     have HK:=Lh hK
     have PP:=Lh hp
     have HF:=Lh hf
     have e0:=PP.out.1 (deps_at (k:=0) rfl rfl rfl hd)
     subst e0
     have e1:=PP.out.2.1 (deps_at (k:=1) rfl rfl rfl hd)
     subst e1
     clear hK hp hf hd
     go_simp
     go_wp2_with (go_at_call 13;refine (P5.out _ (Dsk.of_own (HD.out.below hB))).mono ?_;rintro e w3 ⟨A8,c8,rfl,hown,hb⟩)
     exact HK.out _ _ ⟨cfgV 2 9 4 2 2 8,.agg #[.slice D S.length d,.slice D' 0 d'],.tuple #[metV 1 1 65537 1 0 A8 1 c8,.int .i64 0],x3,x4,x5,x6,x7,x8,(by simp only [Act.put,stA,scZ,scS]),hB.trans (hb.mono hB.size),fun _=>rfl,fun _=>rfl,fun _=>⟨A8,c8,rfl,hown.lower (Nat.le_trans HB.out.size hB.size)⟩,fun h=>(by obtain ⟨A8,c8,q1,q⟩:=PP.out.2.2.2.1 (more_of (by decide) h);exact ⟨A8,c8,q1,q.below hb⟩),fun h=>(by obtain ⟨A8,c8,q1,q⟩:=PP.out.2.2.2.2.1 (more_of (by decide) h);exact ⟨A8,c8,q1,q.below hb⟩),fun h=>PP.out.2.2.2.2.2.1 (more_of (by decide) h),fun h=>(by obtain ⟨h5,q1,q2,q3⟩:=PP.out.2.2.2.2.2.2.1 (more_of (by decide) h);exact ⟨h5,q1,q2,fun h0=>(q3 (less_of (by decide) h0)).below hb (q3 (less_of (by decide) h0)).lt⟩),fun h=>(by obtain ⟨q0,h5,A8,c8,q1,q2,q3,q4⟩:=PP.out.2.2.2.2.2.2.2.1 (more_of (by decide) h);exact ⟨keep_of q0,h5,A8,c8,q1,q2,q3.below hb q3.lt,q4.below hb⟩),fun h=>PP.out.2.2.2.2.2.2.2.2 (more_of (by decide) h)⟩
    ·intro f ax wx hJ hf hd K' hK
     obtain ⟨x0,x1,x2,x3,x4,x5,x6,x7,x8,hax,hB,hp⟩:=hJ
     simp only [Act.put,stA,scZ,scS] at hax
     subst hax
     have HK:=Lh hK
     have PP:=Lh hp
     have HF:=Lh hf
     obtain ⟨A8,c8,e2,f2⟩:=PP.out.2.2.1 (deps_at (k:=0) rfl rfl rfl hd)
     subst e2
     have F2:=Lh f2
     clear f2
     clear hK hp hf hd
     go_simp
     exact HK.out _ _ ⟨x0,x1,.tuple #[metV 1 1 65537 1 0 A8 1 c8,.int .i64 0],.tuple #[metV 1 1 65537 1 0 A8 1 c8,.int .i64 0],x4,x5,x6,x7,x8,(by simp only [Act.put,stA,scZ,scS]),hB,fun h=>PP.out.1 (more_of (by decide) h),fun h=>PP.out.2.1 (more_of (by decide) h),fun _=>⟨A8,c8,rfl,F2.out⟩,fun _=>⟨A8,c8,rfl,F2.out⟩,fun h=>PP.out.2.2.2.2.1 (more_of (by decide) h),fun h=>PP.out.2.2.2.2.2.1 (more_of (by decide) h),fun h=>(by obtain ⟨h5,q1,q2,q3⟩:=PP.out.2.2.2.2.2.2.1 (more_of (by decide) h);exact ⟨h5,q1,q2,fun h0=>q3 (less_of (by decide) h0)⟩),fun h=>(by obtain ⟨q0,h5,A8,c8,q1,q2,q3,q4⟩:=PP.out.2.2.2.2.2.2.2.1 (more_of (by decide) h);exact ⟨keep_of q0,h5,A8,c8,q1,q2,q3,q4⟩),fun h=>PP.out.2.2.2.2.2.2.2.2 (more_of (by decide) h)⟩
    ·intro f ax wx hJ hf hd K' hK
     obtain ⟨x0,x1,x2,x3,x4,x5,x6,x7,x8,hax,hB,hp⟩:=hJ
     simp only [Act.put,stA,scZ,scS] at hax
     subst hax
     have HK:=Lh hK
     have PP:=Lh hp
     have HF:=Lh hf
     obtain ⟨A8,c8,e3,f3⟩:=PP.out.2.2.2.1 (deps_at (k:=0) rfl rfl rfl hd)
     subst e3
     have F3:=Lh f3
     clear f3
     clear hK hp hf hd
     go_simp
     exact HK.out _ _ ⟨x0,x1,x2,.tuple #[metV 1 1 65537 1 0 A8 1 c8,.int .i64 0],metV 1 1 65537 1 0 A8 1 c8,x5,x6,x7,x8,(by simp only [Act.put,stA,scZ,scS]),hB,fun h=>PP.out.1 (more_of (by decide) h),fun h=>PP.out.2.1 (more_of (by decide) h),fun h=>PP.out.2.2.1 (more_of (by decide) h),fun _=>⟨A8,c8,rfl,F3.out⟩,fun _=>⟨A8,c8,rfl,F3.out⟩,fun h=>PP.out.2.2.2.2.2.1 (more_of (by decide) h),fun h=>(by obtain ⟨h5,q1,q2,q3⟩:=PP.out.2.2.2.2.2.2.1 (more_of (by decide) h);exact ⟨h5,q1,q2,fun h0=>q3 (less_of (by decide) h0)⟩),fun h=>(by obtain ⟨q0,h5,A8,c8,q1,q2,q3,q4⟩:=PP.out.2.2.2.2.2.2.2.1 (more_of (by decide) h);exact ⟨keep_of q0,h5,A8,c8,q1,q2,q3,q4⟩),fun h=>PP.out.2.2.2.2.2.2.2.2 (more_of (by decide) h)⟩
    ·intro f ax wx hJ hf hd K' hK
     obtain ⟨x0,x1,x2,x3,x4,x5,x6,x7,x8,hax,hB,hp⟩:=hJ
     simp only [Act.put,stA,scZ,scS] at hax
     subst hax
     have HK:=Lh hK
     have PP:=Lh hp
     have HF:=Lh hf
     obtain ⟨A8,c8,e3,f3⟩:=PP.out.2.2.2.1 (deps_at (k:=0) rfl rfl rfl hd)
     subst e3
     have F3:=Lh f3
     clear f3
     clear hK hp hf hd
     go_simp
     exact HK.out _ _ ⟨x0,x1,x2,.tuple #[metV 1 1 65537 1 0 A8 1 c8,.int .i64 0],x4,.int .i64 0,x6,x7,x8,(by simp only [Act.put,stA,scZ,scS]),hB,fun h=>PP.out.1 (more_of (by decide) h),fun h=>PP.out.2.1 (more_of (by decide) h),fun h=>PP.out.2.2.1 (more_of (by decide) h),fun _=>⟨A8,c8,rfl,F3.out⟩,fun h=>PP.out.2.2.2.2.1 (more_of (by decide) h),fun _=>rfl,fun h=>(by obtain ⟨h5,q1,q2,q3⟩:=PP.out.2.2.2.2.2.2.1 (more_of (by decide) h);exact ⟨h5,q1,q2,fun h0=>q3 (less_of (by decide) h0)⟩),fun h=>(by obtain ⟨q0,h5,A8,c8,q1,q2,q3,q4⟩:=PP.out.2.2.2.2.2.2.2.1 (more_of (by decide) h);exact ⟨keep_of q0,h5,A8,c8,q1,q2,q3,q4⟩),fun h=>PP.out.2.2.2.2.2.2.2.2 (more_of (by decide) h)⟩
    ·intro f ax wx hJ hf hd K' hK
     obtain ⟨x0,x1,x2,x3,x4,x5,x6,x7,x8,hax,hB,hp⟩:=hJ
     simp only [Act.put,stA,scZ,scS] at hax
     subst hax
     have HK:=Lh hK
     have PP:=Lh hp
     have HF:=Lh hf
     clear hK hp hf hd
     go_simp
     exact HK.out _ _ ⟨x0,x1,x2,x3,x4,x5,.pointer (some ⟨wx.heap.size,0,none⟩),x7,x8,(by simp only [Act.put,stA,scZ,scS]),hB.trans (((Below.refl _ _).alloc (Nat.le_refl _) _).mono hB.size),fun h=>PP.out.1 (more_of (by decide) h),fun h=>PP.out.2.1 (more_of (by decide) h),fun h=>(by obtain ⟨A8,c8,q1,q⟩:=PP.out.2.2.1 (more_of (by decide) h);exact ⟨A8,c8,q1,q.below ((Below.refl _ _).alloc (Nat.le_refl _) _)⟩),fun h=>(by obtain ⟨A8,c8,q1,q⟩:=PP.out.2.2.2.1 (more_of (by decide) h);exact ⟨A8,c8,q1,q.below ((Below.refl _ _).alloc (Nat.le_refl _) _)⟩),fun h=>(by obtain ⟨A8,c8,q1,q⟩:=PP.out.2.2.2.2.1 (more_of (by decide) h);exact ⟨A8,c8,q1,q.below ((Below.refl _ _).alloc (Nat.le_refl _) _)⟩),fun h=>PP.out.2.2.2.2.2.1 (more_of (by decide) h),fun _=>⟨_,rfl,hB.size,fun _=>Blk.new _ _ _⟩,fun h=>(by have h0:=(PP.out.2.2.2.2.2.2.2.1 (more_of (by decide) h)).1;rw [HF.out] at h0;cases h0),fun h=>PP.out.2.2.2.2.2.2.2.2 (more_of (by decide) h)⟩
    ·intro f ax wx hJ hf hd K' hK
     obtain ⟨x0,x1,x2,x3,x4,x5,x6,x7,x8,hax,hB,hp⟩:=hJ
     simp only [Act.put,stA,scZ,scS] at hax
     subst hax
     have HK:=Lh hK
     have PP:=Lh hp
     have HF:=Lh hf
     obtain ⟨A9z,c9z,e4,f4⟩:=PP.out.2.2.2.2.1 (deps_at (k:=1) rfl rfl rfl hd)
     subst e4
     have F4:=Lh f4
     clear f4
     obtain ⟨h5,e6,l5,z5⟩:=PP.out.2.2.2.2.2.2.1 (deps_at (k:=0) rfl rfl rfl hd)
     subst e6
     have Z5:=Lh (z5 hf)
     clear z5
     have q12:=deps_at (k:=0) rfl rfl rfl hd
     clear hK hp hf hd
     obtain ⟨z0,z1,z2,z3,z4,z5⟩:=Z5.out.met
     have fz:=Z5.out.free
     go_simp
     exact HK.out _ _ ⟨x0,x1,x2,x3,metV 1 1 65537 1 0 A9z 1 c9z,x5,.pointer (some ⟨h5,0,none⟩),x7,x8,(by simp only [Act.put,stA,scZ,scS]),below_sixM hB l5 1 1 65537 1 0 A9z 1 c9z,fun h=>PP.out.1 (more_of (by decide) h),fun h=>PP.out.2.1 (more_of (by decide) h),fun h=>(by obtain ⟨A8,c8,q1,q⟩:=PP.out.2.2.1 (more_of (by decide) h);exact ⟨A8,c8,q1,q.boxSix Z5.out 1 1 65537 1 0 A9z 1 c9z⟩),fun h=>(by obtain ⟨A8,c8,q1,q⟩:=PP.out.2.2.2.1 (more_of (by decide) h);exact ⟨A8,c8,q1,q.boxSix Z5.out 1 1 65537 1 0 A9z 1 c9z⟩),fun _=>⟨A9z,c9z,rfl,F4.out.boxSix Z5.out 1 1 65537 1 0 A9z 1 c9z⟩,fun h=>PP.out.2.2.2.2.2.1 (more_of (by decide) h),fun _=>⟨h5,rfl,l5,fun h=>by simp at h⟩,fun _=>⟨keep_of q12,h5,A9z,c9z,rfl,l5,Z5.out.sixM 1 1 65537 1 0 A9z 1 c9z,F4.out.boxSix Z5.out 1 1 65537 1 0 A9z 1 c9z⟩,fun h=>PP.out.2.2.2.2.2.2.2.2 (more_of (by decide) h)⟩
    ·intro f ax wx hJ hf hd K' hK
     obtain ⟨x0,x1,x2,x3,x4,x5,x6,x7,x8,hax,hB,hp⟩:=hJ
     simp only [Act.put,stA,scZ,scS] at hax
     subst hax
     have HK:=Lh hK
     have PP:=Lh hp
     have HF:=Lh hf
     have e5:=PP.out.2.2.2.2.2.1 (deps_at (k:=0) rfl rfl rfl hd)
     subst e5
     clear hK hp hf hd
     go_simp
     exact HK.out _ _ ⟨x0,x1,x2,x3,x4,.int .i64 0,x6,x7,.int .i64 0,(by simp only [Act.put,stA,scZ,scS]),hB,fun h=>PP.out.1 (more_of (by decide) h),fun h=>PP.out.2.1 (more_of (by decide) h),fun h=>PP.out.2.2.1 (more_of (by decide) h),fun h=>PP.out.2.2.2.1 (more_of (by decide) h),fun h=>PP.out.2.2.2.2.1 (more_of (by decide) h),fun _=>rfl,fun h=>(by obtain ⟨h5,q1,q2,q3⟩:=PP.out.2.2.2.2.2.2.1 (more_of (by decide) h);exact ⟨h5,q1,q2,fun h0=>q3 (less_of (by decide) h0)⟩),fun h=>(by obtain ⟨q0,h5,A8,c8,q1,q2,q3,q4⟩:=PP.out.2.2.2.2.2.2.2.1 (more_of (by decide) h);exact ⟨keep_of q0,h5,A8,c8,q1,q2,q3,q4⟩),fun _=>rfl⟩
   ·intro f ax wx hall hJ fuel
    obtain ⟨x0,x1,x2,x3,x4,x5,x6,x7,x8,hax,hB,hp⟩:=hJ
    simp only [Act.put,stA,scZ,scS] at hax
    have e0:=hp.1 (hall 0 (by decide))
    have e1:=hp.2.1 (hall 1 (by decide))
    obtain ⟨A8,c8,e2,f2⟩:=hp.2.2.1 (hall 2 (by decide))
    obtain ⟨A8,c8,e3,f3⟩:=hp.2.2.2.1 (hall 3 (by decide))
    obtain ⟨A8,c8,e4,f4⟩:=hp.2.2.2.2.1 (hall 4 (by decide))
    have e5:=hp.2.2.2.2.2.1 (hall 5 (by decide))
    have r6:=hp.2.2.2.2.2.2.1 (hall 6 (by decide))
    have r7:=hp.2.2.2.2.2.2.2.1 (hall 7 (by decide))
    have e8:=hp.2.2.2.2.2.2.2.2 (hall 8 (by decide))
    subst e0 e1 e2 e3 e4 e5 e8
    obtain ⟨_,h5,A8,c8,q1,l5,hz5,ho1⟩:=r7
    subst q1
    subst hax
    have O1:=Lh ho1
    have H6:=Lh hB
    have Z5:=Lh hz5
    clear f2 f3 f4 r6 hp hall hB ho1 hz5
    refine wpAny_done (by kernel_rfl) ?_ _
    obtain ⟨z0,z1,z2,z3,z4,z5⟩:=Z5.out.met
    obtain ⟨b1,o1,rfl,hlt1,k0,k1,k2,k3,k4,k5,k6,k7⟩:=(Recs.of_own O1.out).row (Nat.zero_lt_one)
    have BF:=Lh (HB.out.trans (H6.out.mono HB.out.size))
    have EQ:=Lh (fun wx=>eq_sup 1 1 65537 1 1 65537 wx)
    clear HB H6 keepX P5 XD XM HD HS HR HI TW PO Z5 O1 l5
    go_wp2
    go_ret
    exact ⟨rfl,BF.out⟩
end Go.Proofs.YtifgcfepbenpjaaGreat
