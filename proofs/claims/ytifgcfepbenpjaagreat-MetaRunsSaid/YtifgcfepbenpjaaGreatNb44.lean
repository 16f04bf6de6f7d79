/- Texts of layers 1 to 12, joined. -/
import Derived.Test.YtifgcfepbenpjaaGreatNb43
import Derived.Deep.RegionHeld3
set_option maxRecDepth 100000
set_option maxHeartbeats 12800000
set_option linter.unusedVariables false
namespace Go.Proofs.YtifgcfepbenpjaaGreat
open Go.RowKit
def cmE0 (P T A M W Q:Int) (S:List Sec) (C:List Pnd) (m:Mt):Int:=if m.n < A then 0 else if m.u=65535 then 9 else spE P T A M W Q S C (anewS m)
abbrev entV (P T A M W Q:Int) (D:Option Addr) (nd d:Nat) (D':Option Addr) (nd' d':Nat) (v a g n u:Int) (B:Option Addr) (k c:Nat) (Ab:Option Addr) (nb cb:Nat) (Bt:Option Addr) (kt ct:Nat):Value:=.agg #[.int .i64 P,.int .i64 T,.int .i64 A,.int .i64 M,.int .i64 W,.int .i64 Q,.slice D nd d,.slice D' nd' d',.int .u32 v,.int .i64 a,.int .u64 g,.int .i64 n,.int .i64 u,.slice B k c,.slice Ab nb cb,.slice Bt kt ct]
abbrev entL (P T A M W Q:Int) (D:Option Addr) (nd d:Nat) (D':Option Addr) (nd' d':Nat) (v a g n u:Int) (B:Option Addr) (k c:Nat) (Ab:Option Addr) (nb cb:Nat) (Bt:Option Addr) (kt ct:Nat):List Value:=[.int .i64 P,.int .i64 T,.int .i64 A,.int .i64 M,.int .i64 W,.int .i64 Q,.slice D nd d,.slice D' nd' d',.int .u32 v,.int .i64 a,.int .u64 g,.int .i64 n,.int .i64 u,.slice B k c,.slice Ab nb cb,.slice Bt kt ct]
theorem ent_box (w:World) (P T A M W Q:Int) (D:Option Addr) (nd d:Nat) (D':Option Addr) (nd' d':Nat) (v a g n u:Int) (B:Option Addr) (k c:Nat) (Ab:Option Addr) (nb cb:Nat) (Bt:Option Addr) (kt ct:Nat):Blk (w.alloc (.cells #[.int .i64 P,.int .i64 T,.int .i64 A,.int .i64 M,.int .i64 W,.int .i64 Q,.slice D nd d,.slice D' nd' d',.int .u32 v,.int .i64 a,.int .u64 g,.int .i64 n,.int .i64 u,.slice B k c,.slice Ab nb cb,.slice Bt kt ct] 98)) w.heap.size 98 (entL P T A M W Q D nd d D' nd' d' v a g n u B k c Ab nb cb Bt kt ct)∧Below w.heap.size w (w.alloc (.cells #[.int .i64 P,.int .i64 T,.int .i64 A,.int .i64 M,.int .i64 W,.int .i64 Q,.slice D nd d,.slice D' nd' d',.int .u32 v,.int .i64 a,.int .u64 g,.int .i64 n,.int .i64 u,.slice B k c,.slice Ab nb cb,.slice Bt kt ct] 98)):=⟨Blk.new w 98 (entL P T A M W Q D nd d D' nd' d' v a g n u B k c Ab nb cb Bt kt ct),(Below.refl _ _).alloc (Nat.le_refl _) _⟩
theorem Blk.ent {w:World} {G:Nat} {P T A M W Q:Int} {D:Option Addr} {nd d:Nat} {D':Option Addr} {nd' d':Nat} {v a g n u:Int} {B:Option Addr} {k c:Nat} {Ab:Option Addr} {nb cb:Nat} {Bt:Option Addr} {kt ct:Nat} (x:Blk w G 98 (entL P T A M W Q D nd d D' nd' d' v a g n u B k c Ab nb cb Bt kt ct)):w.cell? ⟨G,0,none⟩=some (.int .i64 P)∧w.cell? ⟨G,1,none⟩=some (.int .i64 T)∧w.cell? ⟨G,2,none⟩=some (.int .i64 A)∧w.cell? ⟨G,3,none⟩=some (.int .i64 M)∧w.cell? ⟨G,4,none⟩=some (.int .i64 W)∧w.cell? ⟨G,5,none⟩=some (.int .i64 Q)∧w.cell? ⟨G,6,none⟩=some (.slice D nd d)∧w.cell? ⟨G,7,none⟩=some (.slice D' nd' d')∧w.cell? ⟨G,8,none⟩=some (.int .u32 v)∧w.cell? ⟨G,9,none⟩=some (.int .i64 a)∧w.cell? ⟨G,10,none⟩=some (.int .u64 g)∧w.cell? ⟨G,11,none⟩=some (.int .i64 n)∧w.cell? ⟨G,12,none⟩=some (.int .i64 u)∧w.cell? ⟨G,13,none⟩=some (.slice B k c)∧w.cell? ⟨G,14,none⟩=some (.slice Ab nb cb)∧w.cell? ⟨G,15,none⟩=some (.slice Bt kt ct):=⟨x.cell 0,x.cell 1,x.cell 2,x.cell 3,x.cell 4,x.cell 5,x.cell 6,x.cell 7,x.cell 8,x.cell 9,x.cell 10,x.cell 11,x.cell 12,x.cell 13,x.cell 14,x.cell 15⟩
theorem pput12_any (G:Nat) (l:List Ac) (P T A M W Q:Int) (D:Option Addr) (nd d:Nat) (D':Option Addr) (nd' d':Nat) (S:List Sec) (C:List Pnd) (v a g n u:Int) (B:Option Addr) (k c:Nat) (t:List Rc) (Ab:Option Addr) (nb cb:Nat) (b:Txt) (base:Nat) (Bt:Option Addr) (kt ct:Nat) (t':List Rc) (w0 w:World) (hc:Gath w G l) (hq:Dsk w0 D nd d D' nd' d' S C) (hs:SmallD S C) (hwG:w0.heap.size≤G) (hb0:Below w0.heap.size w0 w) (hm:mayT P T A M W Q S C) (hkm:mayM P T A M W Q ⟨(v,a,g),n,u,t⟩) (hi:isS (v,a,g)) (hb:Arg w0 .u8 Ab nb cb b) (hby:∀ z ∈ b,isByte z) (hb1:1≤b.length) (hb20:b.length≤20) (ht:OwnRecs w base Bt kt ct t') (hmt:mayTab t') (hl:l.length≤50) :
  Calls Tryz.prog 37 #[entV P T A M W Q D nd d D' nd' d' v a g n u B k c Ab nb cb Bt kt ct,colF G] w (StepOut w G base (if cmE0 P T A M W Q S C ⟨(v,a,g),n,u,t⟩=0 then cmM A ⟨(v,a,g),n,u,t⟩ t' else zM) (l ++ cmA P T A M W Q S C ⟨(v,a,g),n,u,t⟩ b t') (cmE0 P T A M W Q S C ⟨(v,a,g),n,u,t⟩)):=by
 have hlen:t'.length=kt:=ht.2.1
 obtain ⟨x,hk1⟩:=ent_box w P T A M W Q D nd d D' nd' d' v a g n u B k c Ab nb cb Bt kt ct
 obtain ⟨z,h2⟩:=met_box (w.alloc (.cells #[.int .i64 P,.int .i64 T,.int .i64 A,.int .i64 M,.int .i64 W,.int .i64 Q,.slice D nd d,.slice D' nd' d',.int .u32 v,.int .i64 a,.int .u64 g,.int .i64 n,.int .i64 u,.slice B k c,.slice Ab nb cb,.slice Bt kt ct] 98)) 0 0 0 0 0 none 0 0
 rw [World.size_alloc] at z
 replace x:=x.below h2 x.lt
 replace hk1:=hk1.trans (h2.mono hk1.size)
 obtain ⟨w1,hw1⟩:∃ y,y=((w.alloc (.cells #[.int .i64 P,.int .i64 T,.int .i64 A,.int .i64 M,.int .i64 W,.int .i64 Q,.slice D nd d,.slice D' nd' d',.int .u32 v,.int .i64 a,.int .u64 g,.int .i64 n,.int .i64 u,.slice B k c,.slice Ab nb cb,.slice Bt kt ct] 98)).alloc (.cells #[.int .u32 0,.int .i64 0,.int .u64 0,.int .i64 0,.int .i64 0,.slice none 0 0] 32)):=⟨_,rfl⟩
 rw [← hw1] at x z hk1
 have hs1:w1.heap.size=w.heap.size + 2:=by rw [hw1,World.size_alloc,World.size_alloc]
 have X:=Lh x
 have Z:=Lh z
 have CO:=Lh (GathOut.of hc hk1)
 have B0:=Lh (hb0.trans (hk1.mono hb0.size))
 have OT:=Lh (ht.below hk1)
 have HGL:=Lh (show G < w.heap.size from hc.lt)
 have HS1:=Lh hs1
 obtain ⟨c0,c1,c2,c3,c4,c5,c6,c7,d0,d1,d2,d3,d4,d5,f0,f1⟩:=x.ent
 obtain ⟨y,hk2⟩:=met_box w1 v a g n u B k c
 obtain ⟨y0,y1,y2,y3,y4,y5⟩:=y.met
 have fy:=y.free
 have hn0:0≤n∧n≤A:=hkm.2.2.1
 clear x z hc hb0 h2 hk1 hs1 y hk2
 unfold StepOut
 by_cases hn:n < A
 ·have hE:cmE0 P T A M W Q S C ⟨(v,a,g),n,u,t⟩=0:=if_pos hn
  rw [hE,if_pos rfl,show cmM A ⟨(v,a,g),n,u,t⟩ t'=⟨(v,a,g),n + 1,u,t'⟩ from if_pos hn,show cmA P T A M W Q S C ⟨(v,a,g),n,u,t⟩ b t'=actsA [(2 + a * A + n,jT g n b)] from if_pos hn]
  dsimp only
  rw [hlen]
  have har:arJ a:=by have h:arS a:=hkm.2.1;unfold arS at h;unfold arJ;omega
  have WN:=Lh (fun wx (hx:Gath wx G l) (hy:Below w0.heap.size w0 wx)=>pwnote_any G l P T A M W Q D nd d D' nd' d' S C v a g n u B k c v a g n Ab nb cb b w0 wx hx hq hs hy hi.2 (hb.below hy) hby hm har ⟨hn0.1,hn⟩ hb1 hb20 (by omega))
  obtain ⟨p,hp⟩:∃ y,y=(2 + a * A + n,jT g n b):=⟨_,rfl⟩
  rw [← hp] at WN ⊢
  have PF:=Lh (fun wx (hx:Gath wx G (l ++ wrA [p]))=>pcflush_any G (l ++ wrA [p]) wx hx (by simp [wrA];omega))
  have HA:=Lh (show l ++ wrA [p] ++ [(2,0,[])]=l ++ actsA [p] by rw [List.append_assoc];rfl)
  have hA32:A≤32:=by have h:=hm.1;unfold mayC at h;omega
  have hnA:(n == A)=false:=beq_eq_false_iff_ne.2 (by omega)
  obtain ⟨n',rfl⟩:∃ x:Nat,n=(x:Int):=⟨n.toNat,by omega⟩
  have hn32:n'≤32:=by omega
  clear hq hs hm hkm hi hb hby hb1 hb20 ht hmt hl hE hp hlen har hA32 hn0 hn
  go_enter Tryz.func37,Tryz.ntmps37
  go_upto_region 1 with fail
  rw [← hw1]
  clear hw1
  go_upto_region 2 with fail
  obtain ⟨w2,hw2⟩:∃ x:World,x=w1.alloc (.cells #[.int .u32 v,.int .i64 a,.int .u64 g,.int .i64 (n':Int),.int .i64 u,.slice B k c] 32):=⟨_,rfl⟩
  obtain ⟨y,hk1⟩:=met_box w1 v a g (n':Int) u B k c
  rw [← hw2] at y hk1 y0 y1 y2 y3 y4 y5 fy ⊢
  have Y:=Lh y
  have X:=Lh (X.out.below hk1 X.out.lt)
  have Z:=Lh (Z.out.below hk1 Z.out.lt)
  have CO:=Lh (CO.out.more hk1)
  have B0:=Lh (B0.out.trans (hk1.mono B0.out.size))
  have OT:=Lh (OT.out.below hk1)
  clear y hk1 hw2 c0 c1 c2 c3 c4 c5 c6 c7 d0 d1 d2 d3 d4 d5 f0 f1
  obtain ⟨c0,c1,c2,c3,c4,c5,c6,c7,d0,d1,d2,d3,d4,d5,f0,f1⟩:=X.out.ent
  go_wp2_with fail
  refine (WN.out _ CO.out.1 B0.out).mono ?_
  rintro e w3 ⟨rfl,ho⟩
  have Y:=Lh (ho.2.2.blk Y.out (by decide) (by decide))
  have X:=Lh (ho.2.2.blk X.out (by decide) (by decide))
  have Z:=Lh (ho.2.2.blk Z.out (by decide) (by decide))
  have OT:=Lh (ho.2.2.recs OT.out)
  have CO:=Lh (CO.out.trans ho)
  clear ho WN fy y0 y1 y2 y3 y4 y5 c0 c1 c2 c3 c4 c5 c6 c7 d0 d1 d2 d3 d4 d5 f0 f1
  go_wp2_with fail
  refine (PF.out _ CO.out.1).mono ?_
  rintro e w4 ⟨rfl,ho⟩
  have Y:=Lh (ho.2.2.blk Y.out (by decide) (by decide))
  have X:=Lh (ho.2.2.blk X.out (by decide) (by decide))
  have Z:=Lh (ho.2.2.blk Z.out (by decide) (by decide))
  have OT:=Lh (ho.2.2.recs OT.out)
  have CO:=Lh (CO.out.trans ho)
  clear ho PF
  obtain ⟨c0,c1,c2,c3,c4,c5,c6,c7,d0,d1,d2,d3,d4,d5,f0,f1⟩:=X.out.ent
  obtain ⟨y0,y1,y2,y3,y4,y5⟩:=Y.out.met
  have fy:=Y.out.free
  go_upto_region 7 with fail
  have hHG:=HGL.out
  have hHS:=HS1.out
  obtain ⟨w5,hw5⟩:∃ x:World,x=w4.setCell ⟨w1.heap.size,3,none⟩ (.int .i64 ((n':Int) + 1)):=⟨_,rfl⟩
  have Z2:=Z.out.away (g':=w1.heap.size) (by omega) 3 (.int .i64 ((n':Int) + 1))
  have X2:=X.out.away (g':=w1.heap.size) (by omega) 3 (.int .i64 ((n':Int) + 1))
  have Y2:=Y.out.set 3 (.int .i64 ((n':Int) + 1))
  have CO:=Lh (CO.out.set Y.out (by decide) (by decide) (by decide) (by omega) (by omega) 3 (.int .i64 ((n':Int) + 1)))
  have OT:=Lh (OT.out.boxM Y.out 3 (.int .i64 ((n':Int) + 1)))
  rw [← hw5] at Z2 X2 Y2 CO OT ⊢
  replace Y2:Blk w5 w1.heap.size 32 (metL v a g ((n':Int) + 1) u B k c):=Y2
  clear X Y y0 y1 y2 y3 y4 y5 fy hw5 hHS c0 c1 c2 c3 c4 c5 c6 c7 d0 d1 d2 d3 d4 d5 f0 f1
  obtain ⟨c0,c1,c2,c3,c4,c5,c6,c7,d0,d1,d2,d3,d4,d5,f0,f1⟩:=X2.ent
  obtain ⟨y0,y1,y2,y3,y4,y5⟩:=Y2.met
  have fy:=Y2.free
  have Z:=Lh Z2
  have Y:=Lh Y2
  clear X2 Y2 Z2
  go_upto_region 8 with fail
  have hHS:=HS1.out
  obtain ⟨w6,hw6⟩:∃ x:World,x=w5.setCell ⟨w1.heap.size,5,none⟩ (.slice Bt kt ct):=⟨_,rfl⟩
  have Z2:=Z.out.away (g':=w1.heap.size) (by omega) 5 (.slice Bt kt ct)
  have Y2:=Y.out.set 5 (.slice Bt kt ct)
  have CO:=Lh (CO.out.set Y.out (by decide) (by decide) (by decide) (by omega) (by omega) 5 (.slice Bt kt ct))
  have OT:=Lh (OT.out.boxM Y.out 5 (.slice Bt kt ct))
  rw [← hw6] at Z2 Y2 CO OT ⊢
  replace Y2:Blk w6 w1.heap.size 32 (metL v a g ((n':Int) + 1) u Bt kt ct):=Y2
  clear Y y0 y1 y2 y3 y4 y5 fy hw6 hHS c0 c1 c2 c3 c4 c5 c6 c7 d0 d1 d2 d3 d4 d5 f0 f1
  obtain ⟨y0,y1,y2,y3,y4,y5⟩:=Y2.met
  have Z:=Lh Z2
  have fz:=Z.out.free
  obtain ⟨e0,e1,e2,e3,e4,e5⟩:=Z.out.met
  clear Y2 Z2
  go_wp2
  obtain ⟨z0,z1,z2,z3,z4,z5⟩:=(Z.out.sixM v a g ((n':Int) + 1) u Bt kt ct).met
  refine bodyPost_ret (v:=.tuple #[metV v a g ((n':Int) + 1) u Bt kt ct,.int .i64 0]) ?_ rfl ⟨Bt,ct,_,rfl,OT.out.boxSix Z.out _ _ _ _ _ _ _ _,CO.out.sixM Z.out (by omega) (by omega) _ _ _ _ _ _ _ _,fun _=>HA.out⟩
  clear y0 y1 y2 y3 y4 y5 fz e0 e1 e2 e3 e4 e5
  simp [results,Tryz.f37,go_sem,z0,z1,z2,z3,z4,z5]
 ·have hnA:n=A:=by omega
  have hE:cmE0 P T A M W Q S C ⟨(v,a,g),n,u,t⟩=if u=65535 then 9 else spE P T A M W Q S C (v,1 - a,65536 * v + u + 1):=if_neg hn
  have AN:=Lh (fun wx (hx:Gath wx G l) (hy:Below w0.heap.size w0 wx) (hz:OwnRecs wx base Bt kt ct t')=>panew_any G l P T A M W Q D nd d D' nd' d' S C v a g n u B k c t base Bt kt ct t' w0 wx hx hq hs hwG hy hm hkm hi hz hmt (by omega))
  rw [show cmM A ⟨(v,a,g),n,u,t⟩ t'=⟨(v,1 - a,65536 * v + u + 1),(t'.length:Int),u + 1,t'⟩ from if_neg hn,show cmA P T A M W Q S C ⟨(v,a,g),n,u,t⟩ b t'=actsA (rowsP A (1 - a) (65536 * v + u + 1) t') ++ actsA (spL P T A M W Q S C (v,1 - a,65536 * v + u + 1)) from if_neg hn,hE]
  unfold StepOut at AN
  obtain ⟨E,hEE⟩:∃ y,y=if u=65535 then 9 else spE P T A M W Q S C (v,1 - a,65536 * v + u + 1):=⟨_,rfl⟩
  rw [← hEE] at AN ⊢
  obtain ⟨mm,hmm⟩:∃ y:Mt,y=if E=0 then ⟨(v,1 - a,65536 * v + u + 1),(t'.length:Int),u + 1,t'⟩ else zM:=⟨_,rfl⟩
  rw [← hmm] at AN ⊢
  obtain ⟨lx,hlx⟩:∃ y,y=l ++ (actsA (rowsP A (1 - a) (65536 * v + u + 1) t') ++ actsA (spL P T A M W Q S C (v,1 - a,65536 * v + u + 1))):=⟨_,rfl⟩
  rw [← hlx] at AN ⊢
  obtain ⟨⟨V1,V2,V3⟩,V4,V5,tm⟩:=mm
  dsimp only at AN ⊢
  obtain ⟨tn,htn⟩:∃ y,y=tm.length:=⟨_,rfl⟩
  rw [← htn] at AN ⊢
  subst hnA
  clear hq hs hm hkm hi hb hby hb1 hb20 ht hmt hl hE hlen hn0 hn hmm hEE hlx htn
  go_enter Tryz.func37,Tryz.ntmps37
  go_upto_region 1 with fail
  rw [← hw1]
  clear hw1
  go_upto_region 2 with fail
  obtain ⟨w2,hw2⟩:∃ x:World,x=w1.alloc (.cells #[.int .u32 v,.int .i64 a,.int .u64 g,.int .i64 n,.int .i64 u,.slice B k c] 32):=⟨_,rfl⟩
  obtain ⟨y,hk1⟩:=met_box w1 v a g n u B k c
  rw [← hw2] at y hk1 y0 y1 y2 y3 y4 y5 fy ⊢
  have X:=Lh (X.out.below hk1 X.out.lt)
  have Z:=Lh (Z.out.below hk1 Z.out.lt)
  have CO:=Lh (CO.out.more hk1)
  have B0:=Lh (B0.out.trans (hk1.mono B0.out.size))
  have OT:=Lh (OT.out.below hk1)
  clear y hk1 hw2 c0 c1 c2 c3 c4 c5 c6 c7 d0 d1 d2 d3 d4 d5 f0 f1
  obtain ⟨c0,c1,c2,c3,c4,c5,c6,c7,d0,d1,d2,d3,d4,d5,f0,f1⟩:=X.out.ent
  go_wp2_with fail
  refine (AN.out _ CO.out.1 B0.out OT.out).mono ?_
  rintro e w3 ⟨A3,x3,l3,rfl,hown,ho,hl3⟩
  have Z:=Lh (ho.2.2.blk Z.out (by decide) (by decide))
  have CO:=Lh (CO.out.trans ho)
  have OR:=Lh hown
  have L3:=Lh hl3
  clear ho hown hl3 AN fy y0 y1 y2 y3 y4 y5 c0 c1 c2 c3 c4 c5 c6 c7 d0 d1 d2 d3 d4 d5 f0 f1
  have fz:=Z.out.free
  obtain ⟨e0,e1,e2,e3,e4,e5⟩:=Z.out.met
  go_wp2
  have hHG:=HGL.out
  obtain ⟨z0,z1,z2,z3,z4,z5⟩:=(Z.out.sixM V1 V2 V3 V4 V5 A3 tn x3).met
  refine bodyPost_ret (v:=.tuple #[metV V1 V2 V3 V4 V5 A3 tn x3,.int .i64 E]) ?_ rfl ⟨A3,x3,l3,rfl,OR.out.boxSix Z.out _ _ _ _ _ _ _ _,CO.out.sixM Z.out (by omega) (by omega) _ _ _ _ _ _ _ _,L3.out⟩
  clear fz e0 e1 e2 e3 e4 e5
  simp [results,Tryz.f37,go_sem,z0,z1,z2,z3,z4,z5]
def PlanOutB (w:World) (base:Nat) (m:Mt) (l:List Ac) (E:Int) (e:Ending) (w':World):Prop:=∃ A' c' A2 c2,e=.returned (.tuple #[metV m.s.1 m.s.2.1 m.s.2.2 m.n m.u A' m.t.length c',.slice A2 l.length c2,.int .i64 E])∧OwnRecs w' base A' m.t.length c' m.t∧OwnActs w' w.heap.size A2 l.length c2 l∧Below w.heap.size w w'
theorem OwnActs.sixM {w:World} {base:Nat} {A:Option Addr} {m d:Nat} {L:List Ac} (h:OwnActs w base A m d L) {G:Nat} (hg:G < base) (v a g n u:Int) (B:Option Addr) (k c:Nat):OwnActs ((((((w.setCell ⟨G,0,none⟩ (.int .u32 v)).setCell ⟨G,1,none⟩ (.int .i64 a)).setCell ⟨G,2,none⟩ (.int .u64 g)).setCell ⟨G,3,none⟩ (.int .i64 n)).setCell ⟨G,4,none⟩ (.int .i64 u)).setCell ⟨G,5,none⟩ (.slice B k c)) base A m d L :=
 (((((h.away hg 0 _).away hg 1 _).away hg 2 _).away hg 3 _).away hg 4 _).away hg 5 _
theorem pplan_boot (P T A M W Q:Int) (D:Option Addr) (nd d:Nat) (D':Option Addr) (nd' d':Nat) (S:List Sec) (C:List Pnd) (v a g n u:Int) (B:Option Addr) (k c:Nat) (t:List Rc) (w:World) (hq:Dsk w D nd d D' nd' d' S C) (hs:SmallD S C) (hi:isS (v,a,g)) (ht:Recs w B k c t) (hk:k≤1000) :
  Calls Tryz.prog 36 #[.func (.func 39) #[ldV P T A M W Q D nd d D' nd' d' v a g n u B k c] #[]] w (PlanOutB w w.heap.size (if (if v=4294967295 then 9 else spE P T A M W Q S C (v + 1,a,g))=0 then ⟨(v + 1,a,g),n,0,t⟩ else zM) (if (if v=4294967295 then 9 else spE P T A M W Q S C (v + 1,a,g))=0 then actsA (spL P T A M W Q S C (v + 1,a,g)) else []) ((if v=4294967295 then 9 else spE P T A M W Q S C (v + 1,a,g)))):=by
 obtain ⟨z,h1⟩:=met_box w 0 0 0 0 0 none 0 0
 have c1:=Blk.new (w.alloc (.cells #[.int .u32 0,.int .i64 0,.int .u64 0,.int .i64 0,.int .i64 0,.slice none 0 0] 32)) 38 [.slice none 0 0]
 have h2:Below (w.alloc (.cells #[.int .u32 0,.int .i64 0,.int .u64 0,.int .i64 0,.int .i64 0,.slice none 0 0] 32)).heap.size (w.alloc (.cells #[.int .u32 0,.int .i64 0,.int .u64 0,.int .i64 0,.int .i64 0,.slice none 0 0] 32)) ((w.alloc (.cells #[.int .u32 0,.int .i64 0,.int .u64 0,.int .i64 0,.int .i64 0,.slice none 0 0] 32)).alloc (.cells #[.slice none 0 0] 38)):=(Below.refl _ _).alloc (Nat.le_refl _) _
 rw [World.size_alloc] at c1
 replace z:=z.below h2 z.lt
 have hb:=h1.trans (h2.mono h1.size)
 obtain ⟨w1,hw1⟩:∃ y,y=((w.alloc (.cells #[.int .u32 0,.int .i64 0,.int .u64 0,.int .i64 0,.int .i64 0,.slice none 0 0] 32)).alloc (.cells #[.slice none 0 0] 38)):=⟨_,rfl⟩
 change Blk ((w.alloc (.cells #[.int .u32 0,.int .i64 0,.int .u64 0,.int .i64 0,.int .i64 0,.slice none 0 0] 32)).alloc (.cells #[.slice none 0 0] 38)) _ _ _ at c1
 rw [← hw1] at z c1 hb
 have GA:Gath w1 (w.heap.size + 1) []:=⟨none,0,0,c1,OwnActs.nil _ _⟩
 have ST:=Lh ((pboot_any (w.heap.size + 1) [] P T A M W Q D nd d D' nd' d' S C v a g n u B k c t w w1 GA hq hs (Nat.le_succ _) hb hi ht hk (Nat.zero_le _)).mono fun e w' hx=>by obtain ⟨A1,x1,l1,q1,q2,q3⟩:=hx;exact (⟨A1,x1,l1,q1,q2.lower hb.size,q3⟩:StepOut w1 (w.heap.size + 1) w.heap.size _ _ _ e w'))
 have Z:=Lh z
 have BB:=Lh hb
 unfold StepOut at ST
 unfold PlanOutB
 obtain ⟨E,hEE⟩:∃ y,y=(if v=4294967295 then 9 else spE P T A M W Q S C (v + 1,a,g)):=⟨_,rfl⟩
 rw [← hEE] at ST ⊢
 obtain ⟨mm,hmm⟩:∃ y:Mt,y=if E=0 then ⟨(v + 1,a,g),n,0,t⟩ else zM:=⟨_,rfl⟩
 rw [← hmm] at ST ⊢
 rw [List.nil_append] at ST
 obtain ⟨lx,hlx⟩:∃ y,y=actsA (spL P T A M W Q S C (v + 1,a,g)):=⟨_,rfl⟩
 rw [← hlx] at ST ⊢
 clear z c1 h1 h2 hb GA hEE hlx hq hs hi ht hk
 by_cases h0:E=0
 ·subst h0
  rw [if_pos rfl]
  clear hmm
  obtain ⟨⟨V1,V2,V3⟩,V4,V5,tm⟩:=mm
  dsimp only at ST ⊢
  obtain ⟨tn,htn⟩:∃ y,y=tm.length:=⟨_,rfl⟩
  rw [← htn] at ST ⊢
  clear htn
  go_enter Tryz.func36,Tryz.ntmps36
  go_upto_region 2 with fail
  rw [← hw1]
  clear hw1
  go_wp2_with fail
  refine ST.out.mono ?_
  rintro e w2 ⟨A2,x2,l2,rfl,hown,ho,hl2⟩
  have OR:=Lh hown
  have HO:=Lh ho
  have HL2:=Lh hl2
  have Z:=Lh (ho.2.2.blk Z.out (by decide) (by decide))
  clear hown ho hl2 ST
  have hl:=HL2.out (by trivial)
  subst hl
  obtain ⟨AC,nC,cC,g1,g2⟩:=HO.out.1
  have hnC:=g2.len
  obtain ⟨y,hk⟩:=met_box w2 V1 V2 V3 V4 V5 A2 tn x2
  have G2:=Lh (g2.below hk)
  have g3:=g1.below hk g1.lt
  have BA:=Lh (BB.out.trans ((HO.out.2.1.mono (Nat.le_succ _)).trans (hk.mono (Nat.le_of_lt (Nat.lt_of_lt_of_le (Nat.lt_succ_self _) (Nat.le_of_lt HO.out.1.lt))))))
  have OR:=Lh (OR.out.below hk)
  have Z:=Lh (Z.out.below hk Z.out.lt)
  obtain ⟨w3,hw3⟩:∃ x:World,x=w2.alloc (.cells #[.int .u32 V1,.int .i64 V2,.int .u64 V3,.int .i64 V4,.int .i64 V5,.slice A2 tn x2] 32):=⟨_,rfl⟩
  rw [← hw3] at y G2 g3 BA OR Z
  obtain ⟨y0,y1,y2,y3,y4,y5⟩:=y.met
  have g0:w3.cell? ⟨w.heap.size + 1,0,none⟩=some (.slice AC nC cC):=g3.cell 0
  clear g1 g2 g3 y hk HO HL2
  subst hnC
  go_upto_region 5 with fail
  rw [← hw3]
  clear hw3
  have fz:=Z.out.free
  obtain ⟨e0,e1,e2,e3,e4,e5⟩:=Z.out.met
  go_region
  go_wp2
  obtain ⟨z0,z1,z2,z3,z4,z5⟩:=(Z.out.sixM V1 V2 V3 V4 V5 A2 tn x2).met
  refine bodyPost_ret (v:=.tuple #[metV V1 V2 V3 V4 V5 A2 tn x2,.slice AC l2.length cC,.int .i64 0]) ?_ rfl ⟨A2,x2,AC,cC,rfl,(OR.out.boxSix Z.out _ _ _ _ _ _ _ _).below (below_drewN (Below.refl _ _) 1),((G2.out.sixM (by omega) _ _ _ _ _ _ _ _).lower (by omega)).below (below_drewN (Below.refl _ _) 1),below_drewN (below_sixM BA.out (Nat.le_refl _) _ _ _ _ _ _ _ _) 1⟩
  clear y0 y1 y2 y3 y4 y5 g0 fz e0 e1 e2 e3 e4 e5
  simp [results,Tryz.f36,go_sem,z0,z1,z2,z3,z4,z5]
 ·rw [if_neg h0]
  rw [if_neg h0] at hmm
  subst hmm
  dsimp only [zM,List.length_nil] at ST ⊢
  have hz:(E != 0)=true:=by simpa using h0
  clear h0
  go_enter Tryz.func36,Tryz.ntmps36
  go_upto_region 2 with fail
  rw [← hw1]
  clear hw1
  go_wp2_with fail
  refine ST.out.mono ?_
  rintro e w2 ⟨A2,x2,l2,rfl,hown,ho,hl2⟩
  have OR:=Lh hown
  have HO:=Lh ho
  have HL2:=Lh hl2
  have Z:=Lh (ho.2.2.blk Z.out (by decide) (by decide))
  clear hown ho hl2 ST
  have BA:=Lh (BB.out.trans (HO.out.2.1.mono (Nat.le_succ _)))
  obtain ⟨y,hk⟩:=met_box w2 0 0 0 0 0 A2 0 x2
  have BA:=Lh (BA.out.trans (hk.mono BA.out.size))
  have Z:=Lh (Z.out.below hk Z.out.lt)
  obtain ⟨w3,hw3⟩:∃ x:World,x=w2.alloc (.cells #[.int .u32 0,.int .i64 0,.int .u64 0,.int .i64 0,.int .i64 0,.slice A2 0 x2] 32):=⟨_,rfl⟩
  rw [← hw3] at BA Z
  clear y hk OR HO HL2
  go_upto_region 3 with fail
  rw [← hw3]
  clear hw3
  have fz:=Z.out.free
  obtain ⟨e0,e1,e2,e3,e4,e5⟩:=Z.out.met
  go_wp2
  obtain ⟨z0,z1,z2,z3,z4,z5⟩:=(Z.out.sixM 0 0 0 0 0 none 0 0).met
  refine bodyPost_ret (v:=.tuple #[metV 0 0 0 0 0 none 0 0,.slice none 0 0,.int .i64 E]) ?_ rfl ⟨none,0,none,0,rfl,OwnRecs.nil _ _,OwnActs.nil _ _,below_sixM BA.out (Nat.le_refl _) _ _ _ _ _ _ _ _⟩
  clear fz e0 e1 e2 e3 e4 e5
  simp [results,Tryz.f36,go_sem,z0,z1,z2,z3,z4,z5]
theorem pplan_put (P T A M W Q:Int) (D:Option Addr) (nd d:Nat) (D':Option Addr) (nd' d':Nat) (S:List Sec) (C:List Pnd) (v a g n u:Int) (B:Option Addr) (k c:Nat) (t:List Rc) (Ab:Option Addr) (nb cb:Nat) (b:Txt) (base:Nat) (Bt:Option Addr) (kt ct:Nat) (t':List Rc) (w:World) (hq:Dsk w D nd d D' nd' d' S C) (hs:SmallD S C) (hm:mayT P T A M W Q S C) (hkm:mayM P T A M W Q ⟨(v,a,g),n,u,t⟩) (hi:isS (v,a,g)) (hb':Arg w .u8 Ab nb cb b) (hby:∀ z ∈ b,isByte z) (hb1:1≤b.length) (hb20:b.length≤20) (ht:OwnRecs w base Bt kt ct t') (hmt:mayTab t') :
  Calls Tryz.prog 36 #[.func (.func 37) #[entV P T A M W Q D nd d D' nd' d' v a g n u B k c Ab nb cb Bt kt ct] #[]] w (PlanOutB w base (if cmE0 P T A M W Q S C ⟨(v,a,g),n,u,t⟩=0 then cmM A ⟨(v,a,g),n,u,t⟩ t' else zM) (if cmE0 P T A M W Q S C ⟨(v,a,g),n,u,t⟩=0 then cmA P T A M W Q S C ⟨(v,a,g),n,u,t⟩ b t' else []) (cmE0 P T A M W Q S C ⟨(v,a,g),n,u,t⟩)):=by
 obtain ⟨z,h1⟩:=met_box w 0 0 0 0 0 none 0 0
 have c1:=Blk.new (w.alloc (.cells #[.int .u32 0,.int .i64 0,.int .u64 0,.int .i64 0,.int .i64 0,.slice none 0 0] 32)) 38 [.slice none 0 0]
 have h2:Below (w.alloc (.cells #[.int .u32 0,.int .i64 0,.int .u64 0,.int .i64 0,.int .i64 0,.slice none 0 0] 32)).heap.size (w.alloc (.cells #[.int .u32 0,.int .i64 0,.int .u64 0,.int .i64 0,.int .i64 0,.slice none 0 0] 32)) ((w.alloc (.cells #[.int .u32 0,.int .i64 0,.int .u64 0,.int .i64 0,.int .i64 0,.slice none 0 0] 32)).alloc (.cells #[.slice none 0 0] 38)):=(Below.refl _ _).alloc (Nat.le_refl _) _
 rw [World.size_alloc] at c1
 replace z:=z.below h2 z.lt
 have hb:=h1.trans (h2.mono h1.size)
 obtain ⟨w1,hw1⟩:∃ y,y=((w.alloc (.cells #[.int .u32 0,.int .i64 0,.int .u64 0,.int .i64 0,.int .i64 0,.slice none 0 0] 32)).alloc (.cells #[.slice none 0 0] 38)):=⟨_,rfl⟩
 change Blk ((w.alloc (.cells #[.int .u32 0,.int .i64 0,.int .u64 0,.int .i64 0,.int .i64 0,.slice none 0 0] 32)).alloc (.cells #[.slice none 0 0] 38)) _ _ _ at c1
 rw [← hw1] at z c1 hb
 have GA:Gath w1 (w.heap.size + 1) []:=⟨none,0,0,c1,OwnActs.nil _ _⟩
 have ST:=Lh (pput12_any (w.heap.size + 1) [] P T A M W Q D nd d D' nd' d' S C v a g n u B k c t Ab nb cb b base Bt kt ct t' w w1 GA hq hs (Nat.le_succ _) hb hm hkm hi hb' hby hb1 hb20 (ht.below hb) hmt (Nat.zero_le _))
 have Z:=Lh z
 have BB:=Lh hb
 unfold StepOut at ST
 unfold PlanOutB
 obtain ⟨E,hEE⟩:∃ y,y=cmE0 P T A M W Q S C ⟨(v,a,g),n,u,t⟩:=⟨_,rfl⟩
 rw [← hEE] at ST ⊢
 obtain ⟨mm,hmm⟩:∃ y:Mt,y=if E=0 then cmM A ⟨(v,a,g),n,u,t⟩ t' else zM:=⟨_,rfl⟩
 rw [← hmm] at ST ⊢
 rw [List.nil_append] at ST
 obtain ⟨lx,hlx⟩:∃ y,y=cmA P T A M W Q S C ⟨(v,a,g),n,u,t⟩ b t':=⟨_,rfl⟩
 rw [← hlx] at ST ⊢
 clear z c1 h1 h2 hb GA hEE hlx hq hs hm hkm hi hb' hby hb1 hb20 ht hmt
 by_cases h0:E=0
 ·subst h0
  rw [if_pos rfl]
  clear hmm
  obtain ⟨⟨V1,V2,V3⟩,V4,V5,tm⟩:=mm
  dsimp only at ST ⊢
  obtain ⟨tn,htn⟩:∃ y,y=tm.length:=⟨_,rfl⟩
  rw [← htn] at ST ⊢
  clear htn
  go_enter Tryz.func36,Tryz.ntmps36
  go_upto_region 2 with fail
  rw [← hw1]
  clear hw1
  go_wp2_with fail
  refine ST.out.mono ?_
  rintro e w2 ⟨A2,x2,l2,rfl,hown,ho,hl2⟩
  have OR:=Lh hown
  have HO:=Lh ho
  have HL2:=Lh hl2
  have Z:=Lh (ho.2.2.blk Z.out (by decide) (by decide))
  clear hown ho hl2 ST
  have hl:=HL2.out (by trivial)
  subst hl
  obtain ⟨AC,nC,cC,g1,g2⟩:=HO.out.1
  have hnC:=g2.len
  obtain ⟨y,hk⟩:=met_box w2 V1 V2 V3 V4 V5 A2 tn x2
  have G2:=Lh (g2.below hk)
  have g3:=g1.below hk g1.lt
  have BA:=Lh (BB.out.trans ((HO.out.2.1.mono (Nat.le_succ _)).trans (hk.mono (Nat.le_of_lt (Nat.lt_of_lt_of_le (Nat.lt_succ_self _) (Nat.le_of_lt HO.out.1.lt))))))
  have OR:=Lh (OR.out.below hk)
  have Z:=Lh (Z.out.below hk Z.out.lt)
  obtain ⟨w3,hw3⟩:∃ x:World,x=w2.alloc (.cells #[.int .u32 V1,.int .i64 V2,.int .u64 V3,.int .i64 V4,.int .i64 V5,.slice A2 tn x2] 32):=⟨_,rfl⟩
  rw [← hw3] at y G2 g3 BA OR Z
  obtain ⟨y0,y1,y2,y3,y4,y5⟩:=y.met
  have g0:w3.cell? ⟨w.heap.size + 1,0,none⟩=some (.slice AC nC cC):=g3.cell 0
  clear g1 g2 g3 y hk HO HL2
  subst hnC
  go_upto_region 5 with fail
  rw [← hw3]
  clear hw3
  have fz:=Z.out.free
  obtain ⟨e0,e1,e2,e3,e4,e5⟩:=Z.out.met
  go_region
  go_wp2
  obtain ⟨z0,z1,z2,z3,z4,z5⟩:=(Z.out.sixM V1 V2 V3 V4 V5 A2 tn x2).met
  refine bodyPost_ret (v:=.tuple #[metV V1 V2 V3 V4 V5 A2 tn x2,.slice AC l2.length cC,.int .i64 0]) ?_ rfl ⟨A2,x2,AC,cC,rfl,(OR.out.boxSix Z.out _ _ _ _ _ _ _ _).below (below_drewN (Below.refl _ _) 1),((G2.out.sixM (by omega) _ _ _ _ _ _ _ _).lower (by omega)).below (below_drewN (Below.refl _ _) 1),below_drewN (below_sixM BA.out (Nat.le_refl _) _ _ _ _ _ _ _ _) 1⟩
  clear y0 y1 y2 y3 y4 y5 g0 fz e0 e1 e2 e3 e4 e5
  simp [results,Tryz.f36,go_sem,z0,z1,z2,z3,z4,z5]
 ·rw [if_neg h0]
  rw [if_neg h0] at hmm
  subst hmm
  dsimp only [zM,List.length_nil] at ST ⊢
  have hz:(E != 0)=true:=by simpa using h0
  clear h0
  go_enter Tryz.func36,Tryz.ntmps36
  go_upto_region 2 with fail
  rw [← hw1]
  clear hw1
  go_wp2_with fail
  refine ST.out.mono ?_
  rintro e w2 ⟨A2,x2,l2,rfl,hown,ho,hl2⟩
  have OR:=Lh hown
  have HO:=Lh ho
  have HL2:=Lh hl2
  have Z:=Lh (ho.2.2.blk Z.out (by decide) (by decide))
  clear hown ho hl2 ST
  have BA:=Lh (BB.out.trans (HO.out.2.1.mono (Nat.le_succ _)))
  obtain ⟨y,hk⟩:=met_box w2 0 0 0 0 0 A2 0 x2
  have BA:=Lh (BA.out.trans (hk.mono BA.out.size))
  have Z:=Lh (Z.out.below hk Z.out.lt)
  obtain ⟨w3,hw3⟩:∃ x:World,x=w2.alloc (.cells #[.int .u32 0,.int .i64 0,.int .u64 0,.int .i64 0,.int .i64 0,.slice A2 0 x2] 32):=⟨_,rfl⟩
  rw [← hw3] at BA Z
  clear y hk OR HO HL2
  go_upto_region 3 with fail
  rw [← hw3]
  clear hw3
  have fz:=Z.out.free
  obtain ⟨e0,e1,e2,e3,e4,e5⟩:=Z.out.met
  go_wp2
  obtain ⟨z0,z1,z2,z3,z4,z5⟩:=(Z.out.sixM 0 0 0 0 0 none 0 0).met
  refine bodyPost_ret (v:=.tuple #[metV 0 0 0 0 0 none 0 0,.slice none 0 0,.int .i64 E]) ?_ rfl ⟨none,0,none,0,rfl,OwnRecs.nil _ _,OwnActs.nil _ _,below_sixM BA.out (Nat.le_refl _) _ _ _ _ _ _ _ _⟩
  clear fz e0 e1 e2 e3 e4 e5
  simp [results,Tryz.f36,go_sem,z0,z1,z2,z3,z4,z5]
end Go.Proofs.YtifgcfepbenpjaaGreat
