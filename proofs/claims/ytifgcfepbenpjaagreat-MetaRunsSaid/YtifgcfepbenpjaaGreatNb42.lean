/- Texts of layers 1 to 12, joined. -/
import Derived.Test.YtifgcfepbenpjaaGreatNb40
import Derived.Test.YtifgcfepbenpjaaGreatNb41
import Derived.Lib.SliceRun
set_option maxRecDepth 100000
set_option maxHeartbeats 12800000
set_option linter.unusedVariables false
namespace Go.Proofs.YtifgcfepbenpjaaGreat
open Go.RowKit
def bootE (P T A M W Q:Int) (S:List Sec) (C:List Pnd) (m:Mt):Int:=if boE P T A M W Q S C m=0 then (if m.s.1=4294967295 then 9 else spE P T A M W Q S C (bootS m)) else 8
def bootM (P T A M W Q:Int) (S:List Sec) (C:List Pnd) (m:Mt):Mt:=if bootE P T A M W Q S C m=0 then ⟨bootS m,m.n,0,m.t⟩ else zM
def bootA (P T A M W Q:Int) (S:List Sec) (C:List Pnd) (m:Mt):List Ac:=if bootE P T A M W Q S C m=0 then actsA (spL P T A M W Q S C (bootS m)) else []
theorem GathOut.set {a w:World} {G H:Nat} {l:List Ac} {t:TypeId} {cs:List Value} (h:GathOut a G l w) (hb:Blk w H t cs) (h1:t≠75) (h2:t≠38) (h3:t≠5) (hG:G < H) (ha:a.heap.size≤H) (i:Nat) (u:Value):GathOut a G l (w.setCell ⟨H,i,none⟩ u):=by
 obtain ⟨⟨A,n,c,k1,k2⟩,hB,hT⟩:=h
 refine ⟨⟨A,n,c,k1.away (by omega) i u,k2.keep fun g e cs' he _ hc=>Below.heap_setCell w _ u g fun e2=>?_⟩,hB.setCell (p:=⟨H,i,none⟩) (Nat.le_of_lt hG) u,?_⟩
 ·have e3:g=H:=e2
  subst e3
  unfold Blk at hb
  rw [hb] at hc
  simp at hc
  rcases he with rfl | rfl
  ·exact h1 hc.2
  ·exact h3 hc.2
 ·exact ⟨Nat.le_trans hT.1 (by simp [World.setCell]),fun g hg q1 q2=>(Below.heap_setCell w _ u g (fun e=>by have e':g=H:=e;omega)).trans (hT.2 g hg q1 q2)⟩
theorem GathOut.sixM {wa w:World} {G H:Nat} {l:List Ac} {v' a' g' n' u':Int} {B':Option Addr} {k' c':Nat} (h:GathOut wa G l w) (hb:Blk w H 32 (metL v' a' g' n' u' B' k' c')) (hG:G < H) (ha:wa.heap.size≤H) (v a g n u:Int) (B:Option Addr) (k c:Nat):GathOut wa G l ((((((w.setCell ⟨H,0,none⟩ (.int .u32 v)).setCell ⟨H,1,none⟩ (.int .i64 a)).setCell ⟨H,2,none⟩ (.int .u64 g)).setCell ⟨H,3,none⟩ (.int .i64 n)).setCell ⟨H,4,none⟩ (.int .i64 u)).setCell ⟨H,5,none⟩ (.slice B k c)):=by
 have q1:=h.set hb (by decide) (by decide) (by decide) hG ha 0 (.int .u32 v)
 have b1:=hb.set 0 (.int .u32 v)
 have q2:=q1.set b1 (by decide) (by decide) (by decide) hG ha 1 (.int .i64 a)
 have b2:=b1.set 1 (.int .i64 a)
 have q3:=q2.set b2 (by decide) (by decide) (by decide) hG ha 2 (.int .u64 g)
 have b3:=b2.set 2 (.int .u64 g)
 have q4:=q3.set b3 (by decide) (by decide) (by decide) hG ha 3 (.int .i64 n)
 have b4:=b3.set 3 (.int .i64 n)
 have q5:=q4.set b4 (by decide) (by decide) (by decide) hG ha 4 (.int .i64 u)
 have b5:=b4.set 4 (.int .i64 u)
 exact q5.set b5 (by decide) (by decide) (by decide) hG ha 5 (.slice B k c)
theorem OwnRecs.boxM {w:World} {base H:Nat} {A:Option Addr} {n c:Nat} {L:List Rc} {cs:List Value} (h:OwnRecs w base A n c L) (hb:Blk w H 32 cs) (i:Nat) (u:Value):OwnRecs (w.setCell ⟨H,i,none⟩ u) base A n c L :=
 h.keep fun g cs' _ hc=>Below.heap_setCell w _ u g fun e2=>by
  have e3:g=H:=e2
  subst e3
  unfold Blk at hb
  rw [hb] at hc
  simp at hc
theorem OwnRecs.boxSix {w:World} {base H:Nat} {A:Option Addr} {m d:Nat} {L:List Rc} {v' a' g' n' u':Int} {B':Option Addr} {k' c':Nat} (h:OwnRecs w base A m d L) (hb:Blk w H 32 (metL v' a' g' n' u' B' k' c')) (v a g n u:Int) (B:Option Addr) (k c:Nat):OwnRecs ((((((w.setCell ⟨H,0,none⟩ (.int .u32 v)).setCell ⟨H,1,none⟩ (.int .i64 a)).setCell ⟨H,2,none⟩ (.int .u64 g)).setCell ⟨H,3,none⟩ (.int .i64 n)).setCell ⟨H,4,none⟩ (.int .i64 u)).setCell ⟨H,5,none⟩ (.slice B k c)) base A m d L :=
 (((((h.boxM hb 0 _).boxM (hb.set 0 _) 1 _).boxM ((hb.set 0 _).set 1 _) 2 _).boxM (((hb.set 0 _).set 1 _).set 2 _) 3 _).boxM ((((hb.set 0 _).set 1 _).set 2 _).set 3 _) 4 _).boxM (((((hb.set 0 _).set 1 _).set 2 _).set 3 _).set 4 _) 5 _
def StepOut (w:World) (G base:Nat) (m:Mt) (l':List Ac) (E:Int) (e:Ending) (w':World):Prop:=∃ A' c' l2,e=.returned (.tuple #[metV m.s.1 m.s.2.1 m.s.2.2 m.n m.u A' m.t.length c',.int .i64 E])∧OwnRecs w' base A' m.t.length c' m.t∧GathOut w G l2 w'∧(E=0→l2=l')
theorem pclone12_any (B:Option Addr) (k c:Nat) (t:List Rc) (w:World) (ht:Recs w B k c t) (hk:k≤1000) :
  Calls Tryz.prog 78 #[.slice B k c] w fun e w'=>∃ A' c',e=.returned (.slice A' k c')∧OwnRecs w' w.heap.size A' k c' t∧Below w.heap.size w w':=by
 have hnil:=Lib.run_eql_slice_nil (P:=Tryz.prog) w 30 64 B k c 0 0 Tryz.underlying30
 cases B with
 | none =>
  have hk0:k=0:=by
   rcases Nat.eq_zero_or_pos k with h0 | h0
   ·exact h0
   ·obtain ⟨_,_,e,_⟩:=ht.row h0
    cases e
  subst hk0
  have ht0:t=[]:=List.eq_nil_of_length_eq_zero ht.len
  subst ht0
  clear ht
  go_enter Tryz.func78,Tryz.ntmps78
  go_wp2
  go_ret
  exact ⟨none,0,rfl,OwnRecs.nil _ _,Below.refl _ _⟩
 | some ad =>
  have HT:=Lh ht
  have HK:=Lh (show k≤100000 by omega)
  clear ht
  go_enter Tryz.func78,Tryz.ntmps78
  go_wp2_with (at_builtin;refine wpList_dup_recs w rfl (.tmp 5) (.tmp 6) rfl rfl (some ad) k c t rfl HT.out HK.out ?_;intro A' c' w2 hO hb2;have O:=Lh hO;have B2:=Lh hb2;clear hO hb2)
  go_ret
  exact ⟨A',c',rfl,O.out,B2.out⟩
theorem pboot_any (G:Nat) (l:List Ac) (P T A M W Q:Int) (D:Option Addr) (nd d:Nat) (D':Option Addr) (nd' d':Nat) (S:List Sec) (C:List Pnd) (v a g n u:Int) (B:Option Addr) (k c:Nat) (t:List Rc) (w0 w:World) (hc:Gath w G l) (hq:Dsk w0 D nd d D' nd' d' S C) (hs:SmallD S C) (hwG:w0.heap.size≤G) (hb0:Below w0.heap.size w0 w) (hi:isS (v,a,g)) (ht:Recs w0 B k c t) (hk:k≤1000) (hl:l.length≤100) :
  Calls Tryz.prog 39 #[ldV P T A M W Q D nd d D' nd' d' v a g n u B k c,colF G] w (StepOut w G w.heap.size (if (if v=4294967295 then 9 else spE P T A M W Q S C (v + 1,a,g))=0 then ⟨(v + 1,a,g),n,0,t⟩ else zM) (l ++ actsA (spL P T A M W Q S C (v + 1,a,g))) (if v=4294967295 then 9 else spE P T A M W Q S C (v + 1,a,g))):=by
 have hlen:=ht.len
 obtain ⟨x,hb1⟩:=led_box w P T A M W Q D nd d D' nd' d' v a g n u B k c
 obtain ⟨z,h2⟩:=met_box (w.alloc (.cells #[.int .i64 P,.int .i64 T,.int .i64 A,.int .i64 M,.int .i64 W,.int .i64 Q,.slice D nd d,.slice D' nd' d',.int .u32 v,.int .i64 a,.int .u64 g,.int .i64 n,.int .i64 u,.slice B k c] 90)) 0 0 0 0 0 none 0 0
 rw [World.size_alloc] at z
 replace x:=x.below h2 x.lt
 replace hb1:=hb1.trans (h2.mono hb1.size)
 obtain ⟨w1,hw1⟩:∃ y,y=((w.alloc (.cells #[.int .i64 P,.int .i64 T,.int .i64 A,.int .i64 M,.int .i64 W,.int .i64 Q,.slice D nd d,.slice D' nd' d',.int .u32 v,.int .i64 a,.int .u64 g,.int .i64 n,.int .i64 u,.slice B k c] 90)).alloc (.cells #[.int .u32 0,.int .i64 0,.int .u64 0,.int .i64 0,.int .i64 0,.slice none 0 0] 32)):=⟨_,rfl⟩
 rw [← hw1] at x z hb1
 have hs1:w1.heap.size=w.heap.size + 2:=by rw [hw1,World.size_alloc,World.size_alloc]
 have X:=Lh x
 have Z:=Lh z
 have CO:=Lh (GathOut.of hc hb1)
 have B0:=Lh (hb0.trans (hb1.mono hb0.size))
 have HGL:=Lh (show G < w.heap.size from hc.lt)
 obtain ⟨c0,c1,c2,c3,c4,c5,c6,c7,d0,d1,d2,d3,d4,d5⟩:=x.led
 obtain ⟨y,hk1⟩:=met_box w1 v a g n u B k c
 obtain ⟨y0,y1,y2,y3,y4,y5⟩:=y.met
 have fy:=y.free
 clear x z hc hb0 y hk1 h2 hb1
 unfold StepOut
 by_cases hv:v=4294967295
 ·rw [if_pos hv,if_neg (by decide)]
  subst hv
  dsimp only [zM,List.length_nil]
  have HS1:=Lh hs1
  clear hi hq hs ht hk hlen hl hs1
  go_enter Tryz.func39,Tryz.ntmps39
  go_upto_region 1 with fail
  rw [← hw1]
  clear hw1
  go_upto_region 2 with fail
  obtain ⟨w2,hw2⟩:∃ x:World,x=w1.alloc (.cells #[.int .u32 4294967295,.int .i64 a,.int .u64 g,.int .i64 n,.int .i64 u,.slice B k c] 32):=⟨_,rfl⟩
  have hk1:Below w1.heap.size w1 w2:=by rw [hw2];exact (Below.refl _ _).alloc (Nat.le_refl _) _
  rw [← hw2] at y0 y1 y2 y3 y4 y5 fy ⊢
  have CO:=Lh (CO.out.more hk1)
  have Z:=Lh (Z.out.below hk1 Z.out.lt)
  clear hw2 hk1 c0 c1 c2 c3 c4 c5 c6 c7 d0 d1 d2 d3 d4 d5
  have fz:=Z.out.free
  obtain ⟨e0,e1,e2,e3,e4,e5⟩:=Z.out.met
  go_wp2
  obtain ⟨z0,z1,z2,z3,z4,z5⟩:=(Z.out.sixM 0 0 0 0 0 none 0 0).met
  refine bodyPost_ret (v:=.tuple #[metV 0 0 0 0 0 none 0 0,.int .i64 9]) ?_ rfl ⟨none,0,l,rfl,OwnRecs.nil _ _,CO.out.sixM Z.out (by have:=HGL.out;omega) (by have:=HS1.out;omega) 0 0 0 0 0 none 0 0,fun h=>by cases h⟩
  clear y0 y1 y2 y3 y4 y5 fy fz e0 e1 e2 e3 e4 e5
  simp [results,Tryz.f39,go_sem,z0,z1,z2,z3,z4,z5]
 ·rw [if_neg hv]
  have hv1:v + 1 < 4294967296:=by have:=hi.1.2;dsimp only at this;omega
  have hv0:0≤v:=hi.1.1
  have WS:=Lh (fun wx hx hy=>pwsuper_any G l P T A M W Q D nd d D' nd' d' S C v a g n u B k c (v + 1) a g w0 wx hx hq hs hy ⟨⟨by dsimp only;omega,hv1⟩,hi.2⟩ (by omega))
  have CL:=Lh (fun wx hx=>pclone12_any B k c t wx hx hk)
  have HT:=Lh ht
  obtain ⟨E,hE⟩:∃ y,y=spE P T A M W Q S C (v + 1,a,g):=⟨_,rfl⟩
  obtain ⟨ps,hps⟩:∃ y,y=spL P T A M W Q S C (v + 1,a,g):=⟨_,rfl⟩
  rw [← hE,← hps] at WS ⊢
  obtain ⟨v',rfl⟩:∃ x:Nat,v=(x:Int):=⟨v.toNat,by omega⟩
  have hv':v' + 1 < 4294967296:=by omega
  have HS1:=Lh hs1
  clear hi hq hs ht hk hv0 hv1 hE hps hl hs1
  by_cases h0:E=0
  ·subst h0
   rw [if_pos rfl] at WS ⊢
   dsimp only
   rw [hlen]
   clear hlen
   go_enter Tryz.func39,Tryz.ntmps39
   go_upto_region 1 with fail
   rw [← hw1]
   clear hw1
   go_upto_region 6 with fail
   obtain ⟨w2,hw2⟩:∃ x:World,x=w1.alloc (.cells #[.int .u32 ((v':Int) + 1),.int .i64 a,.int .u64 g,.int .i64 n,.int .i64 0,.slice B k c] 32):=⟨_,rfl⟩
   obtain ⟨y,hk1⟩:=met_box w1 ((v':Int) + 1) a g n 0 B k c
   rw [← hw2] at y hk1 ⊢
   have Y:=Lh y
   have X:=Lh (X.out.below hk1 X.out.lt)
   have Z:=Lh (Z.out.below hk1 Z.out.lt)
   have CO:=Lh (CO.out.more hk1)
   have B0:=Lh (B0.out.trans (hk1.mono B0.out.size))
   clear y hk1 hw2 y0 y1 y2 y3 y4 y5 fy c0 c1 c2 c3 c4 c5 c6 c7 d0 d1 d2 d3 d4 d5
   obtain ⟨c0,c1,c2,c3,c4,c5,c6,c7,d0,d1,d2,d3,d4,d5⟩:=X.out.led
   obtain ⟨y0,y1,y2,y3,y4,y5⟩:=Y.out.met
   go_wp2_with fail
   refine (WS.out _ CO.out.1 B0.out).mono ?_
   rintro e w3 ⟨rfl,ho⟩
   have X:=Lh (ho.2.2.blk X.out (by decide) (by decide))
   have Y:=Lh (ho.2.2.blk Y.out (by decide) (by decide))
   have Z:=Lh (ho.2.2.blk Z.out (by decide) (by decide))
   have CO:=Lh (CO.out.trans ho)
   have B0:=Lh (B0.out.trans (ho.2.1.mono hwG))
   clear ho WS y0 y1 y2 y3 y4 y5 c0 c1 c2 c3 c4 c5 c6 c7 d0 d1 d2 d3 d4 d5
   obtain ⟨y0,y1,y2,y3,y4,y5⟩:=Y.out.met
   go_wp2_with fail
   refine (CL.out _ (HT.out.below B0.out)).mono ?_
   rintro e w4 ⟨A4,c4,rfl,hown,hb⟩
   have YL:=Lh (show w1.heap.size < w3.heap.size from Y.out.lt)
   have Y:=Lh (Y.out.below hb Y.out.lt)
   have Z:=Lh (Z.out.below hb Z.out.lt)
   have CO:=Lh (CO.out.more hb)
   have OR:=Lh hown
   clear hown hb CL y0 y1 y2 y3 y4 y5
   obtain ⟨y0,y1,y2,y3,y4,y5⟩:=Y.out.met
   have fy:=Y.out.free
   go_upto_region 10 with fail
   obtain ⟨w5,hw5⟩:∃ x:World,x=w4.setCell ⟨w1.heap.size,5,none⟩ (.slice A4 k c4):=⟨_,rfl⟩
   have hHG:=HGL.out
   have hHS:=HS1.out
   have Z2:=Z.out.away (g':=w1.heap.size) (by omega) 5 (.slice A4 k c4)
   have Y2:=Y.out.set 5 (.slice A4 k c4)
   have CO:=Lh (CO.out.set Y.out (by decide) (by decide) (by decide) (by omega) (by omega) 5 (.slice A4 k c4))
   have OR:=Lh (OR.out.boxM Y.out 5 (.slice A4 k c4))
   rw [← hw5] at Z2 Y2 CO OR ⊢
   replace Y2:Blk w5 w1.heap.size 32 (metL ((v':Int) + 1) a g n 0 A4 k c4):=Y2
   clear Y y0 y1 y2 y3 y4 y5 fy hw5 hHS
   have Z:=Lh Z2
   obtain ⟨y0,y1,y2,y3,y4,y5⟩:=Y2.met
   have fz:=Z.out.free
   obtain ⟨e0,e1,e2,e3,e4,e5⟩:=Z.out.met
   clear Y2 Z2
   go_wp2
   obtain ⟨z0,z1,z2,z3,z4,z5⟩:=(Z.out.sixM ((v':Int) + 1) a g n 0 A4 k c4).met
   refine bodyPost_ret (v:=.tuple #[metV ((v':Int) + 1) a g n 0 A4 k c4,.int .i64 0]) ?_ rfl ⟨A4,c4,_,rfl,(OR.out.boxSix Z.out _ _ _ _ _ _ _ _).lower (by have:=YL.out;have:=HS1.out;omega),CO.out.sixM Z.out (by omega) (by omega) _ _ _ _ _ _ _ _,fun _=>rfl⟩
   clear y0 y1 y2 y3 y4 y5 fz e0 e1 e2 e3 e4 e5
   simp [results,Tryz.f39,go_sem,z0,z1,z2,z3,z4,z5]
  ·rw [if_neg h0] at WS ⊢
   have hz:(E != 0)=true:=by simpa using h0
   dsimp only [zM,List.length_nil]
   go_enter Tryz.func39,Tryz.ntmps39
   go_upto_region 1 with fail
   rw [← hw1]
   clear hw1
   go_upto_region 6 with fail
   obtain ⟨w2,hw2⟩:∃ x:World,x=w1.alloc (.cells #[.int .u32 ((v':Int) + 1),.int .i64 a,.int .u64 g,.int .i64 n,.int .i64 0,.slice B k c] 32):=⟨_,rfl⟩
   obtain ⟨y,hk1⟩:=met_box w1 ((v':Int) + 1) a g n 0 B k c
   rw [← hw2] at y hk1 ⊢
   have Y:=Lh y
   have X:=Lh (X.out.below hk1 X.out.lt)
   have Z:=Lh (Z.out.below hk1 Z.out.lt)
   have CO:=Lh (CO.out.more hk1)
   have B0:=Lh (B0.out.trans (hk1.mono B0.out.size))
   clear y hk1 hw2 y0 y1 y2 y3 y4 y5 fy c0 c1 c2 c3 c4 c5 c6 c7 d0 d1 d2 d3 d4 d5
   obtain ⟨c0,c1,c2,c3,c4,c5,c6,c7,d0,d1,d2,d3,d4,d5⟩:=X.out.led
   obtain ⟨y0,y1,y2,y3,y4,y5⟩:=Y.out.met
   go_wp2_with fail
   refine (WS.out _ CO.out.1 B0.out).mono ?_
   rintro e w3 ⟨rfl,ho⟩
   have X:=Lh (ho.2.2.blk X.out (by decide) (by decide))
   have Y:=Lh (ho.2.2.blk Y.out (by decide) (by decide))
   have Z:=Lh (ho.2.2.blk Z.out (by decide) (by decide))
   have CO:=Lh (CO.out.trans ho)
   have HE:=Lh h0
   clear ho WS h0 y0 y1 y2 y3 y4 y5 c0 c1 c2 c3 c4 c5 c6 c7 d0 d1 d2 d3 d4 d5
   have fz:=Z.out.free
   obtain ⟨e0,e1,e2,e3,e4,e5⟩:=Z.out.met
   go_wp2
   have hHG:=HGL.out
   obtain ⟨z0,z1,z2,z3,z4,z5⟩:=(Z.out.sixM 0 0 0 0 0 none 0 0).met
   refine bodyPost_ret (v:=.tuple #[metV 0 0 0 0 0 none 0 0,.int .i64 E]) ?_ rfl ⟨none,0,_,rfl,OwnRecs.nil _ _,CO.out.sixM Z.out (by omega) (by omega) _ _ _ _ _ _ _ _,fun h=>absurd h HE.out⟩
   clear fz e0 e1 e2 e3 e4 e5
   simp [results,Tryz.f39,go_sem,z0,z1,z2,z3,z4,z5]
end Go.Proofs.YtifgcfepbenpjaaGreat
