/- Texts of layers 1 to 12, joined. -/
import Derived.Test.YtifgcfepbenpjaaGreatNb44
set_option maxRecDepth 100000
set_option maxHeartbeats 12800000
set_option linter.unusedVariables false
namespace Go.Proofs.YtifgcfepbenpjaaGreat
open Go.RowKit
def cmE (P T A M W Q:Int) (S:List Sec) (C:List Pnd) (m:Mt) (b:Txt):Int:=if boE P T A M W Q S C m=0 then (if ansE (putR m.t b)=0 then cmE0 P T A M W Q S C m else ansE (putR m.t b)) else 8
def cmO (P T A M W Q:Int) (S:List Sec) (C:List Pnd) (m:Mt) (b:Txt):Mt:=if cmE P T A M W Q S C m b=0 then cmM A m (ansL (putR m.t b)) else zM
def cmL (P T A M W Q:Int) (S:List Sec) (C:List Pnd) (m:Mt) (b:Txt):List Ac:=if cmE P T A M W Q S C m b=0 then cmA P T A M W Q S C m b (ansL (putR m.t b)) else []
theorem led_yes {w:World} {P T A M W Q:Int} {D:Option Addr} {nd d:Nat} {D':Option Addr} {nd' d':Nat} {v a g n u:Int} {B:Option Addr} {k c:Nat} {e:Ending} {w':World} (h:LedOut w P T A M W Q D nd d D' nd' d' v a g n u B k c 0 e w'):e=.returned (.tuple #[ldV P T A M W Q D nd d D' nd' d' v a g n u B k c,.int .i64 0])∧Below w.heap.size w w':=by
 obtain ⟨hb,⟨_,rfl⟩ | ⟨h8,_⟩⟩:=h
 ·exact ⟨rfl,hb⟩
 ·cases h8
theorem led_no {w:World} {P T A M W Q:Int} {D:Option Addr} {nd d:Nat} {D':Option Addr} {nd' d':Nat} {v a g n u:Int} {B:Option Addr} {k c:Nat} {e:Ending} {w':World} (h:LedOut w P T A M W Q D nd d D' nd' d' v a g n u B k c 8 e w'):e=.returned (.tuple #[ldV 0 0 0 0 0 0 none 0 0 none 0 0 0 0 0 0 0 none 0 0,.int .i64 8])∧Below w.heap.size w w':=by
 obtain ⟨hb,⟨h8,_⟩ | ⟨_,rfl⟩⟩:=h
 ·cases h8
 ·exact ⟨rfl,hb⟩
theorem bo_or (P T A M W Q:Int) (S:List Sec) (C:List Pnd) (m:Mt):boE P T A M W Q S C m=0∨boE P T A M W Q S C m=8:=by unfold boE;split <;> simp
theorem pboot12_any (P T A M W Q:Int) (D:Option Addr) (nd d:Nat) (D':Option Addr) (nd' d':Nat) (S:List Sec) (C:List Pnd) (v a g n u:Int) (B:Option Addr) (k c:Nat) (t:List Rc) (w:World) (hq:Dsk w D nd d D' nd' d' S C) (hs:SmallD S C) (hi:isS (v,a,g)) (ht:Recs w B k c t) (hk:k≤1000) :
  Calls Tryz.prog 12 #[cfgV P T A M W Q,diskV D nd d D' nd' d',metV v a g n u B k c] w (PlanOutB w w.heap.size (bootM P T A M W Q S C ⟨(v,a,g),n,u,t⟩) (bootA P T A M W Q S C ⟨(v,a,g),n,u,t⟩) (bootE P T A M W Q S C ⟨(v,a,g),n,u,t⟩)):=by
 obtain ⟨x,hbel⟩:=MBox.new P T A M W Q v a g n u hq ht
 obtain ⟨z,h2⟩:=met_box (((w.alloc (.cells #[.int .i64 P,.int .i64 T,.int .i64 A,.int .i64 M,.int .i64 W,.int .i64 Q] 36)).alloc (.cells #[.slice D nd d,.slice D' nd' d'] 25)).alloc (.cells #[.int .u32 v,.int .i64 a,.int .u64 g,.int .i64 n,.int .i64 u,.slice B k c] 32)) 0 0 0 0 0 none 0 0
 rw [World.size_alloc,World.size_alloc,World.size_alloc] at z
 replace x:=x.below h2
 replace hbel:=hbel.trans (h2.mono hbel.size)
 obtain ⟨w0,hw0⟩:∃ x:World,x=((((w.alloc (.cells #[.int .i64 P,.int .i64 T,.int .i64 A,.int .i64 M,.int .i64 W,.int .i64 Q] 36)).alloc (.cells #[.slice D nd d,.slice D' nd' d'] 25)).alloc (.cells #[.int .u32 v,.int .i64 a,.int .u64 g,.int .i64 n,.int .i64 u,.slice B k c] 32)).alloc (.cells #[.int .u32 0,.int .i64 0,.int .u64 0,.int .i64 0,.int .i64 0,.slice none 0 0] 32)):=⟨_,rfl⟩
 rw [← hw0] at x z hbel
 have X:=Lh x
 have Z:=Lh z
 have BB:=Lh hbel
 have LG:=fun wx hx hy=>pledger_any P T A M W Q D nd d D' nd' d' S C v a g n u B k c t wx hx hs hy hk
 obtain ⟨⟨c0,c1,c2,c3,c4,c5,c6,c7⟩,d0,d1,d2,d3,d4,d5⟩:=x.cells
 clear x z h2
 unfold PlanOutB
 rcases bo_or P T A M W Q S C ⟨(v,a,g),n,u,t⟩ with h0 | h0
 ·have hE:bootE P T A M W Q S C ⟨(v,a,g),n,u,t⟩=(if v=4294967295 then 9 else spE P T A M W Q S C (v + 1,a,g)):=by unfold bootE;rw [if_pos h0];rfl
  obtain ⟨mm,hmm⟩:∃ y:Mt,y=if (if v=4294967295 then 9 else spE P T A M W Q S C (v + 1,a,g))=0 then ⟨(v + 1,a,g),n,0,t⟩ else zM:=⟨_,rfl⟩
  obtain ⟨LL,hLL⟩:∃ y:List Ac,y=if (if v=4294967295 then 9 else spE P T A M W Q S C (v + 1,a,g))=0 then actsA (spL P T A M W Q S C (v + 1,a,g)) else []:=⟨_,rfl⟩
  have hM:bootM P T A M W Q S C ⟨(v,a,g),n,u,t⟩=mm:=by rw [hmm];unfold bootM;rw [hE];rfl
  have hA:bootA P T A M W Q S C ⟨(v,a,g),n,u,t⟩=LL:=by rw [hLL];unfold bootA;rw [hE];rfl
  rw [hM,hA,hE]
  have PB:=Lh (fun wx hx hy=>pplan_boot P T A M W Q D nd d D' nd' d' S C v a g n u B k c t wx hx hs hi hy hk)
  unfold PlanOutB at PB
  rw [← hmm,← hLL] at PB
  obtain ⟨E,hEE⟩:∃ y,y=(if v=4294967295 then 9 else spE P T A M W Q S C (v + 1,a,g)):=⟨_,rfl⟩
  rw [← hEE] at PB ⊢
  rw [h0] at LG
  replace LG:=Lh (fun wx hx hy=>(LG wx hx hy).mono fun e w' h=>led_yes h)
  clear hmm hLL hM hA hE hEE h0 hbel hq hs hi ht hk
  obtain ⟨⟨V1,V2,V3⟩,V4,V5,tm⟩:=mm
  dsimp only at PB ⊢
  obtain ⟨tn,htn⟩:∃ y,y=tm.length:=⟨_,rfl⟩
  obtain ⟨ln,hln⟩:∃ y,y=LL.length:=⟨_,rfl⟩
  rw [← htn,← hln] at PB ⊢
  clear htn hln
  go_enter Tryz.func12,Tryz.ntmps12
  go_wp2_with fail
  rw [← hw0]
  clear hw0
  refine (LG.out _ X.out.two.dsk.dsk X.out.tab).mono ?_
  rintro e w1 ⟨rfl,hb⟩
  obtain ⟨y,hk1⟩:=led_box w1 P T A M W Q D nd d D' nd' d' v a g n u B k c
  obtain ⟨w2,hw2⟩:∃ x:World,x=w1.alloc (.cells #[.int .i64 P,.int .i64 T,.int .i64 A,.int .i64 M,.int .i64 W,.int .i64 Q,.slice D nd d,.slice D' nd' d',.int .u32 v,.int .i64 a,.int .u64 g,.int .i64 n,.int .i64 u,.slice B k c] 90):=⟨_,rfl⟩
  rw [← hw2] at y hk1
  have BB:=Lh ((BB.out.trans (hb.mono BB.out.size)).trans (hk1.mono (BB.out.trans (hb.mono BB.out.size)).size))
  have X:=Lh ((X.out.below hb).below hk1)
  have Z:=Lh ((Z.out.below hb Z.out.lt).below hk1 (Nat.lt_of_lt_of_le Z.out.lt hb.size))
  have Y:=Lh y
  clear hb hk1 y LG c0 c1 c2 c3 c4 c5 c6 c7 d0 d1 d2 d3 d4 d5
  obtain ⟨⟨c0,c1,c2,c3,c4,c5,c6,c7⟩,d0,d1,d2,d3,d4,d5⟩:=X.out.cells
  go_upto_region 2 with fail
  rw [← hw2]
  clear hw2
  have BL:=Lh BB.out.size
  obtain ⟨g0,g1,g2,g3,g4,g5,g6,g7,g8,g9,g10,g11,g12,g13⟩:=Y.out.led
  go_wp2_with fail
  refine (PB.out _ X.out.two.dsk.dsk X.out.tab).mono ?_
  rintro e w3 ⟨A3,x3,A4,x4,rfl,hown,hoA,hb⟩
  have ZL:=Lh (Nat.lt_of_lt_of_le Z.out.lt (Nat.le_refl _))
  have BB:=Lh (BB.out.trans (hb.mono BB.out.size))
  have Z:=Lh (Z.out.below hb Z.out.lt)
  have OR:=Lh hown
  have OA:=Lh hoA
  clear hb hown hoA PB c0 c1 c2 c3 c4 c5 c6 c7 d0 d1 d2 d3 d4 d5 g0 g1 g2 g3 g4 g5 g6 g7 g8 g9 g10 g11 g12 g13
  have fz:=Z.out.free
  obtain ⟨e0,e1,e2,e3,e4,e5⟩:=Z.out.met
  go_wp2
  obtain ⟨z0,z1,z2,z3,z4,z5⟩:=(Z.out.sixM V1 V2 V3 V4 V5 A3 tn x3).met
  refine bodyPost_ret (v:=.tuple #[metV V1 V2 V3 V4 V5 A3 tn x3,.slice A4 ln x4,.int .i64 E]) ?_ rfl ⟨A3,x3,A4,x4,rfl,(OR.out.boxSix Z.out _ _ _ _ _ _ _ _).lower (by have:=BL.out;omega),(OA.out.sixM ZL.out _ _ _ _ _ _ _ _).lower (by have:=ZL.out;omega),below_sixM BB.out (by omega) _ _ _ _ _ _ _ _⟩
  clear fz e0 e1 e2 e3 e4 e5
  simp [results,Tryz.f12,go_sem,z0,z1,z2,z3,z4,z5]
 ·have hE:bootE P T A M W Q S C ⟨(v,a,g),n,u,t⟩=8:=by unfold bootE;rw [if_neg (by rw [h0];decide)]
  unfold bootM bootA
  rw [hE,if_neg (by decide),if_neg (by decide)]
  rw [h0] at LG
  replace LG:=Lh (fun wx hx hy=>(LG wx hx hy).mono fun e w' h=>led_no h)
  dsimp only [zM,List.length_nil]
  clear hE h0 hbel hq hs hi ht hk
  go_enter Tryz.func12,Tryz.ntmps12
  go_wp2_with fail
  rw [← hw0]
  clear hw0
  refine (LG.out _ X.out.two.dsk.dsk X.out.tab).mono ?_
  rintro e w1 ⟨rfl,hb⟩
  obtain ⟨y,hk1⟩:=led_box w1 0 0 0 0 0 0 none 0 0 none 0 0 0 0 0 0 0 none 0 0
  obtain ⟨w2,hw2⟩:∃ x:World,x=w1.alloc (.cells #[.int .i64 0,.int .i64 0,.int .i64 0,.int .i64 0,.int .i64 0,.int .i64 0,.slice none 0 0,.slice none 0 0,.int .u32 0,.int .i64 0,.int .u64 0,.int .i64 0,.int .i64 0,.slice none 0 0] 90):=⟨_,rfl⟩
  rw [← hw2] at y hk1
  have BB:=Lh ((BB.out.trans (hb.mono BB.out.size)).trans (hk1.mono (BB.out.trans (hb.mono BB.out.size)).size))
  have X:=Lh ((X.out.below hb).below hk1)
  have Z:=Lh ((Z.out.below hb Z.out.lt).below hk1 (Nat.lt_of_lt_of_le Z.out.lt hb.size))
  have Y:=Lh y
  clear hb hk1 y LG c0 c1 c2 c3 c4 c5 c6 c7 d0 d1 d2 d3 d4 d5
  obtain ⟨⟨c0,c1,c2,c3,c4,c5,c6,c7⟩,d0,d1,d2,d3,d4,d5⟩:=X.out.cells
  go_upto_region 2 with fail
  rw [← hw2]
  clear hw2
  have fz:=Z.out.free
  obtain ⟨e0,e1,e2,e3,e4,e5⟩:=Z.out.met
  go_wp2
  obtain ⟨z0,z1,z2,z3,z4,z5⟩:=(Z.out.sixM 0 0 0 0 0 none 0 0).met
  refine bodyPost_ret (v:=.tuple #[metV 0 0 0 0 0 none 0 0,.slice none 0 0,.int .i64 8]) ?_ rfl ⟨none,0,none,0,rfl,OwnRecs.nil _ _,OwnActs.nil _ _,below_sixM BB.out (by omega) _ _ _ _ _ _ _ _⟩
  clear fz e0 e1 e2 e3 e4 e5 c0 c1 c2 c3 c4 c5 c6 c7 d0 d1 d2 d3 d4 d5
  simp [results,Tryz.f12,go_sem,z0,z1,z2,z3,z4,z5]
theorem pcommit12_any (P T A M W Q:Int) (D:Option Addr) (nd d:Nat) (D':Option Addr) (nd' d':Nat) (S:List Sec) (C:List Pnd) (v a g n u:Int) (B:Option Addr) (k c:Nat) (t:List Rc) (Ab:Option Addr) (nb cb:Nat) (b:Txt) (w:World) (hq:Dsk w D nd d D' nd' d' S C) (hs:SmallD S C) (hi:isS (v,a,g)) (ht:Recs w B k c t) (hk:k≤1000) (hb:Arg w .u8 Ab nb cb b) (hby:∀ z ∈ b,isByte z) (hnb:nb≤100) :
  Calls Tryz.prog 10 #[cfgV P T A M W Q,diskV D nd d D' nd' d',metV v a g n u B k c,.slice Ab nb cb] w (PlanOutB w w.heap.size (cmO P T A M W Q S C ⟨(v,a,g),n,u,t⟩ b) (cmL P T A M W Q S C ⟨(v,a,g),n,u,t⟩ b) (cmE P T A M W Q S C ⟨(v,a,g),n,u,t⟩ b)):=by
 obtain ⟨x,hbel⟩:=MBox.new P T A M W Q v a g n u hq ht
 obtain ⟨z,h2⟩:=met_box (((w.alloc (.cells #[.int .i64 P,.int .i64 T,.int .i64 A,.int .i64 M,.int .i64 W,.int .i64 Q] 36)).alloc (.cells #[.slice D nd d,.slice D' nd' d'] 25)).alloc (.cells #[.int .u32 v,.int .i64 a,.int .u64 g,.int .i64 n,.int .i64 u,.slice B k c] 32)) 0 0 0 0 0 none 0 0
 rw [World.size_alloc,World.size_alloc,World.size_alloc] at z
 replace x:=x.below h2
 replace hbel:=hbel.trans (h2.mono hbel.size)
 obtain ⟨w0,hw0⟩:∃ x:World,x=((((w.alloc (.cells #[.int .i64 P,.int .i64 T,.int .i64 A,.int .i64 M,.int .i64 W,.int .i64 Q] 36)).alloc (.cells #[.slice D nd d,.slice D' nd' d'] 25)).alloc (.cells #[.int .u32 v,.int .i64 a,.int .u64 g,.int .i64 n,.int .i64 u,.slice B k c] 32)).alloc (.cells #[.int .u32 0,.int .i64 0,.int .u64 0,.int .i64 0,.int .i64 0,.slice none 0 0] 32)):=⟨_,rfl⟩
 rw [← hw0] at x z hbel
 have X:=Lh x
 have Z:=Lh z
 have BB:=Lh hbel
 have LG:=fun wx hx hy=>pledger_any P T A M W Q D nd d D' nd' d' S C v a g n u B k c t wx hx hs hy hk
 obtain ⟨⟨c0,c1,c2,c3,c4,c5,c6,c7⟩,d0,d1,d2,d3,d4,d5⟩:=x.cells
 clear x z h2
 unfold PlanOutB
 have AB:=Lh (hb.below hbel)
 have PU:=Lh (fun wx hx hy=>pput11_any B k c t Ab nb cb b wx hx hk hy hby hnb)
 unfold PutOut at PU
 rcases bo_or P T A M W Q S C ⟨(v,a,g),n,u,t⟩ with h0 | h0
 ·have hmm0:mayT P T A M W Q S C∧mayM P T A M W Q ⟨(v,a,g),n,u,t⟩:=Classical.byContradiction fun hn=>by
   unfold boE at h0
   rw [if_neg hn] at h0
   cases h0
  have LG:=Lh (fun wx hx hy=>(LG wx hx hy).mono fun e w' h=>led_yes (by rw [h0] at h;exact h))
  rcases ho:putR t b with _ | t'
  ·have hE:cmE P T A M W Q S C ⟨(v,a,g),n,u,t⟩ b=110:=by unfold cmE;rw [if_pos h0];dsimp only;rw [ho];rfl
   unfold cmO cmL
   rw [hE,if_neg (by decide),if_neg (by decide)]
   rw [ho] at PU
   dsimp only [zM,List.length_nil,ansE,ansL] at PU ⊢
   clear hE h0 ho hmm0 hbel hq hs hi ht hk hb hby hnb
   go_enter Tryz.func10,Tryz.ntmps10
   go_wp2_with fail
   rw [← hw0]
   clear hw0
   refine (LG.out _ X.out.two.dsk.dsk X.out.tab).mono ?_
   rintro e w1 ⟨rfl,hb⟩
   obtain ⟨y,hk1⟩:=led_box w1 P T A M W Q D nd d D' nd' d' v a g n u B k c
   obtain ⟨w2,hw2⟩:∃ x:World,x=w1.alloc (.cells #[.int .i64 P,.int .i64 T,.int .i64 A,.int .i64 M,.int .i64 W,.int .i64 Q,.slice D nd d,.slice D' nd' d',.int .u32 v,.int .i64 a,.int .u64 g,.int .i64 n,.int .i64 u,.slice B k c] 90):=⟨_,rfl⟩
   rw [← hw2] at y hk1
   have BB:=Lh ((BB.out.trans (hb.mono BB.out.size)).trans (hk1.mono (BB.out.trans (hb.mono BB.out.size)).size))
   have X:=Lh ((X.out.below hb).below hk1)
   have Z:=Lh ((Z.out.below hb Z.out.lt).below hk1 (Nat.lt_of_lt_of_le Z.out.lt hb.size))
   have Y:=Lh y
   have AB:=Lh ((AB.out.below hb).below hk1)
   have SZ2:=Lh BB.out.size
   clear hb hk1 y LG c0 c1 c2 c3 c4 c5 c6 c7 d0 d1 d2 d3 d4 d5
   obtain ⟨⟨c0,c1,c2,c3,c4,c5,c6,c7⟩,d0,d1,d2,d3,d4,d5⟩:=X.out.cells
   go_upto_region 2 with fail
   rw [← hw2]
   clear hw2
   go_wp2_with fail
   refine (PU.out _ X.out.tab AB.out).mono ?_
   rintro e w5 ⟨A5,x5,rfl,hown,hb⟩
   have BB:=Lh (BB.out.trans (hb.mono BB.out.size))
   have X:=Lh (X.out.below hb)
   have Z:=Lh (Z.out.below hb Z.out.lt)
   have Y:=Lh (Y.out.below hb Y.out.lt)
   have AB:=Lh (AB.out.below hb)
   clear hb hown PU c0 c1 c2 c3 c4 c5 c6 c7 d0 d1 d2 d3 d4 d5
   obtain ⟨⟨c0,c1,c2,c3,c4,c5,c6,c7⟩,d0,d1,d2,d3,d4,d5⟩:=X.out.cells
   have fz:=Z.out.free
   obtain ⟨e0,e1,e2,e3,e4,e5⟩:=Z.out.met
   go_wp2
   obtain ⟨z0,z1,z2,z3,z4,z5⟩:=(Z.out.sixM 0 0 0 0 0 none 0 0).met
   refine bodyPost_ret (v:=.tuple #[metV 0 0 0 0 0 none 0 0,.slice none 0 0,.int .i64 110]) ?_ rfl ⟨none,0,none,0,rfl,OwnRecs.nil _ _,OwnActs.nil _ _,below_sixM BB.out (by omega) _ _ _ _ _ _ _ _⟩
   clear fz e0 e1 e2 e3 e4 e5 c0 c1 c2 c3 c4 c5 c6 c7 d0 d1 d2 d3 d4 d5
   simp [results,Tryz.f10,go_sem,z0,z1,z2,z3,z4,z5]
  ·have hE:cmE P T A M W Q S C ⟨(v,a,g),n,u,t⟩ b=cmE0 P T A M W Q S C ⟨(v,a,g),n,u,t⟩:=by unfold cmE;rw [if_pos h0];dsimp only;rw [ho];rfl
   obtain ⟨mm,hmm⟩:∃ y:Mt,y=if cmE0 P T A M W Q S C ⟨(v,a,g),n,u,t⟩=0 then cmM A ⟨(v,a,g),n,u,t⟩ t' else zM:=⟨_,rfl⟩
   obtain ⟨LL,hLL⟩:∃ y:List Ac,y=if cmE0 P T A M W Q S C ⟨(v,a,g),n,u,t⟩=0 then cmA P T A M W Q S C ⟨(v,a,g),n,u,t⟩ b t' else []:=⟨_,rfl⟩
   have hM:cmO P T A M W Q S C ⟨(v,a,g),n,u,t⟩ b=mm:=by rw [hmm];unfold cmO;rw [hE];dsimp only;rw [ho];rfl
   have hA:cmL P T A M W Q S C ⟨(v,a,g),n,u,t⟩ b=LL:=by rw [hLL];unfold cmL;rw [hE];dsimp only;rw [ho];rfl
   rw [hM,hA,hE]
   have hln0:=note_len ho
   have hmt:=(put_may ho).2
   have PB:=Lh (fun base Bt ct wx hx hy hz=>pplan_put P T A M W Q D nd d D' nd' d' S C v a g n u B k c t Ab nb cb b base Bt t'.length ct t' wx hx hs hmm0.1 hmm0.2 hi hy hby hln0.1 hln0.2 hz hmt)
   unfold PlanOutB at PB
   rw [← hmm,← hLL] at PB
   obtain ⟨E,hEE⟩:∃ y,y=cmE0 P T A M W Q S C ⟨(v,a,g),n,u,t⟩:=⟨_,rfl⟩
   rw [← hEE] at PB ⊢
   rw [ho] at PU
   dsimp only [ansE,ansL] at PU
   obtain ⟨tk,htk⟩:∃ y,y=t'.length:=⟨_,rfl⟩
   rw [← htk] at PB PU
   obtain ⟨⟨V1,V2,V3⟩,V4,V5,tm⟩:=mm
   dsimp only at PB ⊢
   obtain ⟨tn,htn⟩:∃ y,y=tm.length:=⟨_,rfl⟩
   obtain ⟨ln,hln⟩:∃ y,y=LL.length:=⟨_,rfl⟩
   rw [← htn,← hln] at PB ⊢
   clear htn hln htk hmm hLL hM hA hE hEE h0 ho hmm0 hln0 hmt hbel hq hs hi ht hk hb hby hnb
   go_enter Tryz.func10,Tryz.ntmps10
   go_wp2_with fail
   rw [← hw0]
   clear hw0
   refine (LG.out _ X.out.two.dsk.dsk X.out.tab).mono ?_
   rintro e w1 ⟨rfl,hb⟩
   obtain ⟨y,hk1⟩:=led_box w1 P T A M W Q D nd d D' nd' d' v a g n u B k c
   obtain ⟨w2,hw2⟩:∃ x:World,x=w1.alloc (.cells #[.int .i64 P,.int .i64 T,.int .i64 A,.int .i64 M,.int .i64 W,.int .i64 Q,.slice D nd d,.slice D' nd' d',.int .u32 v,.int .i64 a,.int .u64 g,.int .i64 n,.int .i64 u,.slice B k c] 90):=⟨_,rfl⟩
   rw [← hw2] at y hk1
   have BB:=Lh ((BB.out.trans (hb.mono BB.out.size)).trans (hk1.mono (BB.out.trans (hb.mono BB.out.size)).size))
   have X:=Lh ((X.out.below hb).below hk1)
   have Z:=Lh ((Z.out.below hb Z.out.lt).below hk1 (Nat.lt_of_lt_of_le Z.out.lt hb.size))
   have Y:=Lh y
   have AB:=Lh ((AB.out.below hb).below hk1)
   have SZ2:=Lh BB.out.size
   clear hb hk1 y LG c0 c1 c2 c3 c4 c5 c6 c7 d0 d1 d2 d3 d4 d5
   obtain ⟨⟨c0,c1,c2,c3,c4,c5,c6,c7⟩,d0,d1,d2,d3,d4,d5⟩:=X.out.cells
   go_upto_region 2 with fail
   rw [← hw2]
   clear hw2
   go_wp2_with fail
   refine (PU.out _ X.out.tab AB.out).mono ?_
   rintro e w5 ⟨A5,x5,rfl,hown,hb⟩
   have BB:=Lh (BB.out.trans (hb.mono BB.out.size))
   have X:=Lh (X.out.below hb)
   have Z:=Lh (Z.out.below hb Z.out.lt)
   have Y:=Lh (Y.out.below hb Y.out.lt)
   have AB:=Lh (AB.out.below hb)
   have OP:=Lh hown
   have BL:=Lh (Nat.le_trans SZ2.out (Nat.le_refl _))
   clear hb hown PU c0 c1 c2 c3 c4 c5 c6 c7 d0 d1 d2 d3 d4 d5
   obtain ⟨⟨c0,c1,c2,c3,c4,c5,c6,c7⟩,d0,d1,d2,d3,d4,d5⟩:=X.out.cells
   obtain ⟨g0,g1,g2,g3,g4,g5,g6,g7,g8,g9,g10,g11,g12,g13⟩:=Y.out.led
   go_wp2_with fail
   refine (PB.out _ A5 x5 _ X.out.two.dsk.dsk AB.out OP.out).mono ?_
   rintro e w3 ⟨A3,x3,A4,x4,rfl,hown,hoA,hb⟩
   have ZL:=Lh (Nat.lt_of_lt_of_le Z.out.lt (Nat.le_refl _))
   have BB:=Lh (BB.out.trans (hb.mono BB.out.size))
   have Z:=Lh (Z.out.below hb Z.out.lt)
   have OR:=Lh hown
   have OA:=Lh hoA
   clear hb hown hoA PB c0 c1 c2 c3 c4 c5 c6 c7 d0 d1 d2 d3 d4 d5 g0 g1 g2 g3 g4 g5 g6 g7 g8 g9 g10 g11 g12 g13
   have fz:=Z.out.free
   obtain ⟨e0,e1,e2,e3,e4,e5⟩:=Z.out.met
   go_wp2
   obtain ⟨z0,z1,z2,z3,z4,z5⟩:=(Z.out.sixM V1 V2 V3 V4 V5 A3 tn x3).met
   refine bodyPost_ret (v:=.tuple #[metV V1 V2 V3 V4 V5 A3 tn x3,.slice A4 ln x4,.int .i64 E]) ?_ rfl ⟨A3,x3,A4,x4,rfl,(OR.out.boxSix Z.out _ _ _ _ _ _ _ _).lower (by have:=BL.out;omega),(OA.out.sixM ZL.out _ _ _ _ _ _ _ _).lower (by have:=ZL.out;omega),below_sixM BB.out (by omega) _ _ _ _ _ _ _ _⟩
   clear fz e0 e1 e2 e3 e4 e5
   simp [results,Tryz.f10,go_sem,z0,z1,z2,z3,z4,z5]
 ·have hE:cmE P T A M W Q S C ⟨(v,a,g),n,u,t⟩ b=8:=by unfold cmE;rw [if_neg (by rw [h0];decide)]
  unfold cmO cmL
  rw [hE,if_neg (by decide),if_neg (by decide)]
  have LG:=Lh (fun wx hx hy=>(LG wx hx hy).mono fun e w' h=>led_no (by rw [h0] at h;exact h))
  dsimp only [zM,List.length_nil]
  clear PU hE h0 hbel hq hs hi ht hk hb hby hnb
  go_enter Tryz.func10,Tryz.ntmps10
  go_wp2_with fail
  rw [← hw0]
  clear hw0
  refine (LG.out _ X.out.two.dsk.dsk X.out.tab).mono ?_
  rintro e w1 ⟨rfl,hb⟩
  obtain ⟨y,hk1⟩:=led_box w1 0 0 0 0 0 0 none 0 0 none 0 0 0 0 0 0 0 none 0 0
  obtain ⟨w2,hw2⟩:∃ x:World,x=w1.alloc (.cells #[.int .i64 0,.int .i64 0,.int .i64 0,.int .i64 0,.int .i64 0,.int .i64 0,.slice none 0 0,.slice none 0 0,.int .u32 0,.int .i64 0,.int .u64 0,.int .i64 0,.int .i64 0,.slice none 0 0] 90):=⟨_,rfl⟩
  rw [← hw2] at y hk1
  have BB:=Lh ((BB.out.trans (hb.mono BB.out.size)).trans (hk1.mono (BB.out.trans (hb.mono BB.out.size)).size))
  have X:=Lh ((X.out.below hb).below hk1)
  have Z:=Lh ((Z.out.below hb Z.out.lt).below hk1 (Nat.lt_of_lt_of_le Z.out.lt hb.size))
  have Y:=Lh y
  have AB:=Lh ((AB.out.below hb).below hk1)
  have SZ2:=Lh BB.out.size
  clear hb hk1 y LG c0 c1 c2 c3 c4 c5 c6 c7 d0 d1 d2 d3 d4 d5
  obtain ⟨⟨c0,c1,c2,c3,c4,c5,c6,c7⟩,d0,d1,d2,d3,d4,d5⟩:=X.out.cells
  go_upto_region 2 with fail
  rw [← hw2]
  clear hw2
  have fz:=Z.out.free
  obtain ⟨e0,e1,e2,e3,e4,e5⟩:=Z.out.met
  go_wp2
  obtain ⟨z0,z1,z2,z3,z4,z5⟩:=(Z.out.sixM 0 0 0 0 0 none 0 0).met
  refine bodyPost_ret (v:=.tuple #[metV 0 0 0 0 0 none 0 0,.slice none 0 0,.int .i64 8]) ?_ rfl ⟨none,0,none,0,rfl,OwnRecs.nil _ _,OwnActs.nil _ _,below_sixM BB.out (by omega) _ _ _ _ _ _ _ _⟩
  clear fz e0 e1 e2 e3 e4 e5 c0 c1 c2 c3 c4 c5 c6 c7 d0 d1 d2 d3 d4 d5
  simp [results,Tryz.f10,go_sem,z0,z1,z2,z3,z4,z5]
end Go.Proofs.YtifgcfepbenpjaaGreat
