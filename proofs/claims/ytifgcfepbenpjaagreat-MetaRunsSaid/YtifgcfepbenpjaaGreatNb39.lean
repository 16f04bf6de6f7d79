/- Texts of layers 1 to 12, joined. -/
import Derived.Test.YtifgcfepbenpjaaGreatNb38
set_option maxRecDepth 100000
set_option maxHeartbeats 12800000
set_option linter.unusedVariables false
namespace Go.Proofs.YtifgcfepbenpjaaGreat
open Go.RowKit
theorem popen12_any (P T A M W Q:Int) (D:Option Addr) (nd d:Nat) (D':Option Addr) (nd' d':Nat) (S:List Sec) (C:List Pnd) (w:World) (hq:Dsk w D nd d D' nd' d' S C) (hs:SmallD S C) :
  Calls Tryz.prog 13 #[cfgV P T A M W Q,diskV D nd d D' nd' d'] w (MetOut w (moV P T A M W Q S C) (moE P T A M W Q S C)):=by
 obtain ⟨x,hbel⟩:=MBox.new P T A M W Q 0 0 0 0 0 hq (Recs.nil w)
 obtain ⟨w0,hw0⟩:∃ x:World,x=(((w.alloc (.cells #[.int .i64 P,.int .i64 T,.int .i64 A,.int .i64 M,.int .i64 W,.int .i64 Q] 36)).alloc (.cells #[.slice D nd d,.slice D' nd' d'] 25)).alloc (.cells #[.int .u32 0,.int .i64 0,.int .u64 0,.int .i64 0,.int .i64 0,.slice none 0 0] 32)):=⟨_,rfl⟩
 rw [← hw0] at x hbel
 have X:=Lh x
 have BB:=Lh hbel
 have RD:=Lh (fun wx hx=>sread_any P T A M W Q D nd d D' nd' d' S C wx hx hs)
 unfold SupOut at RD
 have GOOD:=Lh (srV_good (P:=P) (T:=T) (A:=A) (M:=M) (W:=W) (Q:=Q) (S:=S) (C:=C) hq.secs.byte hq.pnds.byte)
 obtain ⟨⟨c0,c1,c2,c3,c4,c5,c6,c7⟩,d0,d1,d2,d3,d4,d5⟩:=x.cells
 clear x hbel hq
 unfold MetOut
 by_cases h0:srE P T A M W Q S C=0
 ·obtain ⟨hm,har,his⟩:=GOOD.out h0
  rw [h0] at RD
  obtain ⟨L,hL⟩:∃ y,y=opL P T A M W Q S C:=⟨_,rfl⟩
  have HM:moE P T A M W Q S C=ansE (tabR L)∧moV P T A M W Q S C=if ansE (tabR L)=0 then ⟨srV P T A M W Q S C,(L.length:Int),0,ansL (tabR L)⟩ else zM:=by
   have e:moE P T A M W Q S C=ansE (tabR L):=by unfold moE;rw [if_pos h0,hL]
   refine ⟨e,?_⟩
   unfold moV
   rw [e,hL]
  rw [HM.1,HM.2]
  unfold opL at hL
  obtain ⟨V1,hV1⟩:∃ y,y=(srV P T A M W Q S C).1:=⟨_,rfl⟩
  obtain ⟨V2,hV2⟩:∃ y,y=(srV P T A M W Q S C).2.1:=⟨_,rfl⟩
  obtain ⟨V3,hV3⟩:∃ y,y=(srV P T A M W Q S C).2.2:=⟨_,rfl⟩
  have hV:srV P T A M W Q S C=(V1,V2,V3):=by rw [hV1,hV2,hV3]
  rw [hV] at RD har his hL ⊢
  dsimp only at RD har his hL ⊢
  have haj:arJ V2:=by unfold arS at har;unfold arJ;omega
  have RN:=Lh (fun wx hx=>jscan_any P T A M W Q D nd d D' nd' d' S C V2 V3 wx hx hs his.2)
  have hja:jaE P T A M W Q S C V2=0:=by unfold jaE;rw [if_pos hm,if_pos haj]
  have hjl:jsL P T A M W Q S C V2 V3=jN (jf S C A V2 V3) A.toNat:=if_pos hja
  rw [hja,hjl] at RN
  unfold ScanOut at RN
  have hsh:ShortT L L.length:=fun y _=>by
   rw [hL]
   rcases Nat.lt_or_ge y (jM (jf S C A V2 V3) A.toNat) with hy | hy
   ·rw [gtD,jN_get _ _ hy,Option.getD_some]
    unfold jf noteO
    split
    ·exact Nat.zero_le _
    ·exact Nat.le_trans (noteT_few _ _ _) (by decide)
   ·rw [gtD,List.getElem?_eq_none (by rw [jN_length];exact hy)]
    exact Nat.zero_le _
  rw [← hL] at RN
  have hfew:L.length≤100:=by
   rw [hL,jN_length]
   have:=jM_le (jf S C A V2 V3) A.toNat
   have hA:=hm.1
   unfold mayC at hA
   omega
  obtain ⟨ln,hln⟩:∃ y,y=L.length:=⟨_,rfl⟩
  rw [← hln] at hsh hfew
  have RT:=Lh (fun A' c' wx hx=>ptable11_any A' ln c' L wx hx (by omega) hsh)
  unfold PutOut at RT
  rw [← hln] at RN ⊢
  clear hsh hja hjl haj hm har his hV hV1 hV2 hV3 hL hln GOOD HM h0 hs
  rcases ho:tabR L with _ | t
  ·rw [ho] at RT
   rw [if_neg (show ¬ ansE none=0 by decide)]
   dsimp only [ansE,ansL,zM,List.length_nil] at RT ⊢
   clear ho
   go_enter Tryz.func13,Tryz.ntmps13
   go_wp2_with fail
   rw [← hw0]
   clear hw0
   refine (RD.out _ X.out.two.dsk.dsk).mono ?_
   rintro e w1 ⟨rfl,hb⟩
   have BB:=Lh (BB.out.trans (hb.mono BB.out.size))
   have X:=Lh (X.out.below hb)
   clear hb RD c0 c1 c2 c3 c4 c5 c6 c7 d0 d1 d2 d3 d4 d5
   obtain ⟨z,hk⟩:=sup_box w1 V1 V2 V3
   have BB:=Lh (BB.out.trans (hk.mono BB.out.size))
   have X:=Lh (X.out.below hk)
   have Z:=Lh z
   obtain ⟨⟨c0,c1,c2,c3,c4,c5,c6,c7⟩,d0,d1,d2,d3,d4,d5⟩:=X.out.cells
   obtain ⟨y0,y1,y2⟩:=z.tri
   clear z hk
   go_wp2_with fail
   refine (RN.out _ X.out.two.dsk.dsk).mono ?_
   rintro e w3 ⟨A3,x3,rfl,hown,hb⟩
   have T3:=Lh hown.texts
   have BB:=Lh (BB.out.trans (hb.mono BB.out.size))
   have X:=Lh (X.out.below hb)
   have Z:=Lh (Z.out.below hb Z.out.lt)
   clear hown hb RN c0 c1 c2 c3 c4 c5 c6 c7 d0 d1 d2 d3 d4 d5 y0 y1 y2
   obtain ⟨⟨c0,c1,c2,c3,c4,c5,c6,c7⟩,d0,d1,d2,d3,d4,d5⟩:=X.out.cells
   obtain ⟨y0,y1,y2⟩:=Z.out.tri
   go_wp2_with fail
   refine (RT.out _ _ _ T3.out).mono ?_
   rintro e w4 ⟨A4,x4,rfl,hown,hb⟩
   have O4:=Lh hown
   have G3:=Lh X.out.met.lt
   have BB:=Lh (BB.out.trans (hb.mono BB.out.size))
   have X:=Lh (X.out.below hb)
   have Z:=Lh (Z.out.below hb Z.out.lt)
   clear hown hb RT T3 c0 c1 c2 c3 c4 c5 c6 c7 d0 d1 d2 d3 d4 d5 y0 y1 y2
   obtain ⟨⟨c0,c1,c2,c3,c4,c5,c6,c7⟩,d0,d1,d2,d3,d4,d5⟩:=X.out.cells
   obtain ⟨y0,y1,y2⟩:=Z.out.tri
   have f0:=X.out.met.free
   go_wp2
   obtain ⟨z0,z1,z2,z3,z4,z5⟩:=(X.out.met.sixM 0 0 0 0 0 none 0 0).met
   refine bodyPost_ret (v:=.tuple #[metV 0 0 0 0 0 none 0 0,.int .i64 110]) ?_ rfl ⟨_,_,rfl,OwnRecs.nil _ _,below_sixM BB.out (by omega) 0 0 0 0 0 none 0 0⟩
   clear c0 c1 c2 c3 c4 c5 c6 c7 d0 d1 d2 d3 d4 d5 y0 y1 y2 f0
   simp [results,Tryz.f13,go_sem,z0,z1,z2,z3,z4,z5]
  ·rw [ho] at RT
   rw [if_pos (show ansE (some t)=0 from rfl)]
   dsimp only [ansE,ansL] at RT ⊢
   obtain ⟨tn,htn⟩:∃ y,y=t.length:=⟨_,rfl⟩
   rw [← htn] at RT ⊢
   clear ho htn
   go_enter Tryz.func13,Tryz.ntmps13
   go_wp2_with fail
   rw [← hw0]
   clear hw0
   refine (RD.out _ X.out.two.dsk.dsk).mono ?_
   rintro e w1 ⟨rfl,hb⟩
   have BB:=Lh (BB.out.trans (hb.mono BB.out.size))
   have X:=Lh (X.out.below hb)
   clear hb RD c0 c1 c2 c3 c4 c5 c6 c7 d0 d1 d2 d3 d4 d5
   obtain ⟨z,hk⟩:=sup_box w1 V1 V2 V3
   have BB:=Lh (BB.out.trans (hk.mono BB.out.size))
   have X:=Lh (X.out.below hk)
   have Z:=Lh z
   obtain ⟨⟨c0,c1,c2,c3,c4,c5,c6,c7⟩,d0,d1,d2,d3,d4,d5⟩:=X.out.cells
   obtain ⟨y0,y1,y2⟩:=z.tri
   clear z hk
   go_wp2_with fail
   refine (RN.out _ X.out.two.dsk.dsk).mono ?_
   rintro e w3 ⟨A3,x3,rfl,hown,hb⟩
   have T3:=Lh hown.texts
   have BB:=Lh (BB.out.trans (hb.mono BB.out.size))
   have X:=Lh (X.out.below hb)
   have Z:=Lh (Z.out.below hb Z.out.lt)
   clear hown hb RN c0 c1 c2 c3 c4 c5 c6 c7 d0 d1 d2 d3 d4 d5 y0 y1 y2
   obtain ⟨⟨c0,c1,c2,c3,c4,c5,c6,c7⟩,d0,d1,d2,d3,d4,d5⟩:=X.out.cells
   obtain ⟨y0,y1,y2⟩:=Z.out.tri
   go_wp2_with fail
   refine (RT.out _ _ _ T3.out).mono ?_
   rintro e w4 ⟨A4,x4,rfl,hown,hb⟩
   have O4:=Lh hown
   have G3:=Lh X.out.met.lt
   have BB:=Lh (BB.out.trans (hb.mono BB.out.size))
   have X:=Lh (X.out.below hb)
   have Z:=Lh (Z.out.below hb Z.out.lt)
   clear hown hb RT T3 c0 c1 c2 c3 c4 c5 c6 c7 d0 d1 d2 d3 d4 d5 y0 y1 y2
   obtain ⟨⟨c0,c1,c2,c3,c4,c5,c6,c7⟩,d0,d1,d2,d3,d4,d5⟩:=X.out.cells
   obtain ⟨y0,y1,y2⟩:=Z.out.tri
   have f0:=X.out.met.free
   go_wp2
   obtain ⟨z0,z1,z2,z3,z4,z5⟩:=(X.out.met.sixM V1 V2 V3 (ln:Int) 0 A4 tn x4).met
   refine bodyPost_ret (v:=.tuple #[metV V1 V2 V3 (ln:Int) 0 A4 tn x4,.int .i64 0]) ?_ rfl ⟨_,_,rfl,OwnRecs.lower (OwnRecs.sixM O4.out (G:=w.heap.size + 2) G3.out V1 V2 V3 (ln:Int) 0 A4 tn x4) (by have:=G3.out;omega),below_sixM BB.out (by omega) V1 V2 V3 (ln:Int) 0 A4 tn x4⟩
   clear c0 c1 c2 c3 c4 c5 c6 c7 d0 d1 d2 d3 d4 d5 y0 y1 y2 f0
   simp [results,Tryz.f13,go_sem,z0,z1,z2,z3,z4,z5]
 ·have HM:moE P T A M W Q S C=srE P T A M W Q S C∧moV P T A M W Q S C=zM:=by
   have e:moE P T A M W Q S C=srE P T A M W Q S C:=by unfold moE;rw [if_neg h0]
   refine ⟨e,?_⟩
   unfold moV
   rw [e,if_neg h0]
  rw [HM.1,HM.2]
  dsimp only [zM,List.length_nil]
  obtain ⟨E,hE⟩:∃ y,y=srE P T A M W Q S C:=⟨_,rfl⟩
  obtain ⟨V1,hV1⟩:∃ y,y=(srV P T A M W Q S C).1:=⟨_,rfl⟩
  obtain ⟨V2,hV2⟩:∃ y,y=(srV P T A M W Q S C).2.1:=⟨_,rfl⟩
  obtain ⟨V3,hV3⟩:∃ y,y=(srV P T A M W Q S C).2.2:=⟨_,rfl⟩
  rw [← hE] at h0
  rw [← hE,← hV1,← hV2,← hV3] at RD
  rw [← hE]
  clear hE hV1 hV2 hV3 GOOD HM hs
  have hz:(E != 0)=true:=by simpa using h0
  go_enter Tryz.func13,Tryz.ntmps13
  go_wp2_with fail
  rw [← hw0]
  clear hw0
  refine (RD.out _ X.out.two.dsk.dsk).mono ?_
  rintro e w1 ⟨rfl,hb⟩
  have BB:=Lh (BB.out.trans (hb.mono BB.out.size))
  have X:=Lh (X.out.below hb)
  clear hb RD c0 c1 c2 c3 c4 c5 c6 c7 d0 d1 d2 d3 d4 d5
  obtain ⟨z,hk⟩:=sup_box w1 V1 V2 V3
  have BB:=Lh (BB.out.trans (hk.mono BB.out.size))
  have X:=Lh (X.out.below hk)
  have Z:=Lh z
  obtain ⟨⟨c0,c1,c2,c3,c4,c5,c6,c7⟩,d0,d1,d2,d3,d4,d5⟩:=X.out.cells
  obtain ⟨y0,y1,y2⟩:=z.tri
  clear z hk
  have f0:=X.out.met.free
  go_wp2
  obtain ⟨z0,z1,z2,z3,z4,z5⟩:=(X.out.met.sixM 0 0 0 0 0 none 0 0).met
  refine bodyPost_ret (v:=.tuple #[metV 0 0 0 0 0 none 0 0,.int .i64 E]) ?_ rfl ⟨_,_,rfl,OwnRecs.nil _ _,below_sixM BB.out (by omega) 0 0 0 0 0 none 0 0⟩
  clear c0 c1 c2 c3 c4 c5 c6 c7 d0 d1 d2 d3 d4 d5 y0 y1 y2 f0
  simp [results,Tryz.f13,go_sem,z0,z1,z2,z3,z4,z5]
abbrev ldV (P T A M W Q:Int) (D:Option Addr) (nd d:Nat) (D':Option Addr) (nd' d':Nat) (v a g n u:Int) (B:Option Addr) (k c:Nat):Value:=.agg #[.int .i64 P,.int .i64 T,.int .i64 A,.int .i64 M,.int .i64 W,.int .i64 Q,.slice D nd d,.slice D' nd' d',.int .u32 v,.int .i64 a,.int .u64 g,.int .i64 n,.int .i64 u,.slice B k c]
abbrev ldL (P T A M W Q:Int) (D:Option Addr) (nd d:Nat) (D':Option Addr) (nd' d':Nat) (v a g n u:Int) (B:Option Addr) (k c:Nat):List Value:=[.int .i64 P,.int .i64 T,.int .i64 A,.int .i64 M,.int .i64 W,.int .i64 Q,.slice D nd d,.slice D' nd' d',.int .u32 v,.int .i64 a,.int .u64 g,.int .i64 n,.int .i64 u,.slice B k c]
section
variable {w w':World} {G:Nat} {P T A M W Q v a g n u:Int} {D D' B:Option Addr} {nd d nd' d' k c:Nat} {S:List Sec} {C:List Pnd} {t:List Rc}
theorem Blk.led (x:Blk w G 90 (ldL P T A M W Q D nd d D' nd' d' v a g n u B k c)):w.cell? ⟨G,0,none⟩=some (.int .i64 P)∧w.cell? ⟨G,1,none⟩=some (.int .i64 T)∧w.cell? ⟨G,2,none⟩=some (.int .i64 A)∧w.cell? ⟨G,3,none⟩=some (.int .i64 M)∧w.cell? ⟨G,4,none⟩=some (.int .i64 W)∧w.cell? ⟨G,5,none⟩=some (.int .i64 Q)∧w.cell? ⟨G,6,none⟩=some (.slice D nd d)∧w.cell? ⟨G,7,none⟩=some (.slice D' nd' d')∧w.cell? ⟨G,8,none⟩=some (.int .u32 v)∧w.cell? ⟨G,9,none⟩=some (.int .i64 a)∧w.cell? ⟨G,10,none⟩=some (.int .u64 g)∧w.cell? ⟨G,11,none⟩=some (.int .i64 n)∧w.cell? ⟨G,12,none⟩=some (.int .i64 u)∧w.cell? ⟨G,13,none⟩=some (.slice B k c):=⟨x.cell 0,x.cell 1,x.cell 2,x.cell 3,x.cell 4,x.cell 5,x.cell 6,x.cell 7,x.cell 8,x.cell 9,x.cell 10,x.cell 11,x.cell 12,x.cell 13⟩
theorem led_box (w:World) (P T A M W Q:Int) (D:Option Addr) (nd d:Nat) (D':Option Addr) (nd' d':Nat) (v a g n u:Int) (B:Option Addr) (k c:Nat):Blk (w.alloc (.cells #[.int .i64 P,.int .i64 T,.int .i64 A,.int .i64 M,.int .i64 W,.int .i64 Q,.slice D nd d,.slice D' nd' d',.int .u32 v,.int .i64 a,.int .u64 g,.int .i64 n,.int .i64 u,.slice B k c] 90)) w.heap.size 90 (ldL P T A M W Q D nd d D' nd' d' v a g n u B k c)∧Below w.heap.size w (w.alloc (.cells #[.int .i64 P,.int .i64 T,.int .i64 A,.int .i64 M,.int .i64 W,.int .i64 Q,.slice D nd d,.slice D' nd' d',.int .u32 v,.int .i64 a,.int .u64 g,.int .i64 n,.int .i64 u,.slice B k c] 90)):=⟨Blk.new w 90 (ldL P T A M W Q D nd d D' nd' d' v a g n u B k c),(Below.refl _ _).alloc (Nat.le_refl _) _⟩
end
theorem pnext_any (P T A M W Q:Int) (D:Option Addr) (nd d:Nat) (D':Option Addr) (nd' d':Nat) (v a g n u:Int) (B:Option Addr) (k c:Nat) (w:World) (hv:0≤v∧v < 4294967296) (hu:0≤u∧u≤65535) :
  Calls Tryz.prog 112 #[ldV P T A M W Q D nd d D' nd' d' v a g n u B k c] w fun e w'=>e=.returned (.int .u64 (65536 * v + u + 1))∧Below w.heap.size w w':=by
 obtain ⟨x,hb⟩:=led_box w P T A M W Q D nd d D' nd' d' v a g n u B k c
 have BB:=Lh hb
 obtain ⟨c0,c1,c2,c3,c4,c5,c6,c7,d0,d1,d2,d3,d4,d5⟩:=x.led
 clear x hb
 obtain ⟨v',rfl⟩:∃ x:Nat,v=(x:Int):=⟨v.toNat,by omega⟩
 obtain ⟨u',rfl⟩:∃ x:Nat,u=(x:Int):=⟨u.toNat,by omega⟩
 have hv':v' < 4294967296:=by omega
 have hu':u'≤65535:=by omega
 clear hv hu
 go_enter Tryz.func112,Tryz.ntmps112
 go_wp2
 go_ret
 refine ⟨?_,BB.out⟩
 go_num
theorem pcheck12_any (P T A M W Q v a g n u:Int) (B:Option Addr) (k c:Nat) (t:List Rc) (w:World) (ht:Recs w B k c t) (hk:k≤1000) :
  Calls Tryz.prog 17 #[cfgV P T A M W Q,metV v a g n u B k c] w fun e w'=>e=.returned (.int .i64 (kmE P T A M W Q ⟨(v,a,g),n,u,t⟩))∧Below w.heap.size w w':=by
 obtain ⟨x,hbel⟩:=CMBox.new P T A M W Q v a g n u ht
 obtain ⟨w0,hw0⟩:∃ x:World,x=((w.alloc (.cells #[.int .i64 P,.int .i64 T,.int .i64 A,.int .i64 M,.int .i64 W,.int .i64 Q] 36)).alloc (.cells #[.int .u32 v,.int .i64 a,.int .u64 g,.int .i64 n,.int .i64 u,.slice B k c] 32)):=⟨_,rfl⟩
 rw [← hw0] at x hbel
 have X:=Lh x
 have BB:=Lh hbel
 have AR:=Lh (fun wx=>parea_any P T A M W Q a 0 wx)
 have NT:=Lh (fun wx hx=>pnotes11_any B k c t wx hx hk)
 unfold NotesOut at NT
 obtain ⟨⟨c0,c1,c2,c3,c4,c5⟩,d0,d1,d2,d3,d4,d5⟩:=x.cells
 clear ht hk x hbel
 obtain ⟨N0,hN0⟩:∃ y,y=areN P T A M W Q a 0:=⟨_,rfl⟩
 obtain ⟨tl,htl⟩:∃ y,y=rnL t:=⟨_,rfl⟩
 rw [← hN0] at AR
 rw [← htl] at NT
 clear hN0 htl
 by_cases h0:mayC P T A M W Q∧0≤a∧a≤1
 ·have hA:1≤A:=by have h:=h0.1;unfold mayC at h;omega
  rw [show areE P T A M W Q a 0=0 by unfold areE;rw [if_pos h0.1,if_pos ⟨h0.2.1,h0.2.2,Int.le_refl 0,by omega⟩]] at AR
  clear hA
  by_cases h3:n < 0
  ·rw [show kmE P T A M W Q ⟨(v,a,g),n,u,t⟩=8 from if_neg fun q=>by obtain ⟨q0,q1,q2,q3,q4,q5,q6,q7⟩:=may12_iff.1 q;exact absurd q3 (by omega)]
   clear h0
   go_enter Tryz.func17,Tryz.ntmps17
   go_wp2_with fail
   rw [← hw0]
   clear hw0
   refine (AR.out _).mono ?_
   rintro e w1 ⟨rfl,hb⟩
   have BB:=Lh (BB.out.trans (hb.mono BB.out.size))
   have X:=Lh (X.out.below hb)
   clear hb AR c0 c1 c2 c3 c4 c5 d0 d1 d2 d3 d4 d5
   obtain ⟨⟨c0,c1,c2,c3,c4,c5⟩,d0,d1,d2,d3,d4,d5⟩:=X.out.cells
   go_wp2
   go_ret
   exact ⟨rfl,BB.out⟩
  ·skip
   by_cases h4:A < n
   ·rw [show kmE P T A M W Q ⟨(v,a,g),n,u,t⟩=8 from if_neg fun q=>by obtain ⟨q0,q1,q2,q3,q4,q5,q6,q7⟩:=may12_iff.1 q;exact absurd q4 (by omega)]
    clear h0
    go_enter Tryz.func17,Tryz.ntmps17
    go_wp2_with fail
    rw [← hw0]
    clear hw0
    refine (AR.out _).mono ?_
    rintro e w1 ⟨rfl,hb⟩
    have BB:=Lh (BB.out.trans (hb.mono BB.out.size))
    have X:=Lh (X.out.below hb)
    clear hb AR c0 c1 c2 c3 c4 c5 d0 d1 d2 d3 d4 d5
    obtain ⟨⟨c0,c1,c2,c3,c4,c5⟩,d0,d1,d2,d3,d4,d5⟩:=X.out.cells
    go_wp2
    go_ret
    exact ⟨rfl,BB.out⟩
   ·skip
    by_cases h5:u < 0
    ·rw [show kmE P T A M W Q ⟨(v,a,g),n,u,t⟩=8 from if_neg fun q=>by obtain ⟨q0,q1,q2,q3,q4,q5,q6,q7⟩:=may12_iff.1 q;exact absurd q5 (by omega)]
     clear h0
     go_enter Tryz.func17,Tryz.ntmps17
     go_wp2_with fail
     rw [← hw0]
     clear hw0
     refine (AR.out _).mono ?_
     rintro e w1 ⟨rfl,hb⟩
     have BB:=Lh (BB.out.trans (hb.mono BB.out.size))
     have X:=Lh (X.out.below hb)
     clear hb AR c0 c1 c2 c3 c4 c5 d0 d1 d2 d3 d4 d5
     obtain ⟨⟨c0,c1,c2,c3,c4,c5⟩,d0,d1,d2,d3,d4,d5⟩:=X.out.cells
     go_wp2
     go_ret
     exact ⟨rfl,BB.out⟩
    ·skip
     by_cases h6:65535 < u
     ·rw [show kmE P T A M W Q ⟨(v,a,g),n,u,t⟩=8 from if_neg fun q=>by obtain ⟨q0,q1,q2,q3,q4,q5,q6,q7⟩:=may12_iff.1 q;exact absurd q6 (by omega)]
      clear h0
      go_enter Tryz.func17,Tryz.ntmps17
      go_wp2_with fail
      rw [← hw0]
      clear hw0
      refine (AR.out _).mono ?_
      rintro e w1 ⟨rfl,hb⟩
      have BB:=Lh (BB.out.trans (hb.mono BB.out.size))
      have X:=Lh (X.out.below hb)
      clear hb AR c0 c1 c2 c3 c4 c5 d0 d1 d2 d3 d4 d5
      obtain ⟨⟨c0,c1,c2,c3,c4,c5⟩,d0,d1,d2,d3,d4,d5⟩:=X.out.cells
      go_wp2
      go_ret
      exact ⟨rfl,BB.out⟩
     ·skip
      by_cases h7:mayTab t
      ·rw [show kmE P T A M W Q ⟨(v,a,g),n,u,t⟩=0 from if_pos (may12_iff.2 ⟨h0.1,h0.2.1,h0.2.2,by omega,by omega,by omega,by omega,h7⟩)]
       rw [show rnE t=0 from if_pos h7] at NT
       clear h0 h7
       go_enter Tryz.func17,Tryz.ntmps17
       go_wp2_with fail
       rw [← hw0]
       clear hw0
       refine (AR.out _).mono ?_
       rintro e w1 ⟨rfl,hb⟩
       have BB:=Lh (BB.out.trans (hb.mono BB.out.size))
       have X:=Lh (X.out.below hb)
       clear hb AR c0 c1 c2 c3 c4 c5 d0 d1 d2 d3 d4 d5
       obtain ⟨⟨c0,c1,c2,c3,c4,c5⟩,d0,d1,d2,d3,d4,d5⟩:=X.out.cells
       go_wp2_with fail
       refine (NT.out _ X.out.tab).mono ?_
       rintro e w2 ⟨A2,c2',rfl,hown,hb⟩
       have BB:=Lh (BB.out.trans (hb.mono BB.out.size))
       clear hown hb NT
       go_wp2
       go_ret
       exact ⟨rfl,BB.out⟩
      ·rw [show kmE P T A M W Q ⟨(v,a,g),n,u,t⟩=8 from if_neg fun q=>by obtain ⟨q0,q1,q2,q3,q4,q5,q6,q7⟩:=may12_iff.1 q;exact h7 q7]
       rw [show rnE t=110 from if_neg h7] at NT
       clear h0 h7
       go_enter Tryz.func17,Tryz.ntmps17
       go_wp2_with fail
       rw [← hw0]
       clear hw0
       refine (AR.out _).mono ?_
       rintro e w1 ⟨rfl,hb⟩
       have BB:=Lh (BB.out.trans (hb.mono BB.out.size))
       have X:=Lh (X.out.below hb)
       clear hb AR c0 c1 c2 c3 c4 c5 d0 d1 d2 d3 d4 d5
       obtain ⟨⟨c0,c1,c2,c3,c4,c5⟩,d0,d1,d2,d3,d4,d5⟩:=X.out.cells
       go_wp2_with fail
       refine (NT.out _ X.out.tab).mono ?_
       rintro e w2 ⟨A2,c2',rfl,hown,hb⟩
       have BB:=Lh (BB.out.trans (hb.mono BB.out.size))
       clear hown hb NT
       go_wp2
       go_ret
       exact ⟨rfl,BB.out⟩
 ·rw [show kmE P T A M W Q ⟨(v,a,g),n,u,t⟩=8 from if_neg fun q=>by obtain ⟨q0,q1,q2,q3,q4,q5,q6,q7⟩:=may12_iff.1 q;exact h0 ⟨q0,q1,q2⟩]
  have hne:areE P T A M W Q a 0≠0:=fun q=>by
   unfold areE at q
   split at q
   ·rename_i hc
    split at q
    ·rename_i hd
     exact h0 ⟨hc,hd.1,hd.2.1⟩
    ·cases q
   ·cases q
  obtain ⟨E,hE⟩:∃ y,y=areE P T A M W Q a 0:=⟨_,rfl⟩
  rw [← hE] at AR hne
  have hz:(E != 0)=true:=by simpa using hne
  clear h0 hE hne
  go_enter Tryz.func17,Tryz.ntmps17
  go_wp2_with fail
  rw [← hw0]
  clear hw0
  refine (AR.out _).mono ?_
  rintro e w1 ⟨rfl,hb⟩
  have BB:=Lh (BB.out.trans (hb.mono BB.out.size))
  have X:=Lh (X.out.below hb)
  clear hb AR c0 c1 c2 c3 c4 c5 d0 d1 d2 d3 d4 d5
  obtain ⟨⟨c0,c1,c2,c3,c4,c5⟩,d0,d1,d2,d3,d4,d5⟩:=X.out.cells
  go_wp2
  go_ret
  exact ⟨rfl,BB.out⟩
def LedOut (w:World) (P T A M W Q:Int) (D:Option Addr) (nd d:Nat) (D':Option Addr) (nd' d':Nat) (v a g n u:Int) (B:Option Addr) (k c:Nat) (E:Int) (e:Ending) (w':World):Prop:=Below w.heap.size w w'∧((E=0∧e=.returned (.tuple #[ldV P T A M W Q D nd d D' nd' d' v a g n u B k c,.int .i64 0]))∨(E=8∧e=.returned (.tuple #[ldV 0 0 0 0 0 0 none 0 0 none 0 0 0 0 0 0 0 none 0 0,.int .i64 8])))
theorem Blk.ledM {w:World} {G:Nat} {ty:TypeId} {x0 x1 x2 x3 x4 x5 x6 x7 x8 x9 x10 x11 x12 x13:Value} (h:Blk w G ty [x0,x1,x2,x3,x4,x5,x6,x7,x8,x9,x10,x11,x12,x13]) (y0 y1 y2 y3 y4 y5 y6 y7 y8 y9 y10 y11 y12 y13:Value):Blk ((((((((((((((w.setCell ⟨G,0,none⟩ (y0)).setCell ⟨G,1,none⟩ (y1)).setCell ⟨G,2,none⟩ (y2)).setCell ⟨G,3,none⟩ (y3)).setCell ⟨G,4,none⟩ (y4)).setCell ⟨G,5,none⟩ (y5)).setCell ⟨G,6,none⟩ (y6)).setCell ⟨G,7,none⟩ (y7)).setCell ⟨G,8,none⟩ (y8)).setCell ⟨G,9,none⟩ (y9)).setCell ⟨G,10,none⟩ (y10)).setCell ⟨G,11,none⟩ (y11)).setCell ⟨G,12,none⟩ (y12)).setCell ⟨G,13,none⟩ (y13)) G ty [y0,y1,y2,y3,y4,y5,y6,y7,y8,y9,y10,y11,y12,y13] :=
 (((((((((((((h.set 0 _).set 1 _).set 2 _).set 3 _).set 4 _).set 5 _).set 6 _).set 7 _).set 8 _).set 9 _).set 10 _).set 11 _).set 12 _).set 13 _
theorem below_ledM {B0:Nat} {w0 w:World} (h:Below B0 w0 w) {G:Nat} (hg:B0≤G) (y0 y1 y2 y3 y4 y5 y6 y7 y8 y9 y10 y11 y12 y13:Value):Below B0 w0 ((((((((((((((w.setCell ⟨G,0,none⟩ (y0)).setCell ⟨G,1,none⟩ (y1)).setCell ⟨G,2,none⟩ (y2)).setCell ⟨G,3,none⟩ (y3)).setCell ⟨G,4,none⟩ (y4)).setCell ⟨G,5,none⟩ (y5)).setCell ⟨G,6,none⟩ (y6)).setCell ⟨G,7,none⟩ (y7)).setCell ⟨G,8,none⟩ (y8)).setCell ⟨G,9,none⟩ (y9)).setCell ⟨G,10,none⟩ (y10)).setCell ⟨G,11,none⟩ (y11)).setCell ⟨G,12,none⟩ (y12)).setCell ⟨G,13,none⟩ (y13)) :=
 (((((((((((((h.setCell (p:=⟨G,0,none⟩) hg _).setCell (p:=⟨G,1,none⟩) hg _).setCell (p:=⟨G,2,none⟩) hg _).setCell (p:=⟨G,3,none⟩) hg _).setCell (p:=⟨G,4,none⟩) hg _).setCell (p:=⟨G,5,none⟩) hg _).setCell (p:=⟨G,6,none⟩) hg _).setCell (p:=⟨G,7,none⟩) hg _).setCell (p:=⟨G,8,none⟩) hg _).setCell (p:=⟨G,9,none⟩) hg _).setCell (p:=⟨G,10,none⟩) hg _).setCell (p:=⟨G,11,none⟩) hg _).setCell (p:=⟨G,12,none⟩) hg _).setCell (p:=⟨G,13,none⟩) hg _
theorem pledger_any (P T A M W Q:Int) (D:Option Addr) (nd d:Nat) (D':Option Addr) (nd' d':Nat) (S:List Sec) (C:List Pnd) (v a g n u:Int) (B:Option Addr) (k c:Nat) (t:List Rc) (w:World) (hq:Dsk w D nd d D' nd' d' S C) (hs:SmallD S C) (ht:Recs w B k c t) (hk:k≤1000) :
  Calls Tryz.prog 34 #[cfgV P T A M W Q,diskV D nd d D' nd' d',metV v a g n u B k c] w (LedOut w P T A M W Q D nd d D' nd' d' v a g n u B k c (boE P T A M W Q S C ⟨(v,a,g),n,u,t⟩)):=by
 obtain ⟨x,hbel⟩:=MBox.new P T A M W Q v a g n u hq ht
 obtain ⟨z,h2⟩:=led_box (((w.alloc (.cells #[.int .i64 P,.int .i64 T,.int .i64 A,.int .i64 M,.int .i64 W,.int .i64 Q] 36)).alloc (.cells #[.slice D nd d,.slice D' nd' d'] 25)).alloc (.cells #[.int .u32 v,.int .i64 a,.int .u64 g,.int .i64 n,.int .i64 u,.slice B k c] 32)) 0 0 0 0 0 0 none 0 0 none 0 0 0 0 0 0 0 none 0 0
 rw [World.size_alloc,World.size_alloc,World.size_alloc] at z
 have x:=x.below h2
 obtain ⟨w0,hw0⟩:∃ x:World,x=((((w.alloc (.cells #[.int .i64 P,.int .i64 T,.int .i64 A,.int .i64 M,.int .i64 W,.int .i64 Q] 36)).alloc (.cells #[.slice D nd d,.slice D' nd' d'] 25)).alloc (.cells #[.int .u32 v,.int .i64 a,.int .u64 g,.int .i64 n,.int .i64 u,.slice B k c] 32)).alloc (.cells #[.int .i64 0,.int .i64 0,.int .i64 0,.int .i64 0,.int .i64 0,.int .i64 0,.slice none 0 0,.slice none 0 0,.int .u32 0,.int .i64 0,.int .u64 0,.int .i64 0,.int .i64 0,.slice none 0 0] 90)):=⟨_,rfl⟩
 rw [← hw0] at x z h2
 have X:=Lh x
 have Z:=Lh z
 have BB:=Lh (hbel.trans (h2.mono hbel.size))
 have TC:=Lh (fun wx hx=>tcheck_any P T A M W Q D nd d D' nd' d' S C wx hx hs)
 have CK:=Lh (fun wx hx=>pcheck12_any P T A M W Q v a g n u B k c t wx hx hk)
 obtain ⟨⟨c0,c1,c2,c3,c4,c5,c6,c7⟩,d0,d1,d2,d3,d4,d5⟩:=x.cells
 clear x z h2 hbel hq hs ht hk
 unfold LedOut
 by_cases h0:mayT P T A M W Q S C
 ·rw [show tcE P T A M W Q S C=0 from if_pos h0] at TC
  by_cases h1:mayM P T A M W Q ⟨(v,a,g),n,u,t⟩
  ·rw [show kmE P T A M W Q ⟨(v,a,g),n,u,t⟩=0 from if_pos h1] at CK
   rw [show boE P T A M W Q S C ⟨(v,a,g),n,u,t⟩=0 from if_pos ⟨h0,h1⟩]
   clear h0 h1
   go_enter Tryz.func34,Tryz.ntmps34
   go_wp2_with fail
   rw [← hw0]
   clear hw0
   refine (TC.out _ X.out.two.dsk.dsk).mono ?_
   rintro e w1 ⟨rfl,hb⟩
   have BB:=Lh (BB.out.trans (hb.mono BB.out.size))
   have X:=Lh (X.out.below hb)
   have Z:=Lh (Z.out.below hb Z.out.lt)
   clear hb TC c0 c1 c2 c3 c4 c5 c6 c7 d0 d1 d2 d3 d4 d5
   obtain ⟨⟨c0,c1,c2,c3,c4,c5,c6,c7⟩,d0,d1,d2,d3,d4,d5⟩:=X.out.cells
   go_wp2_with fail
   refine (CK.out _ X.out.tab).mono ?_
   rintro e w2 ⟨rfl,hb⟩
   have BB:=Lh (BB.out.trans (hb.mono BB.out.size))
   have X:=Lh (X.out.below hb)
   have Z:=Lh (Z.out.below hb Z.out.lt)
   clear hb CK c0 c1 c2 c3 c4 c5 c6 c7 d0 d1 d2 d3 d4 d5
   obtain ⟨⟨c0,c1,c2,c3,c4,c5,c6,c7⟩,d0,d1,d2,d3,d4,d5⟩:=X.out.cells
   have fz:=Z.out.free
   obtain ⟨e0,e1,e2,e3,e4,e5,e6,e7,e8,e9,e10,e11,e12,e13⟩:=Z.out.led
   go_wp2
   have z:=Z.out.ledM (.int .i64 P) (.int .i64 T) (.int .i64 A) (.int .i64 M) (.int .i64 W) (.int .i64 Q) (.slice D nd d) (.slice D' nd' d') (.int .u32 v) (.int .i64 a) (.int .u64 g) (.int .i64 n) (.int .i64 u) (.slice B k c)
   obtain ⟨z0,z1,z2,z3,z4,z5,z6,z7,z8,z9,z10,z11,z12,z13⟩:=z.led
   refine bodyPost_ret (v:=.tuple #[ldV P T A M W Q D nd d D' nd' d' v a g n u B k c,.int .i64 0]) ?_ rfl ⟨below_ledM BB.out (by omega) (.int .i64 P) (.int .i64 T) (.int .i64 A) (.int .i64 M) (.int .i64 W) (.int .i64 Q) (.slice D nd d) (.slice D' nd' d') (.int .u32 v) (.int .i64 a) (.int .u64 g) (.int .i64 n) (.int .i64 u) (.slice B k c),.inl ⟨by trivial,rfl⟩⟩
   clear c0 c1 c2 c3 c4 c5 c6 c7 d0 d1 d2 d3 d4 d5 fz e0 e1 e2 e3 e4 e5 e6 e7 e8 e9 e10 e11 e12 e13
   simp [results,Tryz.f34,go_sem,z0,z1,z2,z3,z4,z5,z6,z7,z8,z9,z10,z11,z12,z13]
  ·rw [show kmE P T A M W Q ⟨(v,a,g),n,u,t⟩=8 from if_neg h1] at CK
   rw [show boE P T A M W Q S C ⟨(v,a,g),n,u,t⟩=8 from if_neg fun q=>h1 q.2]
   clear h0 h1
   go_enter Tryz.func34,Tryz.ntmps34
   go_wp2_with fail
   rw [← hw0]
   clear hw0
   refine (TC.out _ X.out.two.dsk.dsk).mono ?_
   rintro e w1 ⟨rfl,hb⟩
   have BB:=Lh (BB.out.trans (hb.mono BB.out.size))
   have X:=Lh (X.out.below hb)
   have Z:=Lh (Z.out.below hb Z.out.lt)
   clear hb TC c0 c1 c2 c3 c4 c5 c6 c7 d0 d1 d2 d3 d4 d5
   obtain ⟨⟨c0,c1,c2,c3,c4,c5,c6,c7⟩,d0,d1,d2,d3,d4,d5⟩:=X.out.cells
   go_wp2_with fail
   refine (CK.out _ X.out.tab).mono ?_
   rintro e w2 ⟨rfl,hb⟩
   have BB:=Lh (BB.out.trans (hb.mono BB.out.size))
   have X:=Lh (X.out.below hb)
   have Z:=Lh (Z.out.below hb Z.out.lt)
   clear hb CK c0 c1 c2 c3 c4 c5 c6 c7 d0 d1 d2 d3 d4 d5
   obtain ⟨⟨c0,c1,c2,c3,c4,c5,c6,c7⟩,d0,d1,d2,d3,d4,d5⟩:=X.out.cells
   have fz:=Z.out.free
   obtain ⟨e0,e1,e2,e3,e4,e5,e6,e7,e8,e9,e10,e11,e12,e13⟩:=Z.out.led
   go_wp2
   have z:=Z.out.ledM (.int .i64 0) (.int .i64 0) (.int .i64 0) (.int .i64 0) (.int .i64 0) (.int .i64 0) (.slice none 0 0) (.slice none 0 0) (.int .u32 0) (.int .i64 0) (.int .u64 0) (.int .i64 0) (.int .i64 0) (.slice none 0 0)
   obtain ⟨z0,z1,z2,z3,z4,z5,z6,z7,z8,z9,z10,z11,z12,z13⟩:=z.led
   refine bodyPost_ret (v:=.tuple #[ldV 0 0 0 0 0 0 none 0 0 none 0 0 0 0 0 0 0 none 0 0,.int .i64 8]) ?_ rfl ⟨below_ledM BB.out (by omega) (.int .i64 0) (.int .i64 0) (.int .i64 0) (.int .i64 0) (.int .i64 0) (.int .i64 0) (.slice none 0 0) (.slice none 0 0) (.int .u32 0) (.int .i64 0) (.int .u64 0) (.int .i64 0) (.int .i64 0) (.slice none 0 0),.inr ⟨by trivial,rfl⟩⟩
   clear c0 c1 c2 c3 c4 c5 c6 c7 d0 d1 d2 d3 d4 d5 fz e0 e1 e2 e3 e4 e5 e6 e7 e8 e9 e10 e11 e12 e13
   simp [results,Tryz.f34,go_sem,z0,z1,z2,z3,z4,z5,z6,z7,z8,z9,z10,z11,z12,z13]
 ·rw [show tcE P T A M W Q S C=8 from if_neg h0] at TC
  rw [show boE P T A M W Q S C ⟨(v,a,g),n,u,t⟩=8 from if_neg fun q=>h0 q.1]
  clear h0
  go_enter Tryz.func34,Tryz.ntmps34
  go_wp2_with fail
  rw [← hw0]
  clear hw0
  refine (TC.out _ X.out.two.dsk.dsk).mono ?_
  rintro e w1 ⟨rfl,hb⟩
  have BB:=Lh (BB.out.trans (hb.mono BB.out.size))
  have X:=Lh (X.out.below hb)
  have Z:=Lh (Z.out.below hb Z.out.lt)
  clear hb TC c0 c1 c2 c3 c4 c5 c6 c7 d0 d1 d2 d3 d4 d5
  obtain ⟨⟨c0,c1,c2,c3,c4,c5,c6,c7⟩,d0,d1,d2,d3,d4,d5⟩:=X.out.cells
  have fz:=Z.out.free
  obtain ⟨e0,e1,e2,e3,e4,e5,e6,e7,e8,e9,e10,e11,e12,e13⟩:=Z.out.led
  go_wp2
  have z:=Z.out.ledM (.int .i64 0) (.int .i64 0) (.int .i64 0) (.int .i64 0) (.int .i64 0) (.int .i64 0) (.slice none 0 0) (.slice none 0 0) (.int .u32 0) (.int .i64 0) (.int .u64 0) (.int .i64 0) (.int .i64 0) (.slice none 0 0)
  obtain ⟨z0,z1,z2,z3,z4,z5,z6,z7,z8,z9,z10,z11,z12,z13⟩:=z.led
  refine bodyPost_ret (v:=.tuple #[ldV 0 0 0 0 0 0 none 0 0 none 0 0 0 0 0 0 0 none 0 0,.int .i64 8]) ?_ rfl ⟨below_ledM BB.out (by omega) (.int .i64 0) (.int .i64 0) (.int .i64 0) (.int .i64 0) (.int .i64 0) (.int .i64 0) (.slice none 0 0) (.slice none 0 0) (.int .u32 0) (.int .i64 0) (.int .u64 0) (.int .i64 0) (.int .i64 0) (.slice none 0 0),.inr ⟨by trivial,rfl⟩⟩
  clear c0 c1 c2 c3 c4 c5 c6 c7 d0 d1 d2 d3 d4 d5 fz e0 e1 e2 e3 e4 e5 e6 e7 e8 e9 e10 e11 e12 e13
  simp [results,Tryz.f34,go_sem,z0,z1,z2,z3,z4,z5,z6,z7,z8,z9,z10,z11,z12,z13]
end Go.Proofs.YtifgcfepbenpjaaGreat
