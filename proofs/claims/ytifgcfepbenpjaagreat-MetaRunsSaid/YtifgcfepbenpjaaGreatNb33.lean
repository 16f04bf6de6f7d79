/- Texts of layers 1 to 12, joined. -/
import Derived.Test.YtifgcfepbenpjaaGreatNb31
set_option maxRecDepth 100000
set_option maxHeartbeats 12800000
set_option linter.unusedVariables false
namespace Go.Proofs.YtifgcfepbenpjaaGreat
open Go.RowKit
def soE (t:Txt):Int:=if suOk t then 0 else 90
def soV (t:Txt):Sup:=if suOk t then suV t else (0,0,0)
def SupOut (w:World) (s:Sup) (E:Int) (e:Ending) (w':World):Prop:=e=.returned (.tuple #[supV s.1 s.2.1 s.2.2,.int .i64 E])∧Below w.heap.size w w'
theorem three_at {w:World} {B:Nat} {A:Option Addr} {c:Nat} {x y z:Int} (h:w.ownsRow B 27 1 (.slice A 3 c) 3 (ints .u64 [x,y,z])) :
  ∃ b,A=some ⟨b,0,none⟩∧w.cell? ⟨b,0,none⟩=some (.int .u64 x)∧w.cell? ⟨b,1,none⟩=some (.int .u64 y)∧w.cell? ⟨b,2,none⟩=some (.int .u64 z):=by
 obtain ⟨b,rfl,_,q0,_,_⟩:=owns_int_at (j:=0) h (by decide)
 obtain ⟨_,eg,_,q1,_,_⟩:=owns_int_at (j:=1) h (by decide)
 injection eg with eg;injection eg with eg;subst eg
 obtain ⟨_,eg,_,q2,_,_⟩:=owns_int_at (j:=2) h (by decide)
 injection eg with eg;injection eg with eg;subst eg
 exact ⟨_,rfl,q0,q1,q2⟩
theorem superof_any (Ab:Option Addr) (nb cb:Nat) (t:Txt) (w:World) (hb:Arg w .u8 Ab nb cb t) (hby:∀ z ∈ t,isByte z) (hn:nb≤1000) :
  Calls Tryz.prog 80 #[.slice Ab nb cb] w (SupOut w (soV t) (soE t)):=by
 have x:=Blk.new w 29 [.int .u32 0,.int .i64 0,.int .u64 0]
 have hbel:Below w.heap.size w (w.alloc (.cells #[.int .u32 0,.int .i64 0,.int .u64 0] 29)):=(Below.refl _ _).alloc (Nat.le_refl _) _
 obtain ⟨w0,hw0⟩:∃ x:World,x=w.alloc (.cells #[.int .u32 0,.int .i64 0,.int .u64 0] 29):=⟨_,rfl⟩
 rw [← hw0] at x hbel
 have hlen:t.length=nb:=hb.len
 have RB:=Lh (hb.below hbel)
 have X:=Lh x
 have B:=Lh hbel
 have hno:¬ suOk t→soE t=90∧soV t=(0,0,0):=fun h=>⟨if_neg h,if_neg h⟩
 have hyes:suOk t→soE t=0∧soV t=suV t:=fun h=>⟨if_pos h,if_pos h⟩
 unfold SupOut
 by_cases h13:nb=13
 ·have h13':t.length=13:=hlen.trans h13
  have hnm:=nums3_eq t h13'
  obtain ⟨⟨⟨hv0,hv1⟩,hg0,hg1⟩,ha0,ha1⟩:=suV_is h13' hby
  have harea:(suV t).2.1=t.getD 4 0:=rfl
  have hok:suOk t↔arS (suV t).2.1:=by
   unfold suOk arS
   rw [harea] at ha0 ⊢
   omega
  subst h13
  have RBY:=Lh hby
  have HL:=Lh h13'
  obtain ⟨v,hv⟩:∃ v,v=(suV t).1:=⟨_,rfl⟩
  obtain ⟨a,ha⟩:∃ v,v=(suV t).2.1:=⟨_,rfl⟩
  obtain ⟨g,hg⟩:∃ v,v=(suV t).2.2:=⟨_,rfl⟩
  rw [← hv,← ha,← hg] at hnm
  rw [← hv] at hv0 hv1
  rw [← hg] at hg0 hg1
  rw [← ha] at ha0 ha1 hok
  have hsv:suV t=(v,a,g):=by rw [hv,ha,hg]
  have HNM:=Lh (show numsTo t sz3 3=[v,a,g] from hnm)
  have e1:IntKind.u32.wrap v=v:=wraps_u32 v hv0 (by omega)
  have e2:IntKind.i64.wrap a=a:=wrap_i64_byte ⟨ha0,ha1⟩
  have MB:=Lh (fun wx:World=>maybe_any v a g wx)
  by_cases har:arS a
  ·obtain ⟨k1,k2⟩:=hyes (hok.2 har)
   rw [k1,k2,hsv]
   rw [decide_eq_true har] at MB
   clear hno hyes h13' hnm harea hok hv ha hg hsv k1 k2 har hb hby x hbel hlen hv0 hv1 hg0 hg1 ha0 ha1 hn
   go_enter Tryz.func80,Tryz.ntmps80
   go_wp2_with fail
   rw [← hw0]
   clear hw0
   refine (ssizes_any _).mono ?_
   rintro e w1 ⟨gS,rfl,hAS,hb⟩
   have B:=Lh (B.out.trans (hb.mono B.out.size))
   have X:=Lh (X.out.below hb X.out.lt)
   have RB:=Lh (RB.out.below hb)
   have HAS:=Lh hAS
   clear hb hAS
   go_wp2_with fail
   refine (read_ok Ab (some ⟨gS,0,none⟩) 13 cb 3 3 t sz3 _ HAS.out.seq rfl okB_sz3 RB.out.seq HL.out at_sz3.symm RB.out.cap RB.out.max RBY.out).mono ?_
   intro e w2 hout
   obtain ⟨A2,c2,rfl,hown,hb⟩:=hout.len (zs':=[v,a,g]) (n:=3) HNM.out rfl
   have B:=Lh (B.out.trans (hb.mono B.out.size))
   have X:=Lh (X.out.below hb X.out.lt)
   obtain ⟨b2,rfl,_⟩:=three_at hown
   have keepX:∀ wx,Below w2.heap.size w2 wx→wx.cell? ⟨b2,0,none⟩=some (.int .u64 v)∧wx.cell? ⟨b2,1,none⟩=some (.int .u64 a)∧wx.cell? ⟨b2,2,none⟩=some (.int .u64 g):=fun wx hx=>by
    obtain ⟨b,e,h⟩:=three_at (owns_below hown hx)
    injection e with e;injection e with e;subst e
    exact h
   clear hown hb hout RB RBY HL HNM HAS
   go_upto_region 4 with fail
   have hcur:Below w2.heap.size w2 w2.drew:=below_drewN (Below.refl _ _) 1
   have hkX:=keepX _ hcur
   go_region_held3 (fun w'=>w'.cell? ⟨b2,0,none⟩=some (.int .u64 v)∧w'.cell? ⟨b2,1,none⟩=some (.int .u64 a)∧w'.cell? ⟨b2,2,none⟩=some (.int .u64 g))
    (first | exact hkX | exact keepX _ (hcur.alloc hcur.size _) | exact keepX _ (below_drewN ((Below.refl _ _).alloc (Nat.le_refl _) _) 1) | go_keep)
    (fail)
   have hbk:Below w2.heap.size w2 (w2.alloc (.cells #[.int .u32 v,.int .i64 a,.int .u64 g] 29)).drew:=below_drewN ((Below.refl _ _).alloc (Nat.le_refl _) _) 1
   have hY:=Blk.new w2 29 [.int .u32 v,.int .i64 a,.int .u64 g]
   have hY:=hY.below (below_drewN (Below.refl _ _) 1) hY.lt
   obtain ⟨w3,hw3⟩:∃ x:World,x=(w2.alloc (.cells #[.int .u32 v,.int .i64 a,.int .u64 g] 29)).drew:=⟨_,rfl⟩
   obtain ⟨G3,hG3⟩:∃ x,x=w2.heap.size:=⟨_,rfl⟩
   rw [← hG3] at hY ⊢
   change Blk ((w2.alloc (.cells #[.int .u32 v,.int .i64 a,.int .u64 g] 29)).drew) _ _ _ at hY
   rw [← hw3] at hbk hY ⊢
   have B:=Lh (B.out.trans (hbk.mono B.out.size))
   have X:=Lh (X.out.below hbk X.out.lt)
   have Y:=Lh hY
   obtain ⟨y0,y1,y2⟩:=hY.tri
   clear hw3 hG3 hbk hY hcur hkX keepX
   go_wp2_with fail
   refine (MB.out _).mono ?_
   rintro e w4 ⟨rfl,hb⟩
   have B:=Lh (B.out.trans (hb.mono B.out.size))
   have X:=Lh (X.out.below hb X.out.lt)
   have Y:=Lh (Y.out.below hb Y.out.lt)
   clear hb y0 y1 y2
   obtain ⟨y0,y1,y2⟩:=Y.out.tri
   obtain ⟨x0,x1,x2⟩:=X.out.tri
   have f0:=X.out.free 0
   have f1:=X.out.free 1
   have f2:=X.out.free 2
   go_wp2
   have z:=X.out.three (.int .u32 v) (.int .i64 a) (.int .u64 g)
   obtain ⟨z0,z1,z2⟩:=z.tri
   refine bodyPost_ret (v:=.tuple #[supV v a g,.int .i64 0]) ?_ rfl ⟨rfl,(((B.out.setCell (p:=⟨w.heap.size,0,none⟩) (Nat.le_refl _) _).setCell (p:=⟨w.heap.size,1,none⟩) (Nat.le_refl _) _).setCell (p:=⟨w.heap.size,2,none⟩) (Nat.le_refl _) _)⟩
   clear x0 x1 x2 f0 f1 f2 y0 y1 y2
   simp [results,Tryz.f80,go_sem,z0,z1,z2]
  ·obtain ⟨k1,k2⟩:=hno (fun h=>har (hok.1 h))
   rw [k1,k2]
   rw [decide_eq_false har] at MB
   clear hno hyes h13' hnm harea hok hv ha hg hsv k1 k2 har hb hby x hbel hlen hv0 hv1 hg0 hg1 ha0 ha1 hn
   go_enter Tryz.func80,Tryz.ntmps80
   go_wp2_with fail
   rw [← hw0]
   clear hw0
   refine (ssizes_any _).mono ?_
   rintro e w1 ⟨gS,rfl,hAS,hb⟩
   have B:=Lh (B.out.trans (hb.mono B.out.size))
   have X:=Lh (X.out.below hb X.out.lt)
   have RB:=Lh (RB.out.below hb)
   have HAS:=Lh hAS
   clear hb hAS
   go_wp2_with fail
   refine (read_ok Ab (some ⟨gS,0,none⟩) 13 cb 3 3 t sz3 _ HAS.out.seq rfl okB_sz3 RB.out.seq HL.out at_sz3.symm RB.out.cap RB.out.max RBY.out).mono ?_
   intro e w2 hout
   obtain ⟨A2,c2,rfl,hown,hb⟩:=hout.len (zs':=[v,a,g]) (n:=3) HNM.out rfl
   have B:=Lh (B.out.trans (hb.mono B.out.size))
   have X:=Lh (X.out.below hb X.out.lt)
   obtain ⟨b2,rfl,_⟩:=three_at hown
   have keepX:∀ wx,Below w2.heap.size w2 wx→wx.cell? ⟨b2,0,none⟩=some (.int .u64 v)∧wx.cell? ⟨b2,1,none⟩=some (.int .u64 a)∧wx.cell? ⟨b2,2,none⟩=some (.int .u64 g):=fun wx hx=>by
    obtain ⟨b,e,h⟩:=three_at (owns_below hown hx)
    injection e with e;injection e with e;subst e
    exact h
   clear hown hb hout RB RBY HL HNM HAS
   go_upto_region 4 with fail
   have hcur:Below w2.heap.size w2 w2.drew:=below_drewN (Below.refl _ _) 1
   have hkX:=keepX _ hcur
   go_region_held3 (fun w'=>w'.cell? ⟨b2,0,none⟩=some (.int .u64 v)∧w'.cell? ⟨b2,1,none⟩=some (.int .u64 a)∧w'.cell? ⟨b2,2,none⟩=some (.int .u64 g))
    (first | exact hkX | exact keepX _ (hcur.alloc hcur.size _) | exact keepX _ (below_drewN ((Below.refl _ _).alloc (Nat.le_refl _) _) 1) | go_keep)
    (fail)
   have hbk:Below w2.heap.size w2 (w2.alloc (.cells #[.int .u32 v,.int .i64 a,.int .u64 g] 29)).drew:=below_drewN ((Below.refl _ _).alloc (Nat.le_refl _) _) 1
   have hY:=Blk.new w2 29 [.int .u32 v,.int .i64 a,.int .u64 g]
   have hY:=hY.below (below_drewN (Below.refl _ _) 1) hY.lt
   obtain ⟨w3,hw3⟩:∃ x:World,x=(w2.alloc (.cells #[.int .u32 v,.int .i64 a,.int .u64 g] 29)).drew:=⟨_,rfl⟩
   obtain ⟨G3,hG3⟩:∃ x,x=w2.heap.size:=⟨_,rfl⟩
   rw [← hG3] at hY ⊢
   change Blk ((w2.alloc (.cells #[.int .u32 v,.int .i64 a,.int .u64 g] 29)).drew) _ _ _ at hY
   rw [← hw3] at hbk hY ⊢
   have B:=Lh (B.out.trans (hbk.mono B.out.size))
   have X:=Lh (X.out.below hbk X.out.lt)
   have Y:=Lh hY
   obtain ⟨y0,y1,y2⟩:=hY.tri
   clear hw3 hG3 hbk hY hcur hkX keepX
   go_wp2_with fail
   refine (MB.out _).mono ?_
   rintro e w4 ⟨rfl,hb⟩
   have B:=Lh (B.out.trans (hb.mono B.out.size))
   have X:=Lh (X.out.below hb X.out.lt)
   have Y:=Lh (Y.out.below hb Y.out.lt)
   clear hb y0 y1 y2
   obtain ⟨y0,y1,y2⟩:=Y.out.tri
   obtain ⟨x0,x1,x2⟩:=X.out.tri
   have f0:=X.out.free 0
   have f1:=X.out.free 1
   have f2:=X.out.free 2
   go_wp2
   have z:=X.out.three (.int .u32 0) (.int .i64 0) (.int .u64 0)
   obtain ⟨z0,z1,z2⟩:=z.tri
   refine bodyPost_ret (v:=.tuple #[supV 0 0 0,.int .i64 90]) ?_ rfl ⟨rfl,(((B.out.setCell (p:=⟨w.heap.size,0,none⟩) (Nat.le_refl _) _).setCell (p:=⟨w.heap.size,1,none⟩) (Nat.le_refl _) _).setCell (p:=⟨w.heap.size,2,none⟩) (Nat.le_refl _) _)⟩
   clear x0 x1 x2 f0 f1 f2 y0 y1 y2
   simp [results,Tryz.f80,go_sem,z0,z1,z2]
 ·obtain ⟨k1,k2⟩:=hno (fun h=>h13 (hlen.symm.trans h.1))
  rw [k1,k2]
  have h13':nb≠atTo sz3 3:=by rw [at_sz3];exact h13
  have HN:=Lh (⟨h13',hn⟩:nb≠atTo sz3 3∧nb≤1000)
  clear hno hyes h13 h13' hn k1 k2 hb hby x hbel hlen RB
  go_enter Tryz.func80,Tryz.ntmps80
  go_wp2_with fail
  rw [← hw0]
  clear hw0
  refine (ssizes_any _).mono ?_
  rintro e w1 ⟨gS,rfl,hAS,hb⟩
  have B:=Lh (B.out.trans (hb.mono B.out.size))
  have X:=Lh (X.out.below hb X.out.lt)
  have HAS:=Lh hAS
  clear hb hAS
  go_wp2_with fail
  refine (read_short Ab (some ⟨gS,0,none⟩) nb cb 3 3 sz3 _ _ HAS.out.seq rfl okB_sz3 HN.out.1 HN.out.2).mono ?_
  rintro e w2 ⟨rfl,rfl⟩
  obtain ⟨x0,x1,x2⟩:=X.out.tri
  have f0:=X.out.free 0
  have f1:=X.out.free 1
  have f2:=X.out.free 2
  go_wp2
  have z:=X.out.three (.int .u32 0) (.int .i64 0) (.int .u64 0)
  obtain ⟨z0,z1,z2⟩:=z.tri
  refine bodyPost_ret (v:=.tuple #[supV 0 0 0,.int .i64 90]) ?_ rfl ⟨rfl,(((B.out.setCell (p:=⟨w.heap.size,0,none⟩) (Nat.le_refl _) _).setCell (p:=⟨w.heap.size,1,none⟩) (Nat.le_refl _) _).setCell (p:=⟨w.heap.size,2,none⟩) (Nat.le_refl _) _)⟩
  clear x0 x1 x2 f0 f1 f2
  simp [results,Tryz.f80,go_sem,z0,z1,z2]
theorem sread_any (P T A M W Q:Int) (D:Option Addr) (n c:Nat) (D':Option Addr) (n' c':Nat) (S:List Sec) (C:List Pnd) (w:World) (hq:Dsk w D n c D' n' c' S C) (hs:SmallD S C) :
  Calls Tryz.prog 40 #[cfgV P T A M W Q,diskV D n c D' n' c'] w (SupOut w (srV P T A M W Q S C) (srE P T A M W Q S C)):=by
 obtain ⟨x,hbel⟩:=SBox.new P T A M W Q 0 0 0 hq
 obtain ⟨w0,hw0⟩:∃ x:World,x=((w.alloc (.cells #[.int .i64 P,.int .i64 T,.int .i64 A,.int .i64 M,.int .i64 W,.int .i64 Q] 36)).alloc (.cells #[.slice D n c,.slice D' n' c'] 25)).alloc (.cells #[.int .u32 0,.int .i64 0,.int .u64 0] 29):=⟨_,rfl⟩
 rw [← hw0] at x hbel
 have X:=Lh x
 have B:=Lh hbel
 have CK:=Lh (fun wx hx=>tcheck_any P T A M W Q D n c D' n' c' S C wx hx hs)
 obtain ⟨c0,c1,c2,c3,c4,c5,d0,d1,q0,q1,q2⟩:=x.cells
 unfold SupOut
 by_cases hm:mayT P T A M W Q S C
 ·rw [show tcE P T A M W Q S C=0 from if_pos hm] at CK
  rw [show srE P T A M W Q S C=smE S C from if_pos hm,show srV P T A M W Q S C=smV S C from if_pos hm]
  have RD:=Lh (fun wx hx=>cread_any D n c D' n' c' S C 0 1 wx hx hs)
  unfold CRead at RD
  have BY:=Lh (crB_byte hq.secs.byte hq.pnds.byte 0 1)
  have hfew:=crB_few S C
  obtain ⟨vv,hvv⟩:∃ v,v=crV S C 0 1:=⟨_,rfl⟩
  rw [← hvv] at RD
  clear hvv
  rcases crE_or hm with h0 | h6
  ·rw [h0] at RD
   rw [show smE S C=soE (crB S C 0 1) from if_pos h0,show smV S C=soV (crB S C 0 1) from if_pos h0]
   obtain ⟨b,hb0⟩:∃ b,b=crB S C 0 1:=⟨_,rfl⟩
   rw [← hb0] at RD BY hfew ⊢
   obtain ⟨m,hm0⟩:∃ m,m=b.length:=⟨_,rfl⟩
   rw [← hm0] at RD hfew
   have SO:=Lh (fun AB cB wx (hr:Arg wx .u8 AB m cB b)=>superof_any AB m cB b wx hr BY.out (by omega))
   unfold SupOut at SO
   obtain ⟨E,hE⟩:∃ E,E=soE b:=⟨_,rfl⟩
   obtain ⟨v,hv⟩:∃ v,v=(soV b).1:=⟨_,rfl⟩
   obtain ⟨a,ha⟩:∃ v,v=(soV b).2.1:=⟨_,rfl⟩
   obtain ⟨g,hg⟩:∃ v,v=(soV b).2.2:=⟨_,rfl⟩
   rw [← hE,← hv,← ha,← hg] at SO ⊢
   clear hm h0 hb0 hm0 hE hv ha hg hfew BY hq hs x hbel
   go_enter Tryz.func40,Tryz.ntmps40
   go_wp2_with fail
   rw [← hw0]
   clear hw0
   refine (CK.out _ X.out.two.dsk.dsk).mono ?_
   rintro e w1 ⟨rfl,hb⟩
   have B:=Lh (B.out.trans (hb.mono B.out.size))
   have X:=Lh (X.out.below hb)
   clear hb CK c0 c1 c2 c3 c4 c5 d0 d1 q0 q1 q2
   obtain ⟨c0,c1,c2,c3,c4,c5,d0,d1,q0,q1,q2⟩:=X.out.cells
   go_wp2_with fail
   refine (RD.out _ X.out.two.dsk.dsk).mono ?_
   rintro e w2 ⟨AB,cB,rfl,hown,hb⟩
   have RB:=Lh (Arg.own hown)
   have B:=Lh (B.out.trans (hb.mono B.out.size))
   have X:=Lh (X.out.below hb)
   clear hb hown RD c0 c1 c2 c3 c4 c5 d0 d1 q0 q1 q2
   obtain ⟨c0,c1,c2,c3,c4,c5,d0,d1,q0,q1,q2⟩:=X.out.cells
   go_wp2_with fail
   refine (SO.out AB cB _ RB.out).mono ?_
   rintro e w3 ⟨rfl,hb⟩
   have B:=Lh (B.out.trans (hb.mono B.out.size))
   have X:=Lh (X.out.below hb)
   clear hb SO RB c0 c1 c2 c3 c4 c5 d0 d1 q0 q1 q2
   obtain ⟨c0,c1,c2,c3,c4,c5,d0,d1,q0,q1,q2⟩:=X.out.cells
   have f0:=X.out.sup.free 0
   have f1:=X.out.sup.free 1
   have f2:=X.out.sup.free 2
   go_wp2
   have z:=X.out.sup.three (.int .u32 v) (.int .i64 a) (.int .u64 g)
   obtain ⟨z0,z1,z2⟩:=z.tri
   refine bodyPost_ret (v:=.tuple #[supV v a g,.int .i64 E]) ?_ rfl ⟨rfl,(((B.out.setCell (p:=⟨w.heap.size + 2,0,none⟩) (by simp) _).setCell (p:=⟨w.heap.size + 2,1,none⟩) (by simp) _).setCell (p:=⟨w.heap.size + 2,2,none⟩) (by simp) _)⟩
   clear c0 c1 c2 c3 c4 c5 d0 d1 q0 q1 q2 f0 f1 f2
   simp [results,Tryz.f40,go_sem,z0,z1,z2]
  ·rw [h6] at RD
   have h0:crE S C 0 1≠0:=by rw [h6];decide
   rw [show smE S C=0 from if_neg h0,show smV S C=(0,0,0) from if_neg h0]
   dsimp only
   obtain ⟨b,hb0⟩:∃ b,b=crB S C 0 1:=⟨_,rfl⟩
   rw [← hb0] at RD
   obtain ⟨m,hm0⟩:∃ m,m=b.length:=⟨_,rfl⟩
   rw [← hm0] at RD
   clear hm h6 h0 hb0 hm0 hfew BY hq hs x hbel
   go_enter Tryz.func40,Tryz.ntmps40
   go_wp2_with fail
   rw [← hw0]
   clear hw0
   refine (CK.out _ X.out.two.dsk.dsk).mono ?_
   rintro e w1 ⟨rfl,hb⟩
   have B:=Lh (B.out.trans (hb.mono B.out.size))
   have X:=Lh (X.out.below hb)
   clear hb CK c0 c1 c2 c3 c4 c5 d0 d1 q0 q1 q2
   obtain ⟨c0,c1,c2,c3,c4,c5,d0,d1,q0,q1,q2⟩:=X.out.cells
   go_wp2_with fail
   refine (RD.out _ X.out.two.dsk.dsk).mono ?_
   rintro e w2 ⟨AB,cB,rfl,hown,hb⟩
   have B:=Lh (B.out.trans (hb.mono B.out.size))
   have X:=Lh (X.out.below hb)
   clear hb hown RD c0 c1 c2 c3 c4 c5 d0 d1 q0 q1 q2
   obtain ⟨c0,c1,c2,c3,c4,c5,d0,d1,q0,q1,q2⟩:=X.out.cells
   have f0:=X.out.sup.free 0
   have f1:=X.out.sup.free 1
   have f2:=X.out.sup.free 2
   go_wp2
   have z:=X.out.sup.three (.int .u32 0) (.int .i64 0) (.int .u64 0)
   obtain ⟨z0,z1,z2⟩:=z.tri
   refine bodyPost_ret (v:=.tuple #[supV 0 0 0,.int .i64 0]) ?_ rfl ⟨rfl,(((B.out.setCell (p:=⟨w.heap.size + 2,0,none⟩) (by simp) _).setCell (p:=⟨w.heap.size + 2,1,none⟩) (by simp) _).setCell (p:=⟨w.heap.size + 2,2,none⟩) (by simp) _)⟩
   clear c0 c1 c2 c3 c4 c5 d0 d1 q0 q1 q2 f0 f1 f2
   simp [results,Tryz.f40,go_sem,z0,z1,z2]
 ·rw [show tcE P T A M W Q S C=8 from if_neg hm] at CK
  rw [show srE P T A M W Q S C=8 from if_neg hm,show srV P T A M W Q S C=(0,0,0) from if_neg hm]
  dsimp only
  clear hm hq hs x hbel
  go_enter Tryz.func40,Tryz.ntmps40
  go_wp2_with fail
  rw [← hw0]
  clear hw0
  refine (CK.out _ X.out.two.dsk.dsk).mono ?_
  rintro e w1 ⟨rfl,hb⟩
  have B:=Lh (B.out.trans (hb.mono B.out.size))
  have X:=Lh (X.out.below hb)
  clear hb CK c0 c1 c2 c3 c4 c5 d0 d1 q0 q1 q2
  obtain ⟨c0,c1,c2,c3,c4,c5,d0,d1,q0,q1,q2⟩:=X.out.cells
  have f0:=X.out.sup.free 0
  have f1:=X.out.sup.free 1
  have f2:=X.out.sup.free 2
  go_wp2
  have z:=X.out.sup.three (.int .u32 0) (.int .i64 0) (.int .u64 0)
  obtain ⟨z0,z1,z2⟩:=z.tri
  refine bodyPost_ret (v:=.tuple #[supV 0 0 0,.int .i64 8]) ?_ rfl ⟨rfl,(((B.out.setCell (p:=⟨w.heap.size + 2,0,none⟩) (by simp) _).setCell (p:=⟨w.heap.size + 2,1,none⟩) (by simp) _).setCell (p:=⟨w.heap.size + 2,2,none⟩) (by simp) _)⟩
  clear c0 c1 c2 c3 c4 c5 d0 d1 q0 q1 q2 f0 f1 f2
  simp [results,Tryz.f40,go_sem,z0,z1,z2]
theorem splan_any (P T A M W Q:Int) (D:Option Addr) (n c:Nat) (D':Option Addr) (n' c':Nat) (S:List Sec) (C:List Pnd) (v a g:Int) (w:World) (hq:Dsk w D n c D' n' c' S C) (hs:SmallD S C) (hi:isS (v,a,g)) :
  Calls Tryz.prog 120 #[cfgV P T A M W Q,diskV D n c D' n' c',supV v a g] w (PlanOut w (spL P T A M W Q S C (v,a,g)) (spE P T A M W Q S C (v,a,g))):=by
 obtain ⟨x,hbel⟩:=SBox.new P T A M W Q v a g hq
 obtain ⟨w0,hw0⟩:∃ x:World,x=((w.alloc (.cells #[.int .i64 P,.int .i64 T,.int .i64 A,.int .i64 M,.int .i64 W,.int .i64 Q] 36)).alloc (.cells #[.slice D n c,.slice D' n' c'] 25)).alloc (.cells #[.int .u32 v,.int .i64 a,.int .u64 g] 29):=⟨_,rfl⟩
 rw [← hw0] at x hbel
 have X:=Lh x
 have B:=Lh hbel
 have CK:=Lh (fun wx hx=>tcheck_any P T A M W Q D n c D' n' c' S C wx hx hs)
 obtain ⟨c0,c1,c2,c3,c4,c5,d0,d1,q0,q1,q2⟩:=x.cells
 by_cases hm:mayT P T A M W Q S C
 ·rw [show tcE P T A M W Q S C=0 from if_pos hm] at CK
  have MB:=Lh (fun wx:World=>maybe_any v a g wx)
  by_cases ha:arS a
  ·rw [decide_eq_true ha] at MB
   have hE:spE P T A M W Q S C (v,a,g)=cpE S C 0 1 (suT (v,a,g)):=(if_pos hm).trans (if_pos ha)
   have hL:spL P T A M W Q S C (v,a,g)=cpL S C 0 1 (suT (v,a,g)):=by
    unfold spL cpL
    rw [hE]
    split <;> rfl
   rw [hE,hL]
   have RW:=Lh (fun wx:World=>srow_any v a g hi ha wx)
   have PL:=Lh (fun A0 c0 wx hx hy=>plan_any D n c D' n' c' S C 0 1 A0 13 c0 (suT (v,a,g)) wx hx hs hy (suT_byte _) (by decide))
   unfold PlanOut at PL ⊢
   obtain ⟨t,ht⟩:∃ t,t=suT (v,a,g):=⟨_,rfl⟩
   rw [← ht] at PL RW ⊢
   obtain ⟨L,hL⟩:∃ L,L=cpL S C 0 1 t:=⟨_,rfl⟩
   obtain ⟨E,hE⟩:∃ L,L=cpE S C 0 1 t:=⟨_,rfl⟩
   rw [← hL,← hE] at PL ⊢
   obtain ⟨m,hmm⟩:∃ m,m=L.length:=⟨_,rfl⟩
   rw [← hmm] at PL ⊢
   clear hm ha hq hs hi x hbel ht hL hE hmm
   go_enter Tryz.func120,Tryz.ntmps120
   go_wp2_with fail
   rw [← hw0]
   clear hw0
   refine (CK.out _ X.out.two.dsk.dsk).mono ?_
   rintro e w1 ⟨rfl,hb⟩
   have B:=Lh (B.out.trans (hb.mono B.out.size))
   have X:=Lh (X.out.below hb)
   clear hb CK c0 c1 c2 c3 c4 c5 d0 d1 q0 q1 q2
   obtain ⟨c0,c1,c2,c3,c4,c5,d0,d1,q0,q1,q2⟩:=X.out.cells
   go_wp2_with fail
   refine (MB.out _).mono ?_
   rintro e w2 ⟨rfl,hb⟩
   have B:=Lh (B.out.trans (hb.mono B.out.size))
   have X:=Lh (X.out.below hb)
   clear hb MB c0 c1 c2 c3 c4 c5 d0 d1 q0 q1 q2
   go_upto_region 6 with fail
   have hcur:Below w2.heap.size w2 w2.drew:=below_drewN (Below.refl _ _) 1
   have keepX:∀ wx,Below w2.heap.size w2 wx→wx.cell? ⟨w.heap.size + 1,0,none⟩=some (.slice D n c)∧wx.cell? ⟨w.heap.size + 1,1,none⟩=some (.slice D' n' c')∧wx.cell? ⟨w.heap.size + 2,0,none⟩=some (.int .u32 v)∧wx.cell? ⟨w.heap.size + 2,1,none⟩=some (.int .i64 a)∧wx.cell? ⟨w.heap.size + 2,2,none⟩=some (.int .u64 g):=fun wx hx=>by
    obtain ⟨_,_,_,_,_,_,d0,d1,q0,q1,q2⟩:=(X.out.below hx).cells
    exact ⟨d0,d1,q0,q1,q2⟩
   have hkX:=keepX _ hcur
   go_region_held3 (fun w'=>w'.cell? ⟨w.heap.size + 1,0,none⟩=some (.slice D n c)∧w'.cell? ⟨w.heap.size + 1,1,none⟩=some (.slice D' n' c')∧w'.cell? ⟨w.heap.size + 2,0,none⟩=some (.int .u32 v)∧w'.cell? ⟨w.heap.size + 2,1,none⟩=some (.int .i64 a)∧w'.cell? ⟨w.heap.size + 2,2,none⟩=some (.int .u64 g))
    (first | exact hkX | go_keep)
    (first
     | (go_at_call 156;with_reducible refine (RW.out _).mono ?_;rintro e w3 ⟨AR,cR,rfl,hown,hb⟩;have hcur:=hcur.trans (hb.mono hcur.size);have hkX:=keepX _ hcur)
     | (go_at_call 155;have hM:=hcur.size;with_reducible refine (PL.out AR cR _ (X.out.below hcur).two.dsk.dsk (Arg.own hown)).mono ?_;rintro e w4 ⟨AL,cL,rfl,hownL,hb⟩;have hcur:=hcur.trans (hb.mono hcur.size);have hkX:=keepX _ hcur))
   have OL:=Lh (hownL.lower (Nat.le_trans B.out.size hM))
   have B:=Lh (B.out.trans (hcur.mono B.out.size))
   clear hcur hkX keepX hown hownL hb hM RW PL
   go_wp2
   go_ret2
   exact ⟨AL,cL,rfl,OL.out,B.out⟩
  ·rw [decide_eq_false ha] at MB
   have hE:spE P T A M W Q S C (v,a,g)=2:=(if_pos hm).trans (if_neg ha)
   have hL:spL P T A M W Q S C (v,a,g)=[]:=by
    unfold spL
    rw [hE]
    rfl
   rw [hE,hL]
   clear hm ha hq hs hi x hbel hE hL
   go_enter Tryz.func120,Tryz.ntmps120
   go_wp2_with fail
   rw [← hw0]
   clear hw0
   refine (CK.out _ X.out.two.dsk.dsk).mono ?_
   rintro e w1 ⟨rfl,hb⟩
   have B:=Lh (B.out.trans (hb.mono B.out.size))
   have X:=Lh (X.out.below hb)
   clear hb CK c0 c1 c2 c3 c4 c5 d0 d1 q0 q1 q2
   obtain ⟨c0,c1,c2,c3,c4,c5,d0,d1,q0,q1,q2⟩:=X.out.cells
   go_wp2_with fail
   refine (MB.out _).mono ?_
   rintro e w2 ⟨rfl,hb⟩
   have B:=Lh (B.out.trans (hb.mono B.out.size))
   have X:=Lh (X.out.below hb)
   clear hb MB c0 c1 c2 c3 c4 c5 d0 d1 q0 q1 q2
   obtain ⟨c0,c1,c2,c3,c4,c5,d0,d1,q0,q1,q2⟩:=X.out.cells
   go_wp2
   go_ret2
   exact PlanOut.none _ _ _ _ rfl B.out
 ·rw [show tcE P T A M W Q S C=8 from if_neg hm] at CK
  have hE:spE P T A M W Q S C (v,a,g)=8:=if_neg hm
  have hL:spL P T A M W Q S C (v,a,g)=[]:=by
   unfold spL
   rw [hE]
   rfl
  rw [hE,hL]
  clear hm hq hs hi x hbel hE hL
  go_enter Tryz.func120,Tryz.ntmps120
  go_wp2_with fail
  rw [← hw0]
  clear hw0
  refine (CK.out _ X.out.two.dsk.dsk).mono ?_
  rintro e w1 ⟨rfl,hb⟩
  have B:=Lh (B.out.trans (hb.mono B.out.size))
  have X:=Lh (X.out.below hb)
  clear hb CK c0 c1 c2 c3 c4 c5 d0 d1 q0 q1 q2
  obtain ⟨c0,c1,c2,c3,c4,c5,d0,d1,q0,q1,q2⟩:=X.out.cells
  go_wp2
  go_ret2
  exact PlanOut.none _ _ _ _ rfl B.out
end Go.Proofs.YtifgcfepbenpjaaGreat
