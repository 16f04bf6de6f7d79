/- Texts of layers 1 to 12, joined. -/
import Derived.Test.YtifgcfepbenpjaaGreatNb46
set_option maxRecDepth 100000
set_option maxHeartbeats 12800000
set_option linter.unusedVariables false
namespace Go.Proofs.YtifgcfepbenpjaaGreat
open Go.RowKit
theorem pisord_any (P T A M W Q:Int) (D:Option Addr) (nd d:Nat) (D':Option Addr) (nd' d':Nat) (S:List Sec) (C:List Pnd) (v a g n u:Int) (B:Option Addr) (k c:Nat) (t:List Rc) (w:World) (hq:Dsk w D nd d D' nd' d' S C) (hs:SmallD S C) (hm:mayC P T A M W Q) (hkm:mayM P T A M W Q ⟨(v,a,g),n,u,t⟩) (hi:isS (v,a,g)) :
  Calls Tryz.prog 43 #[ldV P T A M W Q D nd d D' nd' d' v a g n u B k c] w fun e w'=>e=.returned (.bool (fineB A S C ⟨(v,a,g),n,u,t⟩))∧Below w.heap.size w w':=by
 obtain ⟨x,hbel⟩:=led_box w P T A M W Q D nd d D' nd' d' v a g n u B k c
 obtain ⟨w1,hw1⟩:∃ y,y=w.alloc (.cells #[.int .i64 P,.int .i64 T,.int .i64 A,.int .i64 M,.int .i64 W,.int .i64 Q,.slice D nd d,.slice D' nd' d',.int .u32 v,.int .i64 a,.int .u64 g,.int .i64 n,.int .i64 u,.slice B k c] 90):=⟨_,rfl⟩
 rw [← hw1] at x hbel
 have X:=Lh x
 have BB:=Lh hbel
 have DQ:=Lh (hq.below hbel)
 have hA0:0≤A:=by have h:=hm;unfold mayC at h;omega
 have hA32:A≤32:=by have h:=hm;unfold mayC at h;omega
 have hn0:0≤n∧n≤A:=hkm.2.2.1
 obtain ⟨A',rfl⟩:∃ y:Nat,A=(y:Int):=⟨A.toNat,by omega⟩
 obtain ⟨n',rfl⟩:∃ y:Nat,n=(y:Int):=⟨n.toNat,by omega⟩
 have hnA:n'≤A':=by omega
 have hA32:A'≤32:=by omega
 have ST:=Lh (fun (j q:Nat) (hj:j < 2) (hk:q < A') wx hx=>pstray_any P T A' M W Q D nd d D' nd' d' S C v a g n' u B k c t (j:Int) (q:Int) wx hx hs hm hkm hi ⟨by omega,by omega⟩ ⟨by omega,by omega⟩)
 have FT:=Lh (fun h=>fineB_true (A:=(A':Int)) (S:=S) (C:=C) (m:=⟨(v,a,g),(n':Int),u,t⟩) h)
 have FF:=Lh (fun (j q:Nat) (hj:j < 2) (hq:q < A') h=>fineB_false (A:=(A':Int)) (S:=S) (C:=C) (m:=⟨(v,a,g),(n':Int),u,t⟩) (a:=j) (k:=q) hj (by omega) h)
 obtain ⟨R,hR⟩:∃ y,y=fineB (A':Int) S C ⟨(v,a,g),(n':Int),u,t⟩:=⟨_,rfl⟩
 rw [← hR] at FT FF ⊢
 have OK:=Lh (fun (j q:Nat)=>(show okS (A':Int) S C ⟨(v,a,g),(n':Int),u,t⟩ (j:Int) (q:Int)=(decide ((j:Int)=a∧(q:Int) < (n':Int)) || !strB (A':Int) S C ⟨(v,a,g),(n':Int),u,t⟩ (j:Int) (q:Int)) from rfl))
 obtain ⟨c0,c1,c2,c3,c4,c5,c6,c7,d0,d1,d2,d3,d4,d5⟩:=x.led
 clear x hbel hq hs hm hkm hi hR hA0 hn0
 go_enter Tryz.func43,Tryz.ntmps43
 go_upto_region 1 with fail
 rw [← hw1]
 clear hw1
 go_wp2
 go_loopw [6] (fun i wr=>∃ j:Nat,j≤2∧i=.int .i64 j∧(∀ a' k':Nat,a' < j→(k':Int) < (A':Int)→okS (A':Int) S C ⟨(v,a,g),(n':Int),u,t⟩ (a':Int) (k':Int)=true)∧Below w1.heap.size w1 wr) (fun i _=>2 - (intOf i).toNat)
 case atStart=>exact ⟨0,Nat.zero_le _,rfl,fun a' k' h=>absurd h (Nat.not_lt_zero _),Below.refl _ _⟩
 case round =>
  obtain ⟨j,hj,rfl,hjo,hbr⟩:=hrel
  have JO:=Lh hjo
  have BR:=Lh hbr
  clear hjo hbr c0 c1 c2 c3 c4 c5 c6 c7 d0 d1 d2 d3 d4 d5
  obtain ⟨c0,c1,c2,c3,c4,c5,c6,c7,d0,d1,d2,d3,d4,d5⟩:=(X.out.below BR.out X.out.lt).led
  by_cases hj2:j < 2
  ·have hji:(j:Int) < 2:=by omega
   by_cases hja:(j:Int)=a
   ·have hjb:((j:Int) == a)=true:=beq_iff_eq.2 hja
    have HF0:=Lh hnA
    have HJA:=Lh hja
    clear hja
    go_wp2
    go_loopw [5] (fun i wr=>∃ q:Nat,n'≤q∧q≤A'∧i=.int .i64 q∧(∀ k':Nat,k' < q→okS (A':Int) S C ⟨(v,a,g),(n':Int),u,t⟩ (j:Int) (k':Int)=true)∧Below w1.heap.size w1 wr) (fun i _=>A' - (intOf i).toNat)
    case atStart=>exact ⟨n',Nat.le_refl _,HF0.out,rfl,fun k' hk'=>by rw [OK.out];rw [decide_eq_true (⟨HJA.out,by omega⟩:(j:Int)=a∧(k':Int) < (n':Int))];rfl,BR.out⟩
    case round =>
     obtain ⟨q,hq0,hqA,rfl,hok,hbq⟩:=hrel
     have KO:=Lh hok
     have BQ:=Lh hbq
     clear hok hbq c0 c1 c2 c3 c4 c5 c6 c7 d0 d1 d2 d3 d4 d5
     obtain ⟨c0,c1,c2,c3,c4,c5,c6,c7,d0,d1,d2,d3,d4,d5⟩:=(X.out.below BQ.out X.out.lt).led
     by_cases hqa:q < A'
     ·have hqi:(q:Int) < (A':Int):=by omega
      have OKQ:=OK.out j q
      have FFQ:=Lh (FF.out j q (by omega) hqa)
      have SQ:=ST.out j q (by omega) hqa wr (DQ.out.below BQ.out)
      obtain ⟨b,hb0⟩:∃ y,y=strB (A':Int) S C ⟨(v,a,g),(n':Int),u,t⟩ (j:Int) (q:Int):=⟨_,rfl⟩
      rw [← hb0] at OKQ SQ
      have hdd:decide ((j:Int)=a∧(q:Int) < (n':Int))=false:=decide_eq_false fun h=>by omega
      rw [hdd,Bool.false_or] at OKQ
      have OKQ:=Lh OKQ
      clear hb0 hdd
      cases b with
      | true =>
       have SQ:=Lh SQ
       go_wp2_with fail
       refine SQ.out.mono ?_
       rintro e w5 ⟨rfl,hb⟩
       have BQ:=Lh (BQ.out.trans (hb.mono BQ.out.size))
       have hRf:=FFQ.out OKQ.out
       clear hb SQ c0 c1 c2 c3 c4 c5 c6 c7 d0 d1 d2 d3 d4 d5
       subst hRf
       go_wp2
       go_ret
       exact ⟨rfl,BB.out.trans (BQ.out.mono BB.out.size)⟩
      | false =>
       have SQ:=Lh SQ
       go_wp2_with fail
       refine SQ.out.mono ?_
       rintro e w5 ⟨rfl,hb⟩
       have BQ:=Lh (BQ.out.trans (hb.mono BQ.out.size))
       clear hb SQ c0 c1 c2 c3 c4 c5 c6 c7 d0 d1 d2 d3 d4 d5
       go_wp2
       go_roundw
       case rel=>exact ⟨q + 1,by omega,by omega,by go_num,fun k' hk'=>by rcases Nat.lt_succ_iff_lt_or_eq.1 hk' with h | rfl;exact KO.out k' h;exact OKQ.out,BQ.out⟩
       all_goals (try case measure=>simp [intOf];omega)
     ·obtain rfl:q=A':=by omega
      go_wp2
      go_roundw
      case rel=>exact ⟨j + 1,by omega,by go_num,fun a' k' ha' hk'=>by rcases Nat.lt_succ_iff_lt_or_eq.1 ha' with h | rfl;exact JO.out a' k' h hk';exact KO.out k' (by omega),BQ.out⟩
      all_goals (try case measure=>simp [intOf];omega)
   ·have hjb:((j:Int) == a)=false:=beq_eq_false_iff_ne.2 hja
    have HF0:=Lh (Nat.zero_le A')
    have HJA:=Lh hja
    clear hja
    go_wp2
    go_loopw [5] (fun i wr=>∃ q:Nat,0≤q∧q≤A'∧i=.int .i64 q∧(∀ k':Nat,k' < q→okS (A':Int) S C ⟨(v,a,g),(n':Int),u,t⟩ (j:Int) (k':Int)=true)∧Below w1.heap.size w1 wr) (fun i _=>A' - (intOf i).toNat)
    case atStart=>exact ⟨0,Nat.le_refl _,HF0.out,rfl,fun k' hk'=>by rw [OK.out];exact absurd hk' (Nat.not_lt_zero _),BR.out⟩
    case round =>
     obtain ⟨q,hq0,hqA,rfl,hok,hbq⟩:=hrel
     have KO:=Lh hok
     have BQ:=Lh hbq
     clear hok hbq c0 c1 c2 c3 c4 c5 c6 c7 d0 d1 d2 d3 d4 d5
     obtain ⟨c0,c1,c2,c3,c4,c5,c6,c7,d0,d1,d2,d3,d4,d5⟩:=(X.out.below BQ.out X.out.lt).led
     by_cases hqa:q < A'
     ·have hqi:(q:Int) < (A':Int):=by omega
      have OKQ:=OK.out j q
      have FFQ:=Lh (FF.out j q (by omega) hqa)
      have SQ:=ST.out j q (by omega) hqa wr (DQ.out.below BQ.out)
      obtain ⟨b,hb0⟩:∃ y,y=strB (A':Int) S C ⟨(v,a,g),(n':Int),u,t⟩ (j:Int) (q:Int):=⟨_,rfl⟩
      rw [← hb0] at OKQ SQ
      have hdd:decide ((j:Int)=a∧(q:Int) < (n':Int))=false:=decide_eq_false fun h=>HJA.out h.1
      rw [hdd,Bool.false_or] at OKQ
      have OKQ:=Lh OKQ
      clear hb0 hdd
      cases b with
      | true =>
       have SQ:=Lh SQ
       go_wp2_with fail
       refine SQ.out.mono ?_
       rintro e w5 ⟨rfl,hb⟩
       have BQ:=Lh (BQ.out.trans (hb.mono BQ.out.size))
       have hRf:=FFQ.out OKQ.out
       clear hb SQ c0 c1 c2 c3 c4 c5 c6 c7 d0 d1 d2 d3 d4 d5
       subst hRf
       go_wp2
       go_ret
       exact ⟨rfl,BB.out.trans (BQ.out.mono BB.out.size)⟩
      | false =>
       have SQ:=Lh SQ
       go_wp2_with fail
       refine SQ.out.mono ?_
       rintro e w5 ⟨rfl,hb⟩
       have BQ:=Lh (BQ.out.trans (hb.mono BQ.out.size))
       clear hb SQ c0 c1 c2 c3 c4 c5 c6 c7 d0 d1 d2 d3 d4 d5
       go_wp2
       go_roundw
       case rel=>exact ⟨q + 1,by omega,by omega,by go_num,fun k' hk'=>by rcases Nat.lt_succ_iff_lt_or_eq.1 hk' with h | rfl;exact KO.out k' h;exact OKQ.out,BQ.out⟩
       all_goals (try case measure=>simp [intOf];omega)
     ·obtain rfl:q=A':=by omega
      go_wp2
      go_roundw
      case rel=>exact ⟨j + 1,by omega,by go_num,fun a' k' ha' hk'=>by rcases Nat.lt_succ_iff_lt_or_eq.1 ha' with h | rfl;exact JO.out a' k' h hk';exact KO.out k' (by omega),BQ.out⟩
      all_goals (try case measure=>simp [intOf];omega)
  ·obtain rfl:j=2:=by omega
   have hRt:=FT.out fun a k ha hk=>JO.out a k ha hk
   subst hRt
   go_wp2
   go_ret
   exact ⟨rfl,BB.out.trans (BR.out.mono BB.out.size)⟩
def orB (P T A M W Q:Int) (S:List Sec) (C:List Pnd) (m:Mt):Bool:=if boE P T A M W Q S C m=0 then fineB A S C m else false
theorem porderly_any (P T A M W Q:Int) (D:Option Addr) (nd d:Nat) (D':Option Addr) (nd' d':Nat) (S:List Sec) (C:List Pnd) (v a g n u:Int) (B:Option Addr) (k c:Nat) (t:List Rc) (w:World) (hq:Dsk w D nd d D' nd' d' S C) (hs:SmallD S C) (hi:isS (v,a,g)) (ht:Recs w B k c t) (hk:k≤1000) :
  Calls Tryz.prog 14 #[cfgV P T A M W Q,diskV D nd d D' nd' d',metV v a g n u B k c] w fun e w'=>e=.returned (.tuple #[.bool (orB P T A M W Q S C ⟨(v,a,g),n,u,t⟩),.int .i64 (boE P T A M W Q S C ⟨(v,a,g),n,u,t⟩)])∧Below w.heap.size w w':=by
 obtain ⟨x,hbel⟩:=MBox.new P T A M W Q v a g n u hq ht
 obtain ⟨w0,hw0⟩:∃ x:World,x=(((w.alloc (.cells #[.int .i64 P,.int .i64 T,.int .i64 A,.int .i64 M,.int .i64 W,.int .i64 Q] 36)).alloc (.cells #[.slice D nd d,.slice D' nd' d'] 25)).alloc (.cells #[.int .u32 v,.int .i64 a,.int .u64 g,.int .i64 n,.int .i64 u,.slice B k c] 32)):=⟨_,rfl⟩
 rw [← hw0] at x hbel
 have X:=Lh x
 have BB:=Lh hbel
 have LG:=fun wx hx hy=>pledger_any P T A M W Q D nd d D' nd' d' S C v a g n u B k c t wx hx hs hy hk
 obtain ⟨⟨c0,c1,c2,c3,c4,c5,c6,c7⟩,d0,d1,d2,d3,d4,d5⟩:=x.cells
 clear x
 unfold orB
 rcases bo_or P T A M W Q S C ⟨(v,a,g),n,u,t⟩ with h0 | h0
 ·have hmm0:mayT P T A M W Q S C∧mayM P T A M W Q ⟨(v,a,g),n,u,t⟩:=Classical.byContradiction fun hn=>by
   unfold boE at h0
   rw [if_neg hn] at h0
   cases h0
  have LG:=Lh (fun wx hx hy=>(LG wx hx hy).mono fun e w' h=>led_yes (by rw [h0] at h;exact h))
  have IO:=Lh (fun wx hx=>pisord_any P T A M W Q D nd d D' nd' d' S C v a g n u B k c t wx hx hs hmm0.1.1 hmm0.2 hi)
  rw [if_pos h0,h0]
  obtain ⟨R,hR⟩:∃ y,y=fineB A S C ⟨(v,a,g),n,u,t⟩:=⟨_,rfl⟩
  rw [← hR] at IO ⊢
  clear hR h0 hmm0 hbel hq hs hi ht hk
  go_enter Tryz.func14,Tryz.ntmps14
  go_wp2_with fail
  rw [← hw0]
  clear hw0
  refine (LG.out _ X.out.two.dsk.dsk X.out.tab).mono ?_
  rintro e w1 ⟨rfl,hb⟩
  obtain ⟨y,hk1⟩:=led_box w1 P T A M W Q D nd d D' nd' d' v a g n u B k c
  obtain ⟨w2,hw2⟩:∃ x:World,x=w1.alloc (.cells #[.int .i64 P,.int .i64 T,.int .i64 A,.int .i64 M,.int .i64 W,.int .i64 Q,.slice D nd d,.slice D' nd' d',.int .u32 v,.int .i64 a,.int .u64 g,.int .i64 n,.int .i64 u,.slice B k c] 90):=⟨_,rfl⟩
  rw [← hw2] at y hk1
  have BB:=Lh ((BB.out.trans (hb.mono BB.out.size)).trans (hk1.mono (BB.out.trans (hb.mono BB.out.size)).size))
  have X:=Lh ((X.out.below hb).below hk1)
  have Y:=Lh y
  clear hb hk1 y LG c0 c1 c2 c3 c4 c5 c6 c7 d0 d1 d2 d3 d4 d5
  go_upto_region 2 with fail
  rw [← hw2]
  clear hw2
  obtain ⟨g0,g1,g2,g3,g4,g5,g6,g7,g8,g9,g10,g11,g12,g13⟩:=Y.out.led
  go_wp2_with fail
  refine (IO.out _ X.out.two.dsk.dsk).mono ?_
  rintro e w3 ⟨rfl,hb⟩
  have BB:=Lh (BB.out.trans (hb.mono BB.out.size))
  clear hb IO g0 g1 g2 g3 g4 g5 g6 g7 g8 g9 g10 g11 g12 g13
  go_wp2
  go_ret2
  exact ⟨rfl,BB.out⟩
 ·have LG:=Lh (fun wx hx hy=>(LG wx hx hy).mono fun e w' h=>led_no (by rw [h0] at h;exact h))
  rw [if_neg (by rw [h0];decide),h0]
  clear h0 hbel hq hs hi ht hk
  go_enter Tryz.func14,Tryz.ntmps14
  go_wp2_with fail
  rw [← hw0]
  clear hw0
  refine (LG.out _ X.out.two.dsk.dsk X.out.tab).mono ?_
  rintro e w1 ⟨rfl,hb⟩
  obtain ⟨y,hk1⟩:=led_box w1 0 0 0 0 0 0 none 0 0 none 0 0 0 0 0 0 0 none 0 0
  obtain ⟨w2,hw2⟩:∃ x:World,x=w1.alloc (.cells #[.int .i64 0,.int .i64 0,.int .i64 0,.int .i64 0,.int .i64 0,.int .i64 0,.slice none 0 0,.slice none 0 0,.int .u32 0,.int .i64 0,.int .u64 0,.int .i64 0,.int .i64 0,.slice none 0 0] 90):=⟨_,rfl⟩
  rw [← hw2] at y hk1
  have BB:=Lh ((BB.out.trans (hb.mono BB.out.size)).trans (hk1.mono (BB.out.trans (hb.mono BB.out.size)).size))
  have X:=Lh ((X.out.below hb).below hk1)
  have Y:=Lh y
  clear hb hk1 y LG c0 c1 c2 c3 c4 c5 c6 c7 d0 d1 d2 d3 d4 d5
  go_upto_region 2 with fail
  rw [← hw2]
  clear hw2
  go_wp2
  go_ret2
  exact ⟨rfl,BB.out⟩
end Go.Proofs.YtifgcfepbenpjaaGreat
