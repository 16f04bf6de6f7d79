/- Texts of layers 1 to 12, joined. -/
import Derived.Test.YtifgcfepbenpjaaGreatNa46
set_option maxRecDepth 100000
set_option maxHeartbeats 12800000
set_option linter.unusedVariables false
namespace Go.Proofs.YtifgcfepbenpjaaGreat
open Go.RowKit
theorem pisord_any (P T A M W Q:Int) (D:Option Addr) (nd d:Nat) (D':Option Addr) (nd' d':Nat) (S:List Sec) (C:List Pnd) (v a g n u:Int) (B:Option Addr) (k c:Nat) (t:List Rc) (w:World) (hq:Dsk w D nd d D' nd' d' S C) (hs:SmallD S C) (hm:mayC P T A M W Q) (hkm:mayM P T A M W Q ⟨(v,a,g),n,u,t⟩) (hi:isS (v,a,g)) :
  Calls Tryz.prog 43 #[ldV P T A M W Q D nd d D' nd' d' v a g n u B k c] w fun e w'=>e=.returned (.bool (fineB A S C ⟨(v,a,g),n,u,t⟩))∧Below w.heap.size w w':=by
 obtain ⟨x,hbel⟩:=led_box w P T A M W Q D nd d D' nd' d' v a g n u B k c
 obtain ⟨w1,hw1⟩:∃ y,y=w.alloc (.cells #[.int .i64 P,.int .i64 T,.int .i64 A,.int .i64 M,.int .i64 W,.int .i64 Q,.slice D nd d,.slice D' nd' d',.int .u32 v,.int .i64 a,.int .u64 g,.int .i64 n,.int .i64 u,.slice B k c] 90):=⟨_,rfl⟩
 rw [← hw1] at x hbel
 have X:=Lh x
 have BB:=Lh hbel
 have DQ:=Lh (hq.below hbel)
 have hA0:0≤A:=by have h:=hm;unfold mayC at h;omega
 have hA32:A≤32:=by have h:=hm;unfold mayC at h;omega
 have hn0:0≤n∧n≤A:=hkm.2.2.1
 obtain ⟨A',rfl⟩:∃ y:Nat,A=(y:Int):=⟨A.toNat,by omega⟩
 obtain ⟨n',rfl⟩:∃ y:Nat,n=(y:Int):=⟨n.toNat,by omega⟩
 have hnA:n'≤A':=by omega
 have hA32:A'≤32:=by omega
 have ST:=Lh (fun (j q:Nat) (hj:j < 2) (hk:q < A') wx hx=>pstray_any P T A' M W Q D nd d D' nd' d' S C v a g n' u B k c t (j:Int) (q:Int) wx hx hs hm hkm hi ⟨by omega,by omega⟩ ⟨by omega,by omega⟩)
 have FT:=Lh (fun h=>fineB_true (A:=(A':Int)) (S:=S) (C:=C) (m:=⟨(v,a,g),(n':Int),u,t⟩) h)
 have FF:=Lh (fun (j q:Nat) (hj:j < 2) (hq:q < A') h=>fineB_false (A:=(A':Int)) (S:=S) (C:=C) (m:=⟨(v,a,g),(n':Int),u,t⟩) (a:=j) (k:=q) hj (by omega) h)
 obtain ⟨R,hR⟩:∃ y,y=fineB (A':Int) S C ⟨(v,a,g),(n':Int),u,t⟩:=⟨_,rfl⟩
 rw [← hR] at FT FF ⊢
 have OK:=Lh (fun (j q:Nat)=>(show okS (A':Int) S C ⟨(v,a,g),(n':Int),u,t⟩ (j:Int) (q:Int)=(decide ((j:Int)=a∧(q:Int) < (n':Int)) || !strB (A':Int) S C ⟨(v,a,g),(n':Int),u,t⟩ (j:Int) (q:Int)) from rfl))
 obtain ⟨c0,c1,c2,c3,c4,c5,c6,c7,d0,d1,d2,d3,d4,d5⟩:=x.led
 clear x hbel hq hs hm hkm hi hR hA0 hn0
 go_enter Tryz.func43,Tryz.ntmps43
 go_upto_region 1 with fail
 rw [← hw1]
 clear hw1
 go_wp2
 go_loopw [6] (fun i wr=>∃ j:Nat,j≤2∧i=.int .i64 j∧(∀ a' k':Nat,a' < j→(k':Int) < (A':Int)→okS (A':Int) S C ⟨(v,a,g),(n':Int),u,t⟩ (a':Int) (k':Int)=true)∧Below w1.heap.size w1 wr) (fun i _=>2 - (intOf i).toNat)
 case atStart=>exact ⟨0,Nat.zero_le _,rfl,fun a' k' h=>absurd h (Nat.not_lt_zero _),Below.refl _ _⟩
 case round =>
  obtain ⟨j,hj,rfl,hjo,hbr⟩:=hrel
  have JO:=Lh hjo
  have BR:=Lh hbr
  clear hjo hbr c0 c1 c2 c3 c4 c5 c6 c7 d0 d1 d2 d3 d4 d5
  obtain ⟨c0,c1,c2,c3,c4,c5,c6,c7,d0,d1,d2,d3,d4,d5⟩:=(X.out.below BR.out X.out.lt).led
  by_cases hj2:j < 2
  ·have hji:(j:Int) < 2:=by omega
   by_cases hja:(j:Int)=a
   ·have hjb:((j:Int) == a)=true:=beq_iff_eq.2 hja
    have HF0:=Lh hnA
    have HJA:=Lh hja
    clear hja
    go_wp2
    go_loopw [5] (fun i wr=>∃ q:Nat,n'≤q∧q≤A'∧i=.int .i64 q∧(∀ k':Nat,k' < q→okS (A':Int) S C ⟨(v,a,g),(n':Int),u,t⟩ (j:Int) (k':Int)=true)∧Below w1.heap.size w1 wr) (fun i _=>A' - (intOf i).toNat)
    case atStart=>exact ⟨n',Nat.le_refl _,HF0.out,rfl,fun k' hk'=>by rw [OK.out];rw [decide_eq_true (⟨HJA.out,by omega⟩:(j:Int)=a∧(k':Int) < (n':Int))];rfl,BR.out⟩
    case round =>
     obtain ⟨q,hq0,hqA,rfl,hok,hbq⟩:=hrel
     have KO:=Lh hok
     have BQ:=Lh hbq
     clear hok hbq c0 c1 c2 c3 c4 c5 c6 c7 d0 d1 d2 d3 d4 d5
     obtain ⟨c0,c1,c2,c3,c4,c5,c6,c7,d0,d1,d2,d3,d4,d5⟩:=(X.out.below BQ.out X.out.lt).led
     by_cases hqa:q < A'
     ·have hqi:(q:Int) < (A':Int):=by omega
      have OKQ:=OK.out j q
      have FFQ:=Lh (FF.out j q (by omega) hqa)
      have SQ:=ST.out j q (by omega) hqa wr (DQ.out.below BQ.out)
      obtain ⟨b,hb0⟩:∃ y,y=strB (A':Int) S C ⟨(v,a,g),(n':Int),u,t⟩ (j:Int) (q:Int):=⟨_,rfl⟩
      rw [← hb0] at OKQ SQ
      have hdd:decide ((j:Int)=a∧(q:Int) < (n':Int))=false:=decide_eq_false fun h=>by omega
      rw [hdd,Bool.false_or] at OKQ
      have OKQ:=Lh OKQ
      clear hb0 hdd
      cases b with
      | true =>
       have SQ:=Lh SQ
       go_wp2_with fail
       refine SQ.out.mono ?_
       rintro e w5 ⟨rfl,hb⟩
       have BQ:=Lh (BQ.out.trans (hb.mono BQ.out.size))
       have hRf:=FFQ.out OKQ.out
       clear hb SQ c0 c1 c2 c3 c4 c5 c6 c7 d0 d1 d2 d3 d4 d5
       subst hRf
       go_wp2
       go_ret
       exact ⟨rfl,BB.out.trans (BQ.out.mono BB.out.size)⟩
      | false =>
       have SQ:=Lh SQ
       go_wp2_with fail
       refine SQ.out.mono ?_
       rintro e w5 ⟨rfl,hb⟩
       have BQ:=Lh (BQ.out.trans (hb.mono BQ.out.size))
       clear hb SQ c0 c1 c2 c3 c4 c5 c6 c7 d0 d1 d2 d3 d4 d5
       go_wp2
       go_roundw
       case rel=>exact ⟨q + 1,by omega,by omega,by go_num,fun k' hk'=>by rcases Nat.lt_succ_iff_lt_or_eq.1 hk' with h | rfl;exact KO.out k' h;exact OKQ.out,BQ.out⟩
       all_goals (try case measure=>simp [intOf];omega)
     ·obtain rfl:q=A':=by omega
      go_wp2
      go_roundw
      case rel=>exact ⟨j + 1,by omega,by go_num,fun a' k' ha' hk'=>by rcases Nat.lt_succ_iff_lt_or_eq.1 ha' with h | rfl;exact JO.out a' k' h hk';exact KO.out k' (by omega),BQ.out⟩
      all_goals (try case measure=>simp [intOf];omega)
   ·have hjb:((j:Int) == a)=false:=beq_eq_false_iff_ne.2 hja
    have HF0:=Lh (Nat.zero_le A')
    have HJA:=Lh hja
    clear hja
    go_wp2
    go_loopw [5] (fun i wr=>∃ q:Nat,0≤q∧q≤A'∧i=.int .i64 q∧(∀ k':Nat,k' < q→okS (A':Int) S C ⟨(v,a,g),(n':Int),u,t⟩ (j:Int) (k':Int)=true)∧Below w1.heap.size w1 wr) (fun i _=>A' - (intOf i).toNat)
    case atStart=>exact ⟨0,Nat.le_refl _,HF0.out,rfl,fun k' hk'=>by rw [OK.out];exact absurd hk' (Nat.not_lt_zero _),BR.out⟩
    case round =>
     obtain ⟨q,hq0,hqA,rfl,hok,hbq⟩:=hrel
     have KO:=Lh hok
     have BQ:=Lh hbq
     clear hok hbq c0 c1 c2 c3 c4 c5 c6 c7 d0 d1 d2 d3 d4 d5
     obtain ⟨c0,c1,c2,c3,c4,c5,c6,c7,d0,d1,d2,d3,d4,d5⟩:=(X.out.below BQ.out X.out.lt).led
     by_cases hqa:q < A'
     ·have hqi:(q:Int) < (A':Int):=by omega
      have OKQ:=OK.out j q
      have FFQ:=Lh (FF.out j q (by omega) hqa)
      have SQ:=ST.out j q (by omega) hqa wr (DQ.out.below BQ.out)
      obtain ⟨b,hb0⟩:∃ y,y=strB (A':Int) S C ⟨(v,a,g),(n':Int),u,t⟩ (j:Int) (q:Int):=⟨_,rfl⟩
      rw [← hb0] at OKQ SQ
      have hdd:decide ((j:Int)=a∧(q:Int) < (n':Int))=false:=decide_eq_false fun h=>HJA.out h.1
      rw [hdd,Bool.false_or] at OKQ
      have OKQ:=Lh OKQ
      clear hb0 hdd
      cases b with
      | true =>
       have SQ:=Lh SQ
       go_wp2_with fail
       refine SQ.out.mono ?_
       rintro e w5 ⟨rfl,hb⟩
       have BQ:=Lh (BQ.out.trans (hb.mono BQ.out.size))
       have hRf:=FFQ.out OKQ.out
       clear hb SQ c0 c1 c2 c3 c4 c5 c6 c7 d0 d1 d2 d3 d4 d5
       subst hRf
       go_wp2
       go_ret
       exact ⟨rfl,BB.out.trans (BQ.out.mono BB.out.size)⟩
      | false =>
       have SQ:=Lh SQ
       go_wp2_with fail
       refine SQ.out.mono ?_
       rintro e w5 ⟨rfl,hb⟩
       have BQ:=Lh (BQ.out.trans (hb.mono BQ.out.size))
       clear hb SQ c0 c1 c2 c3 c4 c5 c6 c7 d0 d1 d2 d3 d4 d5
       go_wp2
       go_roundw
       case rel=>exact ⟨q + 1,by omega,by omega,by go_num,fun k' hk'=>by rcases Nat.lt_succ_iff_lt_or_eq.1 hk' with h | rfl;exact KO.out k' h;exact OKQ.out,BQ.out⟩
       all_goals (try case measure=>simp [intOf];omega)
     ·obtain rfl:q=A':=by omega
      go_wp2
      go_roundw
      case rel=>exact ⟨j + 1,by omega,by go_num,fun a' k' ha' hk'=>by rcases Nat.lt_succ_iff_lt_or_eq.1 ha' with h | rfl;exact JO.out a' k' h hk';exact KO.out k' (by omega),BQ.out⟩
      all_goals (try case measure=>simp [intOf];omega)
  ·obtain rfl:j=2:=by omega
   have hRt:=FT.out fun a k ha hk=>JO.out a k ha hk
   subst hRt
   go_wp2
   go_ret
   exact ⟨rfl,BB.out.trans (BR.out.mono BB.out.size)⟩
def orB (P T A M W Q:Int) (S:List Sec) (C:List Pnd) (m:Mt):Bool:=if boE P T A M W Q S C m=0 then fineB A S C m else false
theorem porderly_any (P T A M W Q:Int) (D:Option Addr) (nd d:Nat) (D':Option Addr) (nd' d':Nat) (S:List Sec) (C:List Pnd) (v a g n u:Int) (B:Option Addr) (k c:Nat) (t:List Rc) (w:World) (hq:Dsk w D nd d D' nd' d' S C) (hs:SmallD S C) (hi:isS (v,a,g)) (ht:Recs w B k c t) (hk:k≤1000) :
  Calls Tryz.prog 14 #[cfgV P T A M W Q,diskV D nd d D' nd' d',metV v a g n u B k c] w fun e w'=>e=.returned (.tuple #[.bool (orB P T A M W Q S C ⟨(v,a,g),n,u,t⟩),.int .i64 (boE P T A M W Q S C ⟨(v,a,g),n,u,t⟩)])∧Below w.heap.size w w':=by
 obtain ⟨x,hbel⟩:=MBox.new P T A M W Q v a g n u hq ht
 obtain ⟨w0,hw0⟩:∃ x:World,x=(((w.alloc (.cells #[.int .i64 P,.int .i64 T,.int .i64 A,.int .i64 M,.int .i64 W,.int .i64 Q] 36)).alloc (.cells #[.slice D nd d,.slice D' nd' d'] 25)).alloc (.cells #[.int .u32 v,.int .i64 a,.int .u64 g,.int .i64 n,.int .i64 u,.slice B k c] 32)):=⟨_,rfl⟩
 rw [← hw0] at x hbel
 have X:=Lh x
 have BB:=Lh hbel
 have LG:=fun wx hx hy=>pledger_any P T A M W Q D nd d D' nd' d' S C v a g n u B k c t wx hx hs hy hk
 obtain ⟨⟨c0,c1,c2,c3,c4,c5,c6,c7⟩,d0,d1,d2,d3,d4,d5⟩:=x.cells
 clear x
 unfold orB
 rcases bo_or P T A M W Q S C ⟨(v,a,g),n,u,t⟩ with h0 | h0
 ·have hmm0:mayT P T A M W Q S C∧mayM P T A M W Q ⟨(v,a,g),n,u,t⟩:=Classical.byContradiction fun hn=>by
   unfold boE at h0
   rw [if_neg hn] at h0
   cases h0
  have LG:=Lh (fun wx hx hy=>(LG wx hx hy).mono fun e w' h=>led_yes (by rw [h0] at h;exact h))
  have IO:=Lh (fun wx hx=>pisord_any P T A M W Q D nd d D' nd' d' S C v a g n u B k c t wx hx hs hmm0.1.1 hmm0.2 hi)
  rw [if_pos h0,h0]
  obtain ⟨R,hR⟩:∃ y,y=fineB A S C ⟨(v,a,g),n,u,t⟩:=⟨_,rfl⟩
  rw [← hR] at IO ⊢
  clear hR h0 hmm0 hbel hq hs hi ht hk
  go_enter Tryz.func14,Tryz.ntmps14
  go_wp2_with fail
  rw [← hw0]
  clear hw0
  refine (LG.out _ X.out.two.dsk.dsk X.out.tab).mono ?_
  rintro e w1 ⟨rfl,hb⟩
  obtain ⟨y,hk1⟩:=led_box w1 P T A M W Q D nd d D' nd' d' v a g n u B k c
  obtain ⟨w2,hw2⟩:∃ x:World,x=w1.alloc (.cells #[.int .i64 P,.int .i64 T,.int .i64 A,.int .i64 M,.int .i64 W,.int .i64 Q,.slice D nd d,.slice D' nd' d',.int .u32 v,.int .i64 a,.int .u64 g,.int .i64 n,.int .i64 u,.slice B k c] 90):=⟨_,rfl⟩
  rw [← hw2] at y hk1
  have BB:=Lh ((BB.out.trans (hb.mono BB.out.size)).trans (hk1.mono (BB.out.trans (hb.mono BB.out.size)).size))
  have X:=Lh ((X.out.below hb).below hk1)
  have Y:=Lh y
  clear hb hk1 y LG c0 c1 c2 c3 c4 c5 c6 c7 d0 d1 d2 d3 d4 d5
  go_upto_region 2 with fail
  rw [← hw2]
  clear hw2
  obtain ⟨g0,g1,g2,g3,g4,g5,g6,g7,g8,g9,g10,g11,g12,g13⟩:=Y.out.led
  go_wp2_with fail
  refine (IO.out _ X.out.two.dsk.dsk).mono ?_
  rintro e w3 ⟨rfl,hb⟩
  have BB:=Lh (BB.out.trans (hb.mono BB.out.size))
  clear hb IO g0 g1 g2 g3 g4 g5 g6 g7 g8 g9 g10 g11 g12 g13
  go_wp2
  go_ret2
  exact ⟨rfl,BB.out⟩
 ·have LG:=Lh (fun wx hx hy=>(LG wx hx hy).mono fun e w' h=>led_no (by rw [h0] at h;exact h))
  rw [if_neg (by rw [h0];decide),h0]
  clear h0 hbel hq hs hi ht hk
  go_enter Tryz.func14,Tryz.ntmps14
  go_wp2_with fail
  rw [← hw0]
  clear hw0
  refine (LG.out _ X.out.two.dsk.dsk X.out.tab).mono ?_
  rintro e w1 ⟨rfl,hb⟩
  obtain ⟨y,hk1⟩:=led_box w1 0 0 0 0 0 0 none 0 0 none 0 0 0 0 0 0 0 none 0 0
  obtain ⟨w2,hw2⟩:∃ x:World,x=w1.alloc (.cells #[.int .i64 0,.int .i64 0,.int .i64 0,.int .i64 0,.int .i64 0,.int .i64 0,.slice none 0 0,.slice none 0 0,.int .u32 0,.int .i64 0,.int .u64 0,.int .i64 0,.int .i64 0,.slice none 0 0] 90):=⟨_,rfl⟩
  rw [← hw2] at y hk1
  have BB:=Lh ((BB.out.trans (hb.mono BB.out.size)).trans (hk1.mono (BB.out.trans (hb.mono BB.out.size)).size))
  have X:=Lh ((X.out.below hb).below hk1)
  have Y:=Lh y
  clear hb hk1 y LG c0 c1 c2 c3 c4 c5 c6 c7 d0 d1 d2 d3 d4 d5
  go_upto_region 2 with fail
  rw [← hw2]
  clear hw2
  go_wp2
  go_ret2
  exact ⟨rfl,BB.out⟩
theorem rorderly12_any (P T A M W Q:Int) (D:Option Addr) (nd d:Nat) (D':Option Addr) (nd' d':Nat) (S:List Sec) (C:List Pnd) (v a g n u:Int) (B:Option Addr) (k c:Nat) (t:List Rc) (w:World) (hq:Dsk w D nd d D' nd' d' S C) (hs:SmallD S C) (hi:isS (v,a,g)) (ht:Recs w B k c t) (hk:k≤1000) :
  Calls Tryz.prog 28 #[cfgV P T A M W Q,diskV D nd d D' nd' d',metV v a g n u B k c] w fun e w'=>e=.returned (.tuple #[.bool (orB P T A M W Q S C ⟨(v,a,g),n,u,t⟩),.int .i64 (boE P T A M W Q S C ⟨(v,a,g),n,u,t⟩)])∧Below w.heap.size w w':=by
 obtain ⟨x,hbel⟩:=MBox.new P T A M W Q v a g n u hq ht
 obtain ⟨w0,hw0⟩:∃ x:World,x=(((w.alloc (.cells #[.int .i64 P,.int .i64 T,.int .i64 A,.int .i64 M,.int .i64 W,.int .i64 Q] 36)).alloc (.cells #[.slice D nd d,.slice D' nd' d'] 25)).alloc (.cells #[.int .u32 v,.int .i64 a,.int .u64 g,.int .i64 n,.int .i64 u,.slice B k c] 32)):=⟨_,rfl⟩
 rw [← hw0] at x hbel
 have X:=Lh x
 have BB:=Lh hbel
 have BO:=Lh (fun wx hx hy=>rboth12_any P T A M W Q v a g n u D nd d D' nd' d' S C B k c t wx hx hs hy (by omega))
 obtain ⟨⟨c0,c1,c2,c3,c4,c5,c6,c7⟩,d0,d1,d2,d3,d4,d5⟩:=x.cells
 clear x
 unfold orB
 rcases bo_or P T A M W Q S C ⟨(v,a,g),n,u,t⟩ with h0 | h0
 ·have hmm0:mayT P T A M W Q S C∧mayM P T A M W Q ⟨(v,a,g),n,u,t⟩:=Classical.byContradiction fun hn=>by
   unfold boE at h0
   rw [if_neg hn] at h0
   cases h0
  have FI:=Lh (fun wx hx hy=>rfine12_any P T A M W Q v a g n u D nd d D' nd' d' S C B k c t wx hx hs hy hmm0.1 hmm0.2 hi)
  rw [if_pos h0,h0]
  rw [h0] at BO
  obtain ⟨R,hR⟩:∃ y,y=fineB A S C ⟨(v,a,g),n,u,t⟩:=⟨_,rfl⟩
  rw [← hR] at FI ⊢
  clear hR h0 hmm0 hbel hq hs hi ht hk
  go_enter Tryz.func28,Tryz.ntmps28
  go_wp2_with fail
  rw [← hw0]
  clear hw0
  refine (BO.out _ X.out.two.dsk.dsk X.out.tab).mono ?_
  rintro e w1 ⟨rfl,hb⟩
  have BB:=Lh (BB.out.trans (hb.mono BB.out.size))
  have X:=Lh (X.out.below hb)
  clear hb BO c0 c1 c2 c3 c4 c5 c6 c7 d0 d1 d2 d3 d4 d5
  obtain ⟨⟨c0,c1,c2,c3,c4,c5,c6,c7⟩,d0,d1,d2,d3,d4,d5⟩:=X.out.cells
  go_wp2_with fail
  refine (FI.out _ X.out.two.dsk.dsk X.out.tab).mono ?_
  rintro e w2 ⟨rfl,hb⟩
  have BB:=Lh (BB.out.trans (hb.mono BB.out.size))
  clear hb FI
  go_wp2
  go_ret2
  exact ⟨rfl,BB.out⟩
 ·rw [if_neg (by rw [h0];decide),h0]
  rw [h0] at BO
  clear h0 hbel hq hs hi ht hk
  go_enter Tryz.func28,Tryz.ntmps28
  go_wp2_with fail
  rw [← hw0]
  clear hw0
  refine (BO.out _ X.out.two.dsk.dsk X.out.tab).mono ?_
  rintro e w1 ⟨rfl,hb⟩
  have BB:=Lh (BB.out.trans (hb.mono BB.out.size))
  clear hb BO c0 c1 c2 c3 c4 c5 c6 c7 d0 d1 d2 d3 d4 d5
  go_wp2
  go_ret2
  exact ⟨rfl,BB.out⟩
theorem Pnds.lit {w:World} {g:Nat} {x:Int} {A:Option Addr} {n c:Nat} {T:Txt} (h:Blk w g 114 [.int .i64 x,.slice A n c]) (hT:Arg w .u8 A n c T) (hby:∀ z ∈ T,isByte z):Pnds w (some ⟨g,0,none⟩) 1 1 [(x,T)] :=
 ⟨rfl,Nat.le_refl _,by decide,fun s hs=>by rw [List.mem_singleton.1 hs];exact hby,fun i hi=>by
  obtain rfl:i=0:=by omega
  exact ⟨g,0,A,n,c,rfl,h.lt,h.cell 1,h.cell 0,hT⟩⟩
theorem Pnds.new {w:World} {x:Int} {A:Option Addr} {n c:Nat} {T:Txt} (hT:Arg w .u8 A n c T) (hby:∀ z ∈ T,isByte z):Pnds (w.alloc (.cells #[.int .i64 x,.slice A n c] 114)) (some ⟨w.heap.size,0,none⟩) 1 1 [(x,T)] :=
 Pnds.lit (Blk.new w 114 [.int .i64 x,.slice A n c]) (hT.below ((Below.refl _ _).alloc (Nat.le_refl _) _)) hby
theorem rcommit_put (P T A M W Q:Int) (D:Option Addr) (nd d:Nat) (D':Option Addr) (nd' d':Nat) (S:List Sec) (C:List Pnd) (v a g n u:Int) (B:Option Addr) (k c:Nat) (t:List Rc) (Ab:Option Addr) (nb cb:Nat) (b:Txt) (w:World) (hq:Dsk w D nd d D' nd' d' S C) (hs:SmallD S C) (ht:Recs w B k c t) (hk:k≤100000) (hb:Arg w .u8 Ab nb cb b) (hby:∀ z ∈ b,isByte z)
  (hE:cmE P T A M W Q S C ⟨(v,a,g),n,u,t⟩ b≠0) (h3:boE P T A M W Q S C ⟨(v,a,g),n,u,t⟩≠0∨ansE (putR t b)≠0) :
  Calls Tryz.prog 27 #[cfgV P T A M W Q,diskV D nd d D' nd' d',metV v a g n u B k c,.slice Ab nb cb] w (PlanOut12 w (cmO P T A M W Q S C ⟨(v,a,g),n,u,t⟩ b) (cmL P T A M W Q S C ⟨(v,a,g),n,u,t⟩ b) (cmE P T A M W Q S C ⟨(v,a,g),n,u,t⟩ b)):=by
 obtain ⟨x,hbel⟩:=MBox.new P T A M W Q v a g n u hq ht
 obtain ⟨z,h2⟩:=met_box (((w.alloc (.cells #[.int .i64 P,.int .i64 T,.int .i64 A,.int .i64 M,.int .i64 W,.int .i64 Q] 36)).alloc (.cells #[.slice D nd d,.slice D' nd' d'] 25)).alloc (.cells #[.int .u32 v,.int .i64 a,.int .u64 g,.int .i64 n,.int .i64 u,.slice B k c] 32)) 0 0 0 0 0 none 0 0
 rw [World.size_alloc,World.size_alloc,World.size_alloc] at z
 have x:=x.below h2
 obtain ⟨w0,hw0⟩:∃ x:World,x=((((w.alloc (.cells #[.int .i64 P,.int .i64 T,.int .i64 A,.int .i64 M,.int .i64 W,.int .i64 Q] 36)).alloc (.cells #[.slice D nd d,.slice D' nd' d'] 25)).alloc (.cells #[.int .u32 v,.int .i64 a,.int .u64 g,.int .i64 n,.int .i64 u,.slice B k c] 32)).alloc (.cells #[.int .u32 0,.int .i64 0,.int .u64 0,.int .i64 0,.int .i64 0,.slice none 0 0] 32)):=⟨_,rfl⟩
 rw [← hw0] at x z h2
 have X:=Lh x
 have Z:=Lh z
 have BB:=Lh (hbel.trans (h2.mono hbel.size))
 have BO:=Lh (fun wx hx hy=>rboth12_any P T A M W Q v a g n u D nd d D' nd' d' S C B k c t wx hx hs hy hk)
 obtain ⟨⟨c0,c1,c2,c3,c4,c5,c6,c7⟩,d0,d1,d2,d3,d4,d5⟩:=x.cells
 clear x z h2 hbel
 unfold cmO cmL
 rw [if_neg hE,if_neg hE]
 have PB:=Lh (hb.below BB.out)
 by_cases h0:boE P T A M W Q S C ⟨(v,a,g),n,u,t⟩=0
 ·have h4:ansE (putR t b)≠0:=by rcases h3 with h | h;exact absurd h0 h;exact h
  have hE2:cmE P T A M W Q S C ⟨(v,a,g),n,u,t⟩ b=ansE (putR t b):=by unfold cmE;rw [if_pos h0];exact if_neg h4
  rw [hE2]
  rw [h0] at BO
  have PU:=Lh (fun wx hx hy=>rput11_any B k c t Ab nb cb b wx hx hk hy hby)
  unfold PutOut at PU
  obtain ⟨e,he⟩:∃ y,y=ansE (putR t b):=⟨_,rfl⟩
  rw [← he] at PU h4 ⊢
  have hne:(e != 0)=true:=by simpa using h4
  clear hE hE2 h0 h3 he hq hs ht hk hb hby h4
  go_enter Tryz.func27,Tryz.ntmps27
  go_wp2_with fail
  rw [← hw0]
  clear hw0
  refine (BO.out _ X.out.two.dsk.dsk X.out.tab).mono ?_
  rintro e1 w1 ⟨rfl,hb⟩
  have BB:=Lh (BB.out.trans (hb.mono BB.out.size))
  have X:=Lh (X.out.below hb)
  have Z:=Lh (Z.out.below hb Z.out.lt)
  have PB:=Lh (PB.out.below hb)
  clear hb BO c0 c1 c2 c3 c4 c5 c6 c7 d0 d1 d2 d3 d4 d5
  obtain ⟨⟨c0,c1,c2,c3,c4,c5,c6,c7⟩,d0,d1,d2,d3,d4,d5⟩:=X.out.cells
  go_wp2_with fail
  refine (PU.out _ X.out.tab PB.out).mono ?_
  rintro e1 w2 ⟨A2,x2,rfl,hown,hb⟩
  have BB:=Lh (BB.out.trans (hb.mono BB.out.size))
  have Z:=Lh (Z.out.below hb Z.out.lt)
  clear hb hown PU c0 c1 c2 c3 c4 c5 c6 c7 d0 d1 d2 d3 d4 d5
  have fz:=Z.out.free
  obtain ⟨e0,e1,e2,e3,e4,e5⟩:=Z.out.met
  go_wp2
  obtain ⟨z0,z1,z2,z3,z4,z5⟩:=(Z.out.sixM 0 0 0 0 0 none 0 0).met
  refine bodyPost_ret (v:=.tuple #[metV 0 0 0 0 0 none 0 0,.slice none 0 0,.int .i64 e]) ?_ rfl ⟨none,0,none,0,[],rfl,OwnRecs.nil _ _,OwnAcs.nil _ _,AxIs.nil _,below_sixM BB.out (by omega) 0 0 0 0 0 none 0 0⟩
  clear fz e0 e1 e2 e3 e4 e5
  simp [results,Tryz.f27,go_sem,z0,z1,z2,z3,z4,z5]
 ·have h8:boE P T A M W Q S C ⟨(v,a,g),n,u,t⟩=8:=by rcases bo_or P T A M W Q S C ⟨(v,a,g),n,u,t⟩ with h | h;exact absurd h h0;exact h
  have hE2:cmE P T A M W Q S C ⟨(v,a,g),n,u,t⟩ b=8:=by unfold cmE;exact if_neg h0
  rw [hE2]
  rw [h8] at BO
  clear hE hE2 h0 h3 h8 hq hs ht hk hb hby
  go_enter Tryz.func27,Tryz.ntmps27
  go_wp2_with fail
  rw [← hw0]
  clear hw0
  refine (BO.out _ X.out.two.dsk.dsk X.out.tab).mono ?_
  rintro e w1 ⟨rfl,hb⟩
  have BB:=Lh (BB.out.trans (hb.mono BB.out.size))
  have Z:=Lh (Z.out.below hb Z.out.lt)
  clear hb BO c0 c1 c2 c3 c4 c5 c6 c7 d0 d1 d2 d3 d4 d5
  have fz:=Z.out.free
  obtain ⟨e0,e1,e2,e3,e4,e5⟩:=Z.out.met
  go_wp2
  obtain ⟨z0,z1,z2,z3,z4,z5⟩:=(Z.out.sixM 0 0 0 0 0 none 0 0).met
  refine bodyPost_ret (v:=.tuple #[metV 0 0 0 0 0 none 0 0,.slice none 0 0,.int .i64 8]) ?_ rfl ⟨none,0,none,0,[],rfl,OwnRecs.nil _ _,OwnAcs.nil _ _,AxIs.nil _,below_sixM BB.out (by omega) 0 0 0 0 0 none 0 0⟩
  clear fz e0 e1 e2 e3 e4 e5
  simp [results,Tryz.f27,go_sem,z0,z1,z2,z3,z4,z5]
end Go.Proofs.YtifgcfepbenpjaaGreat
