/- Texts of layers 1 to 12, joined. -/
import Derived.Test.YtifgcfepbenpjaaGreatNa45
set_option maxRecDepth 100000
set_option maxHeartbeats 12800000
set_option linter.unusedVariables false
namespace Go.Proofs.YtifgcfepbenpjaaGreat
open Go.RowKit
theorem got_good {S:List Sec} {C:List Pnd} {p:Nat} (hm:mayD S C=true) (hp:p < S.length) (h1:∀ s ∈ S,∀ z ∈ s.2,isByte z) (h2:∀ p ∈ C,∀ z ∈ p.2,isByte z) (h:gotOk S C (p:Int)=true):(gotB S C (p:Int)).length=32∧∀ z ∈ gotB S C (p:Int),isByte z:=by
 have ha:askE S C (p:Int)=0:=by unfold askE;rw [if_pos hm,if_neg (by omega)]
 have hr:rdE S C (p:Int)=0:=by unfold rdE;rw [if_pos ha,if_pos h]
 have hb:rdB S C (p:Int)=gotB S C (p:Int):=by unfold rdB;rw [if_pos hr]
 rw [← hb]
 exact rd_good hr h1 h2
theorem rfine12_any (P T A M W Q v a g n u:Int) (D:Option Addr) (nd d:Nat) (D':Option Addr) (nd' d':Nat) (S:List Sec) (C:List Pnd) (B:Option Addr) (k c:Nat) (t:List Rc) (w:World) (hq:Dsk w D nd d D' nd' d' S C) (hs:SmallD S C) (ht:Recs w B k c t) (hm:mayT P T A M W Q S C) (hkm:mayM P T A M W Q ⟨(v,a,g),n,u,t⟩) (hi:isS (v,a,g)) :
  Calls Tryz.prog 58 #[cfgV P T A M W Q,diskV D nd d D' nd' d',metV v a g n u B k c] w fun e w'=>e=.returned (.bool (fineB A S C ⟨(v,a,g),n,u,t⟩))∧Below w.heap.size w w':=by
 obtain ⟨x,hbel⟩:=MBox.new P T A M W Q v a g n u hq ht
 obtain ⟨w0,hw0⟩:∃ x:World,x=(((w.alloc (.cells #[.int .i64 P,.int .i64 T,.int .i64 A,.int .i64 M,.int .i64 W,.int .i64 Q] 36)).alloc (.cells #[.slice D nd d,.slice D' nd' d'] 25)).alloc (.cells #[.int .u32 v,.int .i64 a,.int .u64 g,.int .i64 n,.int .i64 u,.slice B k c] 32)):=⟨_,rfl⟩
 rw [← hw0] at x hbel
 have X:=Lh x
 have BB:=Lh hbel
 have hA3:3≤A∧A≤32:=by
  obtain ⟨c1,c2,c3,c4,c5,c6,c7⟩:=hm.1
  omega
 obtain ⟨K,hK⟩:∃ K:Nat,A=(K:Int):=⟨A.toNat,by omega⟩
 have hK3:3≤K∧K≤32:=by omega
 have hsl:S.length=nd:=hq.secs.len
 have AT:=Lh (fun (b i:Nat) (hb:b < 2) (hi:i < K)=>at_area hm (a:=(b:Int)) ⟨by omega,by omega⟩ (n:=i) (by omega))
 have IA:=Lh (fun (b i:Nat) (hb:b < 2) (hi:i < K) (wx:World)=>rinarea_any P T A M W Q b i wx hm.1 ⟨by omega,by omega,by omega,by omega⟩)
 have GT:=Lh (fun (p:Nat) (hp:p < nd) wx hx=>got_any D nd d D' nd' d' S C p wx hx hs hp)
 have GD:=Lh (fun (p:Nat) (hp:p < nd)=>got_good hm.2.1 (p:=p) (by omega) hq.secs.byte hq.pnds.byte)
 have OP:=Lh (fun (p:Nat) (hp:p < nd)=>optAt_got (a:=(p:Int)) hm.2.1 (by omega) (by omega))
 have NX:=Lh (fun wx=>rnext_any v a g n u B k c wx hi.1 hkm.2.2.2.1)
 have SL:=Lh hsl
 have han:0≤n:=hkm.2.2.1.1
 have har:a=0∨a=1:=hkm.2.1
 have OK:=Lh (fun h=>fineB_true (A:=A) (S:=S) (C:=C) (m:=⟨(v,a,g),n,u,t⟩) h)
 have NO:=Lh (fun (b i:Nat) hb hi h=>fineB_false (A:=A) (S:=S) (C:=C) (m:=⟨(v,a,g),n,u,t⟩) (a:=b) (k:=i) hb hi h)
 have OS:=Lh (show ∀ b i:Int,okS A S C ⟨(v,a,g),n,u,t⟩ b i=(decide (b=a∧i < n) || !strB A S C ⟨(v,a,g),n,u,t⟩ b i) from fun _ _=>rfl)
 have SB:=Lh (show ∀ b i:Int,strB A S C ⟨(v,a,g),n,u,t⟩ b i=(match optAt S C (2 + b * A + i) with
  | some x=>decide (begT g x) || decide (begT (65536 * v + u + 1) x)
  | none=>false) from fun _ _=>rfl)
 obtain ⟨R,hR⟩:∃ y,y=fineB A S C ⟨(v,a,g),n,u,t⟩:=⟨_,rfl⟩
 obtain ⟨F,hF⟩:∃ y:Int→Int→Bool,y=okS A S C ⟨(v,a,g),n,u,t⟩:=⟨_,rfl⟩
 obtain ⟨Z,hZ⟩:∃ y:Int→Int→Bool,y=strB A S C ⟨(v,a,g),n,u,t⟩:=⟨_,rfl⟩
 rw [← hR] at OK NO ⊢
 rw [← hF] at OK NO OS
 rw [← hZ] at OS SB
 obtain ⟨g2,hg2⟩:∃ y,y=65536 * v + u + 1:=⟨_,rfl⟩
 rw [← hg2] at SB NX
 have HK:=Lh hK
 have hA3':3≤A:=hA3.1
 have hA32:A≤32:=hA3.2
 clear hR hF hZ hg2 x hbel hq hs ht hm hkm hi hA3 hsl hK
 obtain ⟨⟨c0,c1,c2,c3,c4,c5,c6,c7⟩,d0,d1,d2,d3,d4,d5⟩:=X.out.cells
 go_enter Tryz.func58,Tryz.ntmps58
 go_wp2
 rw [← hw0]
 clear hw0 c0 c1 c2 c3 c4 c5 c6 c7 d0 d1 d2 d3 d4 d5
 go_loopw [7] (fun i wr=>∃ j:Nat,j≤2 * K∧i=.int .i64 j∧(∀ b i:Nat,b < 2→i < K→b * K + i < j→F b i=true)∧Below w0.heap.size w0 wr) (fun i _=>2 * K - (intOf i).toNat)
 case atStart=>exact ⟨0,Nat.zero_le _,rfl,fun b i _ _ h=>absurd h (Nat.not_lt_zero _),Below.refl _ _⟩
 case round =>
  obtain ⟨j,hj,rfl,hall,hb0⟩:=hrel
  have ALL:=Lh hall
  have BR:=Lh hb0
  have XR:=Lh (X.out.below hb0)
  have HJ:=Lh hj
  clear hall hb0 hj
  obtain ⟨⟨c0,c1,c2,c3,c4,c5,c6,c7⟩,d0,d1,d2,d3,d4,d5⟩:=XR.out.cells
  by_cases hjK:j < 2 * K
  ·have hjA:(j:Int) < 2 * A:=by rw [HK.out];omega
   have hA0:(A == 0)=false:=beq_eq_false_iff_ne.2 (by rw [HK.out];omega)
   obtain ⟨b,i,hb2,hiK,hbi,hd1,hd2⟩:∃ b i:Nat,b < 2∧i < K∧j=b * K + i∧(j:Int).tdiv A=(b:Int)∧(j:Int).tmod A=(i:Int):=by
    by_cases h:j < K
    ·have hd:=div_at (q:=0) (x:=(j:Int)) (o:=0) (b:=A) (by rw [HK.out];omega) (by rw [HK.out];omega) (by rw [HK.out];omega)
     refine ⟨0,j,by omega,h,by omega,?_,?_⟩
     ·rw [Int.tdiv_eq_ediv_of_nonneg (by omega)];exact hd.1
     ·rw [Int.tmod_eq_emod_of_nonneg (by omega),hd.2];omega
    ·have hd:=div_at (q:=0) (x:=(j:Int)) (o:=1) (b:=A) (by rw [HK.out];omega) (by rw [HK.out];omega) (by rw [HK.out];omega)
     refine ⟨1,j - K,by omega,by omega,by omega,?_,?_⟩
     ·rw [Int.tdiv_eq_ediv_of_nonneg (by omega)];exact hd.1
     ·rw [Int.tmod_eq_emod_of_nonneg (by omega),hd.2,HK.out];omega
   have HB:=Lh hbi
   clear hbi
   go_wp2
   go_quiet (fail)
   have hb1:Below wr.heap.size wr (wr.drewN nq):=below_drewN (Below.refl _ _) nq
   obtain ⟨w1,hw1⟩:∃ y,y=wr.drewN nq:=⟨_,rfl⟩
   rw [← hw1] at hb1 ⊢
   have X1:=Lh (XR.out.below hb1)
   have B1:=Lh (BR.out.trans (hb1.mono BR.out.size))
   clear hw1 c0 c1 c2 c3 c4 c5 c6 c7 d0 d1 d2 d3 d4 d5 hb1 hd1 hd2
   obtain ⟨⟨c0,c1,c2,c3,c4,c5,c6,c7⟩,d0,d1,d2,d3,d4,d5⟩:=X1.out.cells
   have STEP:=Lh (show F b i=true→∀ b' i':Nat,b' < 2→i' < K→b' * K + i' < j + 1→F b' i'=true from fun h b' i' h1 h2 h3=>by
    by_cases e:b' * K + i' < j
    ·exact ALL.out b' i' h1 h2 e
    ·have hbi:=HB.out
     have:b'=b∧i'=i:=by
      rcases (by omega:b'=0∨b'=1) with rfl | rfl <;> rcases (by omega:b=0∨b=1) with rfl | rfl <;> omega
     rw [this.1,this.2]
     exact h)
   by_cases hown:(b:Int)=a∧(i:Int) < n
   ·obtain ⟨ho1,ho2⟩:=hown
    have hF:F b i=true:=by rw [OS.out,decide_eq_true ⟨ho1,ho2⟩];rfl
    have hba:((b:Int) == a)=true:=beq_iff_eq.2 ho1
    clear ho1
    go_wp2
    go_roundw
    case rel=>exact ⟨j + 1,by omega,by go_num,STEP.out hF,B1.out⟩
    all_goals (try case measure=>simp [intOf];omega)
   ·have hFZ:=Lh (show F b i=!Z b i by rw [OS.out,decide_eq_false hown];rfl)
    have hd:((b:Int) == a)=false∨(((b:Int) == a)=true∧¬ (i:Int) < n):=by
     by_cases e:(b:Int)=a
     ·exact .inr ⟨beq_iff_eq.2 e,fun h=>hown ⟨e,h⟩⟩
     ·exact .inl (beq_eq_false_iff_ne.2 e)
    clear hown
    obtain ⟨p,hp⟩:∃ p:Nat,(p:Int)=2 + b * A + (i:Int):=⟨(2 + b * A + (i:Int)).toNat,by have:=(AT.out b i hb2 hiK).1;omega⟩
    have hpn:p < nd:=by have:=(AT.out b i hb2 hiK).2;rw [SL.out] at this;omega
    have IA1:=Lh (IA.out b i hb2 hiK)
    have hsb:=SB.out b i
    rw [← hp] at IA1 hsb
    rw [OP.out p hpn] at hsb
    have GT1:=Lh (GT.out p hpn)
    have GD1:=Lh (GD.out p hpn)
    obtain ⟨ok,hok⟩:∃ y,y=gotOk S C (p:Int):=⟨_,rfl⟩
    obtain ⟨x,hx⟩:∃ y,y=gotB S C (p:Int):=⟨_,rfl⟩
    rw [← hok] at hsb GT1 GD1
    rw [← hx] at hsb GT1 GD1
    obtain ⟨m,hxm⟩:∃ y,y=x.length:=⟨_,rfl⟩
    rw [← hxm] at GT1
    have HXM:=Lh hxm
    clear hxm
    have HSB:=Lh hsb
    clear hok hx hsb hp hpn
    rcases hd with hba | ⟨hba,hin⟩
    all_goals (
     go_upto_region 6 with fail
     clear c0 c1 c2 c3 c4 c5 c6 c7 d0 d1 d2 d3 d4 d5
     have hcur:Below w1.heap.size w1 w1.drew:=below_drewN (Below.refl _ _) 1
     have keepX:∀ wx,Below w1.heap.size w1 wx→wx.cell? ⟨w.heap.size,0,none⟩=some (.int .i64 P)∧wx.cell? ⟨w.heap.size,1,none⟩=some (.int .i64 T)∧wx.cell? ⟨w.heap.size,2,none⟩=some (.int .i64 A)∧wx.cell? ⟨w.heap.size,3,none⟩=some (.int .i64 M)∧wx.cell? ⟨w.heap.size,4,none⟩=some (.int .i64 W)∧wx.cell? ⟨w.heap.size,5,none⟩=some (.int .i64 Q)∧wx.cell? ⟨w.heap.size + 1,0,none⟩=some (.slice D nd d)∧wx.cell? ⟨w.heap.size + 1,1,none⟩=some (.slice D' nd' d'):=fun wx hx=>(X1.out.below hx).cells.1
     have hkX:=keepX _ hcur
     go_region_held3 (fun w'=>w'.cell? ⟨w.heap.size,0,none⟩=some (.int .i64 P)∧w'.cell? ⟨w.heap.size,1,none⟩=some (.int .i64 T)∧w'.cell? ⟨w.heap.size,2,none⟩=some (.int .i64 A)∧w'.cell? ⟨w.heap.size,3,none⟩=some (.int .i64 M)∧w'.cell? ⟨w.heap.size,4,none⟩=some (.int .i64 W)∧w'.cell? ⟨w.heap.size,5,none⟩=some (.int .i64 Q)∧w'.cell? ⟨w.heap.size + 1,0,none⟩=some (.slice D nd d)∧w'.cell? ⟨w.heap.size + 1,1,none⟩=some (.slice D' nd' d'))
      (first | exact hkX | go_keep)
      (first
       | (go_at_call 92;with_reducible refine (IA1.out _).mono ?_;rintro e w2 ⟨rfl,hb⟩;have hcur:=hcur.trans (hb.mono hcur.size);have hkX:=keepX _ hcur)
       | (go_at_call 104;have hM:=hcur.size;with_reducible refine (GT1.out _ (X1.out.below hcur).two.dsk.dsk).mono ?_;rintro e w3 ⟨A3,c3,rfl,hown,hb⟩;have hcur:=hcur.trans (hb.mono hcur.size);have hkX:=keepX _ hcur))
     have O:=Lh hown
     have BF:=Lh (B1.out.trans (hcur.mono B1.out.size))
     have XF:=Lh (X1.out.below hcur)
     clear hcur keepX hM hb hown hkX
     cases ok with
     | false =>
      have hF:F b i=true:=by rw [hFZ.out,HSB.out];rfl
      go_wp2
      go_roundw
      case rel=>exact ⟨j + 1,by omega,by go_num,STEP.out hF,BF.out⟩
      all_goals (try case measure=>simp [intOf];omega)
     | true =>
      obtain ⟨hl,hby⟩:=GD1.out rfl
      obtain rfl:m=32:=HXM.out.trans hl
      have AX:=Lh (Arg.own O.out)
      obtain ⟨bb,o,rfl,hc⟩:=AX.out.at_ (by decide)
      have c8:=hc 8 (by decide)
      have hcap:32≤c3∧c3≤maxLen:=⟨AX.out.cap,AX.out.max⟩
      unfold maxLen at hcap
      have hc8:¬ (c3:Int) < 8:=by omega
      obtain ⟨V,hV⟩:∃ y,y=val (x.take 8):=⟨_,rfl⟩
      obtain ⟨x8,hx8⟩:∃ y,y=x.getD 8 0:=⟨_,rfl⟩
      rw [← hx8] at c8
      have N8:=Lh (show Calls Tryz.prog 105 #[.slice (some ⟨bb,o,none⟩) 8 c3] w3 (fun e w'=>e=.returned (.int .u64 V)∧w3=w') from by
       rw [hV]
       have h:=AX.out.cut (lo:=0) (hi:=8) (by decide) (by decide)
       rw [List.drop_zero] at h
       exact number_any (some ⟨bb,o,none⟩) 8 c3 (x.take 8) w3 _ h (by rw [List.length_take,hl];decide) (by decide) (fun z hz=>hby z (List.mem_of_mem_take hz)))
      have hZ:=HSB.out
      rw [if_pos rfl] at hZ
      dsimp only at hZ
      have HZ:=Lh hZ
      have HX8:=Lh hx8
      have HV:=Lh hV
      have NXB:=Lh NX.out
      clear hl hby hc hZ hV hx8 HXM
      obtain ⟨⟨c0,c1,c2,c3',c4,c5,c6,c7⟩,d0,d1,d2,d3,d4,d5⟩:=XF.out.cells
      go_wp2_with fail
      refine N8.out.mono ?_
      rintro e w4 ⟨rfl,rfl⟩
      by_cases h8:x8=1
      ·have q8:(x8 == 1)=true:=beq_iff_eq.2 h8
       by_cases hV1:V=g
       ·have q1:(V == g)=true:=beq_iff_eq.2 hV1
        have hF:F b i=false:=by
         have hb:begT g x:=⟨HX8.out.symm.trans h8,HV.out.symm.trans hV1⟩
         rw [hFZ.out,HZ.out,decide_eq_true hb]
         rfl
        have HR:=Lh (NO.out b i hb2 (by rw [HK.out];omega) hF)
        clear h8 hV1 hF
        go_wp2
        go_ret
        exact ⟨by rw [HR.out];rfl,BB.out.trans (BF.out.mono BB.out.size)⟩
       ·have q1:(V == g)=false:=beq_eq_false_iff_ne.2 hV1
        by_cases hV2:V=g2
        ·have q2:(V == g2)=true:=beq_iff_eq.2 hV2
         have hF:F b i=false:=by
          have hb:begT g2 x:=⟨HX8.out.symm.trans h8,HV.out.symm.trans hV2⟩
          rw [hFZ.out,HZ.out,decide_eq_true hb,Bool.or_true]
          rfl
         have HR:=Lh (NO.out b i hb2 (by rw [HK.out];omega) hF)
         clear h8 hV1 hV2 hF
         go_wp2_with (go_at_call 56;refine (NX.out _).mono ?_;rintro e w5 ⟨rfl,hb5⟩;have B5:=Lh (BF.out.trans (hb5.mono BF.out.size));clear hb5)
         go_ret
         exact ⟨by rw [HR.out];rfl,BB.out.trans (B5.out.mono BB.out.size)⟩
        ·have q2:(V == g2)=false:=beq_eq_false_iff_ne.2 hV2
         have hF:F b i=true:=by
          have hb:¬ begT g x:=fun h=>hV1 (HV.out.trans h.2)
          have hb2:¬ begT g2 x:=fun h=>hV2 (HV.out.trans h.2)
          rw [hFZ.out,HZ.out,decide_eq_false hb,decide_eq_false hb2]
          rfl
         have HF:=Lh (STEP.out hF)
         clear h8 hV1 hV2 hF
         go_wp2_with (go_at_call 56;refine (NX.out _).mono ?_;rintro e w5 ⟨rfl,hb5⟩;have B5:=Lh (BF.out.trans (hb5.mono BF.out.size));clear hb5)
         go_roundw
         case rel=>exact ⟨j + 1,by omega,by go_num,HF.out,B5.out⟩
         all_goals (try case measure=>simp [intOf];omega)
      ·have q8:(x8 == 1)=false:=beq_eq_false_iff_ne.2 h8
       have hF:F b i=true:=by
        have hb:¬ begT g x:=fun h=>h8 (HX8.out.trans h.1)
        have hb2:¬ begT g2 x:=fun h=>h8 (HX8.out.trans h.1)
        rw [hFZ.out,HZ.out,decide_eq_false hb,decide_eq_false hb2]
        rfl
       have HF:=Lh (STEP.out hF)
       clear h8 hF
       go_wp2
       go_roundw
       case rel=>exact ⟨j + 1,by omega,by go_num,HF.out,BF.out⟩
       all_goals (try case measure=>simp [intOf];omega))
  ·have hje:j=2 * K:=by have:=HJ.out;omega
   have hjA:¬ (j:Int) < 2 * A:=by rw [HK.out];omega
   have hR:R=true:=OK.out fun b' i' h1 h2=>ALL.out b' i' h1 (by rw [HK.out] at h2;omega) (by
    rw [HK.out] at h2
    rcases (by omega:b'=0∨b'=1) with rfl | rfl <;> omega)
   have HR:=Lh hR
   clear hje hR
   go_wp2
   go_ret
   exact ⟨by rw [HR.out];rfl,BB.out.trans (BR.out.mono BB.out.size)⟩
def hdT (g:Int):Txt:=digs 8 g ++ [1]
theorem hdT_row (g:Int):rowTo [g,1] [8,1] 2=hdT g:=by
 have h:rowTo [g,1] [8,1] 2=(([] ++ digs 8 g) ++ digs 1 1):=rfl
 rw [h]
 simp [digs,hdT]
theorem hdT_length (g:Int):(hdT g).length=9:=by simp [hdT,digs_length]
theorem hdT_byte (g:Int):∀ z ∈ hdT g,isByte z:=fun z hz=>by
 rcases List.mem_append.1 hz with h | h
 ·exact digs_byte _ _ z h
 ·rw [List.mem_singleton.1 h];exact ⟨by decide,by decide⟩
theorem fits2 {g:Int} (hg:isG g):fitsTo [g,1] [8,1] 2=true:=by
 have h1:g / 256 ^ 8=0:=Int.ediv_eq_zero_of_lt hg.1 (by rw [show (256:Int) ^ 8=18446744073709551616 by decide];exact hg.2)
 show ((true && decide (g / 256 ^ 8=0)) && decide ((1:Int) / 256 ^ 1=0))=true
 rw [h1]
 decide
theorem beg_take {g:Int} {x:Txt} (hg:isG g) (hx:x.length=32) (hb:∀ z ∈ x,isByte z):(x.take 9=hdT g)↔begT g x:=by
 have e:x.take 9=x.take 8 ++ [x.getD 8 0]:=by
  rw [show (9:Nat)=8 + 1 from rfl,List.take_add_one,gtD,geE (by omega)]
  rfl
 have l8:(x.take 8).length=8:=by rw [List.length_take];omega
 have hdv:digs 8 (val (x.take 8))=x.take 8:=by
  have:=digs_val (x.take 8) (fun z hz=>hb z (List.mem_of_mem_take hz))
  rw [l8] at this
  exact this
 unfold begT hdT
 rw [e]
 constructor
 ·intro h
  have:=List.append_inj h (by rw [l8,digs_length])
  exact ⟨by simpa using this.2,by rw [this.1];exact val_digs 8 g hg.1 (Int.ediv_eq_zero_of_lt hg.1 (by rw [show (256:Int) ^ 8=18446744073709551616 by decide];exact hg.2))⟩
 ·rintro ⟨h1,h2⟩
  rw [h1,← h2,hdv]
theorem phas_any (A:Option Addr) (c:Nat) (x:Txt) (A':Option Addr) (c':Nat) (y:Txt) (w:World) (hx:Arg w .u8 A 32 c x) (hy:Arg w .u8 A' 9 c' y) (bx:∀ z ∈ x,isByte z) (by_:∀ z ∈ y,isByte z) :
  Calls Tryz.prog 163 #[.slice A 32 c,.slice A' 9 c'] w fun e w'=>e=.returned (.bool (decide (x.take 9=y)))∧w'=w:=by
 have hl:=hx.len
 obtain ⟨b,o,rfl,_,_⟩:=hx.seq 0 (.int .u8 (x.getD 0 0)) (ints_getD .u8 x 0 (by omega))
 have hp:=hx.piece (lo:=0) (hi:=9) (by omega) (by omega)
 rw [Nat.add_zero,Nat.sub_zero,Nat.sub_zero,List.drop_zero] at hp
 have EQ:=Lh (pequal11_any (some ⟨b,o,none⟩) 9 c (x.take 9) A' 9 c' y w hp hy (fun z hz=>bx z (List.mem_of_mem_take hz)) by_)
 have hc:32≤c∧c≤maxLen:=⟨hx.cap,hx.max⟩
 unfold maxLen at hc
 have hc9:¬ (c:Int) < 9:=by omega
 obtain ⟨R,hR⟩:∃ R,R=decide (x.take 9=y):=⟨_,rfl⟩
 rw [← hR] at EQ ⊢
 clear hR hx hy bx by_ hl hp
 go_enter Tryz.func163,Tryz.ntmps163
 go_wp2_with fail
 refine EQ.out.mono ?_
 rintro e w1 ⟨rfl,rfl⟩
 clear EQ
 go_wp2
 go_ret
 exact ⟨rfl,rfl⟩
theorem pbeg_any (A:Option Addr) (c:Nat) (x:Txt) (gen:Int) (w:World) (hx:Arg w .u8 A 32 c x) (bx:∀ z ∈ x,isByte z) (hg:isG gen) :
  Calls Tryz.prog 129 #[.slice A 32 c,.int .u64 gen] w fun e w'=>e=.returned (.bool (decide (begT gen x)))∧Below w.heap.size w w':=by
 have hd:decide (begT gen x)=decide (x.take 9=hdT gen):=by rw [decide_eq_decide];exact (beg_take hg hx.len bx).symm
 rw [hd]
 have h1:Below w.heap.size w (w.alloc (.cells #[.int .u64 gen,.int .u64 1] 27)):=(Below.refl _ _).alloc (Nat.le_refl _) _
 have L1:=lit_row w 27 .u64 [gen,1] #[.int .u64 gen,.int .u64 1] w.heap.size (w.heap.size + 1) rfl rfl (Nat.lt_succ_self _)
 have h2:Below (w.alloc (.cells #[.int .u64 gen,.int .u64 1] 27)).heap.size (w.alloc (.cells #[.int .u64 gen,.int .u64 1] 27)) ((w.alloc (.cells #[.int .u64 gen,.int .u64 1] 27)).alloc (.cells #[.int .i64 8,.int .i64 1] 3)):=(Below.refl _ _).alloc (Nat.le_refl _) _
 have L2:=lit_row (w.alloc (.cells #[.int .u64 gen,.int .u64 1] 27)) 3 .i64 [8,1] #[.int .i64 8,.int .i64 1] (w.heap.size + 1) ((w.alloc (.cells #[.int .u64 gen,.int .u64 1] 27)).alloc (.cells #[.int .i64 8,.int .i64 1] 3)).heap.size rfl (by rw [World.size_alloc]) (by simp)
 have L1:=(L1.below (h2.mono (by simp))).more (B':=((w.alloc (.cells #[.int .u64 gen,.int .u64 1] 27)).alloc (.cells #[.int .i64 8,.int .i64 1] 3)).heap.size) (by simp)
 have hb:=h1.trans (h2.mono h1.size)
 obtain ⟨w1,hw1⟩:∃ y,y=(w.alloc (.cells #[.int .u64 gen,.int .u64 1] 27)).alloc (.cells #[.int .i64 8,.int .i64 1] 3):=⟨_,rfl⟩
 rw [← hw1] at L1 L2 hb
 have W1:=show ∀ z ∈ [gen,1],isWord z by
  intro z hz
  have h0:=hg.1
  have h9:=hg.2
  simp only [List.mem_cons,List.not_mem_nil,or_false] at hz
  unfold isWord
  rcases hz with rfl | rfl <;> omega
 have WR:=Lh (write_ok (some ⟨w.heap.size,0,none⟩) (some ⟨w.heap.size + 1,0,none⟩) 2 2 2 2 [gen,1] [8,1] w1 L2 rfl (by decide) L1 rfl rfl W1)
 have FT:=Lh (show fitsTo [gen,1] [8,1] [8,1].length=true from fits2 hg)
 have AX:=Lh (hx.below hb)
 have BX:=Lh bx
 have BB:=Lh hb
 have HD:=Lh (hdT_row gen)
 clear hd h1 L1 h2 L2 hb W1 hx bx hg
 go_enter Tryz.func129,Tryz.ntmps129
 go_wp2_with fail
 rw [← hw1]
 clear hw1
 refine WR.out.mono ?_
 intro e w2 hout
 obtain ⟨A2,c2,rfl,hown,hb⟩:=(WroteOut.yes hout FT.out).len (zs':=hdT gen) (n:=9) HD.out (hdT_length _)
 have PX:=Lh (phas_any A c x A2 c2 (hdT gen) w2 (AX.out.below hb) (Arg.own hown) BX.out (hdT_byte gen))
 have BB:=Lh (BB.out.trans (hb.mono BB.out.size))
 clear hout hown hb WR FT HD
 go_wp2_with fail
 refine PX.out.mono ?_
 rintro e w3 ⟨rfl,rfl⟩
 clear PX
 go_wp2
 go_ret
 exact ⟨rfl,BB.out⟩
theorem str_none {A:Int} {S:List Sec} {C:List Pnd} {m:Mt} {a k:Int} (h:optAt S C (2 + a * A + k)=none):strB A S C m a k=false:=by unfold strB;rw [h]
theorem str_some {A:Int} {S:List Sec} {C:List Pnd} {m:Mt} {a k:Int} {x:Txt} (h:optAt S C (2 + a * A + k)=some x):strB A S C m a k=(decide (begT m.s.2.2 x) || decide (begT (nextM m) x)):=by unfold strB;rw [h]
theorem pstray_any (P T A M W Q:Int) (D:Option Addr) (nd d:Nat) (D':Option Addr) (nd' d':Nat) (S:List Sec) (C:List Pnd) (v a g n u:Int) (B:Option Addr) (k c:Nat) (t:List Rc) (ar:Int) (j:Int) (w:World) (hq:Dsk w D nd d D' nd' d' S C) (hs:SmallD S C) (hm:mayC P T A M W Q) (hkm:mayM P T A M W Q ⟨(v,a,g),n,u,t⟩) (hi:isS (v,a,g)) (har:arJ ar) (hj:0≤j∧j < A) :
  Calls Tryz.prog 83 #[ldV P T A M W Q D nd d D' nd' d' v a g n u B k c,.int .i64 ar,.int .i64 j] w fun e w'=>e=.returned (.bool (strB A S C ⟨(v,a,g),n,u,t⟩ ar j))∧Below w.heap.size w w':=by
 obtain ⟨x,hbel⟩:=led_box w P T A M W Q D nd d D' nd' d' v a g n u B k c
 obtain ⟨w1,hw1⟩:∃ y,y=w.alloc (.cells #[.int .i64 P,.int .i64 T,.int .i64 A,.int .i64 M,.int .i64 W,.int .i64 Q,.slice D nd d,.slice D' nd' d',.int .u32 v,.int .i64 a,.int .u64 g,.int .i64 n,.int .i64 u,.slice B k c] 90):=⟨_,rfl⟩
 rw [← hw1] at x hbel
 have X:=Lh x
 have BB:=Lh hbel
 have DQ:=Lh (hq.below hbel)
 have hE:areE P T A M W Q ar j=0:=by
  unfold areE
  rw [if_pos hm,if_pos ⟨har.1,har.2,hj.1,by omega⟩]
 have hN:areN P T A M W Q ar j=2 + ar * A + j:=by
  unfold areN
  rw [if_pos hm,if_pos ⟨har.1,har.2,hj.1,by omega⟩]
 have AR:=Lh (fun wx=>parea_any P T A M W Q ar j wx)
 rw [hE,hN] at AR
 have RD:=Lh (fun wx hx=>dsk_does.read D nd d D' nd' d' S C (2 + ar * A + j) wx hx hs)
 unfold BytesOut at RD
 have hv0:0≤v∧v < 4294967296:=hi.1
 have hu0:0≤u∧u≤65535:=hkm.2.2.2.1
 have NX:=Lh (fun wx=>pnext_any P T A M W Q D nd d D' nd' d' v a g n u B k c wx hv0 hu0)
 have hg2:isG (65536 * v + u + 1):=⟨by omega,by omega⟩
 obtain ⟨at0,hat⟩:∃ y,y=2 + ar * A + j:=⟨_,rfl⟩
 obtain ⟨g2,hge⟩:∃ y,y=65536 * v + u + 1:=⟨_,rfl⟩
 have SN:=fun h=>str_none (A:=A) (S:=S) (C:=C) (m:=⟨(v,a,g),n,u,t⟩) (a:=ar) (k:=j) h
 have SS:=fun x h=>str_some (A:=A) (S:=S) (C:=C) (m:=⟨(v,a,g),n,u,t⟩) (a:=ar) (k:=j) (x:=x) h
 rw [show nextM ⟨(v,a,g),n,u,t⟩=g2 from hge.symm] at SS
 dsimp only at SS
 rw [← hat] at AR RD SN SS
 rw [← hge] at NX hg2
 obtain ⟨R,hR⟩:∃ y,y=strB A S C ⟨(v,a,g),n,u,t⟩ ar j:=⟨_,rfl⟩
 rw [← hR] at SN SS ⊢
 obtain ⟨E,hEE⟩:∃ y,y=rdE S C at0:=⟨_,rfl⟩
 obtain ⟨tx,htx⟩:∃ y,y=rdB S C at0:=⟨_,rfl⟩
 have hgood:=fun h=>rd_good (at_:=at0) h hq.secs.byte hq.pnds.byte
 have hopt:optAt S C at0=if E=0 then some tx else none:=by rw [hEE,htx];rfl
 rw [← hEE,← htx] at RD hgood
 obtain ⟨c0,c1,c2,c3,c4,c5,c6,c7,d0,d1,d2,d3,d4,d5⟩:=x.led
 clear x hbel hq hs hm hkm har hj hE hN hv0 hu0 hat hge hR hEE htx
 by_cases h0:E=0
 ·rw [if_pos h0] at hopt
  subst h0
  obtain ⟨hl,hby⟩:=hgood rfl
  have HG:=Lh (And.intro hl hby)
  have SR:=SS tx hopt
  rw [hl] at RD
  clear SN SS hopt hl hby hgood
  by_cases h1:begT g tx
  ·have hB:=decide_eq_true h1
   rw [hB,Bool.true_or] at SR
   subst SR
   go_enter Tryz.func83,Tryz.ntmps83
   go_wp2_with fail
   rw [← hw1]
   clear hw1
   refine (AR.out _).mono ?_
   rintro e w2 ⟨rfl,hb⟩
   have X:=Lh (X.out.below hb X.out.lt)
   have BB:=Lh (BB.out.trans (hb.mono BB.out.size))
   have DQ:=Lh (DQ.out.below hb)
   clear hb AR c0 c1 c2 c3 c4 c5 c6 c7 d0 d1 d2 d3 d4 d5
   obtain ⟨c0,c1,c2,c3,c4,c5,c6,c7,d0,d1,d2,d3,d4,d5⟩:=X.out.led
   go_wp2_with fail
   refine (RD.out _ DQ.out).mono ?_
   rintro e w3 ⟨A3,x3,rfl,hown,hb⟩
   have TX:=Lh (Arg.own hown)
   have X:=Lh (X.out.below hb X.out.lt)
   have BB:=Lh (BB.out.trans (hb.mono BB.out.size))
   clear hown hb RD c0 c1 c2 c3 c4 c5 c6 c7 d0 d1 d2 d3 d4 d5
   obtain ⟨c0,c1,c2,c3,c4,c5,c6,c7,d0,d1,d2,d3,d4,d5⟩:=X.out.led
   go_wp2_with fail
   refine (pbeg_any A3 x3 tx g _ TX.out HG.out.2 hi.2).mono ?_
   rw [hB]
   rintro e w4 ⟨rfl,hb⟩
   have X:=Lh (X.out.below hb X.out.lt)
   have BB:=Lh (BB.out.trans (hb.mono BB.out.size))
   have TX:=Lh (TX.out.below hb)
   clear hb hB h1 c0 c1 c2 c3 c4 c5 c6 c7 d0 d1 d2 d3 d4 d5
   obtain ⟨c0,c1,c2,c3,c4,c5,c6,c7,d0,d1,d2,d3,d4,d5⟩:=X.out.led
   go_wp2
   go_ret
   exact ⟨rfl,BB.out⟩
  ·have hB:=decide_eq_false h1
   rw [hB,Bool.false_or] at SR
   subst SR
   go_enter Tryz.func83,Tryz.ntmps83
   go_wp2_with fail
   rw [← hw1]
   clear hw1
   refine (AR.out _).mono ?_
   rintro e w2 ⟨rfl,hb⟩
   have X:=Lh (X.out.below hb X.out.lt)
   have BB:=Lh (BB.out.trans (hb.mono BB.out.size))
   have DQ:=Lh (DQ.out.below hb)
   clear hb AR c0 c1 c2 c3 c4 c5 c6 c7 d0 d1 d2 d3 d4 d5
   obtain ⟨c0,c1,c2,c3,c4,c5,c6,c7,d0,d1,d2,d3,d4,d5⟩:=X.out.led
   go_wp2_with fail
   refine (RD.out _ DQ.out).mono ?_
   rintro e w3 ⟨A3,x3,rfl,hown,hb⟩
   have TX:=Lh (Arg.own hown)
   have X:=Lh (X.out.below hb X.out.lt)
   have BB:=Lh (BB.out.trans (hb.mono BB.out.size))
   clear hown hb RD c0 c1 c2 c3 c4 c5 c6 c7 d0 d1 d2 d3 d4 d5
   obtain ⟨c0,c1,c2,c3,c4,c5,c6,c7,d0,d1,d2,d3,d4,d5⟩:=X.out.led
   go_wp2_with fail
   refine (pbeg_any A3 x3 tx g _ TX.out HG.out.2 hi.2).mono ?_
   rw [hB]
   rintro e w4 ⟨rfl,hb⟩
   have X:=Lh (X.out.below hb X.out.lt)
   have BB:=Lh (BB.out.trans (hb.mono BB.out.size))
   have TX:=Lh (TX.out.below hb)
   clear hb hB h1 c0 c1 c2 c3 c4 c5 c6 c7 d0 d1 d2 d3 d4 d5
   obtain ⟨c0,c1,c2,c3,c4,c5,c6,c7,d0,d1,d2,d3,d4,d5⟩:=X.out.led
   go_wp2_with fail
   refine (NX.out _).mono ?_
   rintro e w5 ⟨rfl,hb⟩
   have BB:=Lh (BB.out.trans (hb.mono BB.out.size))
   have TX:=Lh (TX.out.below hb)
   clear hb NX c0 c1 c2 c3 c4 c5 c6 c7 d0 d1 d2 d3 d4 d5
   go_wp2_with fail
   refine (pbeg_any A3 x3 tx g2 _ TX.out HG.out.2 hg2).mono ?_
   rintro e w6 ⟨rfl,hb⟩
   have BB:=Lh (BB.out.trans (hb.mono BB.out.size))
   clear hb
   go_wp2
   go_ret
   exact ⟨rfl,BB.out⟩
 ·rw [if_neg h0] at hopt
  have SR:=SN hopt
  subst SR
  have hz:(E == 0)=false:=beq_eq_false_iff_ne.2 h0
  clear SN SS hopt hgood h0
  go_enter Tryz.func83,Tryz.ntmps83
  go_wp2_with fail
  rw [← hw1]
  clear hw1
  refine (AR.out _).mono ?_
  rintro e w2 ⟨rfl,hb⟩
  have X:=Lh (X.out.below hb X.out.lt)
  have BB:=Lh (BB.out.trans (hb.mono BB.out.size))
  have DQ:=Lh (DQ.out.below hb)
  clear hb AR c0 c1 c2 c3 c4 c5 c6 c7 d0 d1 d2 d3 d4 d5
  obtain ⟨c0,c1,c2,c3,c4,c5,c6,c7,d0,d1,d2,d3,d4,d5⟩:=X.out.led
  go_wp2_with fail
  refine (RD.out _ DQ.out).mono ?_
  rintro e w3 ⟨A3,x3,rfl,hown,hb⟩
  have TX:=Lh (Arg.own hown)
  have X:=Lh (X.out.below hb X.out.lt)
  have BB:=Lh (BB.out.trans (hb.mono BB.out.size))
  clear hown hb RD c0 c1 c2 c3 c4 c5 c6 c7 d0 d1 d2 d3 d4 d5
  obtain ⟨c0,c1,c2,c3,c4,c5,c6,c7,d0,d1,d2,d3,d4,d5⟩:=X.out.led
  go_wp2
  go_ret
  exact ⟨rfl,BB.out⟩
end Go.Proofs.YtifgcfepbenpjaaGreat
