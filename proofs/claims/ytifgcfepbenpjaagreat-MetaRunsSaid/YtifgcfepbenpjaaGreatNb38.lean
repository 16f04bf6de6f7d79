/- Texts of layers 1 to 12, joined. -/
import Derived.Test.YtifgcfepbenpjaaGreatNb36
import Derived.Test.YtifgcfepbenpjaaGreatNb37
set_option maxRecDepth 100000
set_option maxHeartbeats 12800000
set_option linter.unusedVariables false
namespace Go.Proofs.YtifgcfepbenpjaaGreat
open Go.RowKit Go.Maps
theorem texts_lit1 {w:World} {A:Option Addr} {k c:Nat} {z:Txt} (h:Arg w .u8 A k c z) (hz:∀ y ∈ z,isByte y):Texts (w.alloc (.cells #[.slice A k c] 42)) (some ⟨w.heap.size,0,none⟩) 1 1 [z] :=
 ⟨rfl,Nat.le_refl _,by decide,by simpa using hz,fun i hi=>by
  obtain rfl:i=0:=by omega
  have y:=Blk.new w 42 [.slice A k c]
  exact ⟨_,0,A,k,c,rfl,y.lt,(y.cell 0).trans rfl,h.below ((Below.refl _ _).alloc (Nat.le_refl _) _)⟩⟩
theorem take_getD {t:List Rc} {k i:Nat} (hi:i < k):(t.take k).getD i zR=t.getD i zR:=by
 rw [gtD,List.getElem?_take_of_lt hi,gtD]
theorem mayr_more {t:List Rc} {k:Nat} (hk:k < t.length) (h:mayTab (t.take k)) (hr:mayR (t.getD k zR)) (hp:0 < k→(t.getD (k - 1) zR).p < (t.getD k zR).p):mayTab (t.take (k + 1)):=by
 rw [mayTab_idx] at h ⊢
 intro y hy
 rw [List.length_take] at hy
 rcases Nat.lt_or_ge y k with hyk | hyk
 ·have h1:=h y (by rw [List.length_take];omega)
  rw [take_getD hyk] at h1
  rw [take_getD (by omega)]
  refine ⟨h1.1,fun h0=>?_⟩
  have h2:=h1.2 h0
  rw [take_getD (by omega)] at h2
  rw [take_getD (by omega)]
  exact h2
 ·obtain rfl:y=k:=by omega
  rw [take_getD (by omega)]
  refine ⟨hr,fun h0=>?_⟩
  rw [take_getD (by omega)]
  exact hp h0
theorem take_more {t:List Rc} {k:Nat} (hk:k < t.length):t.take (k + 1)=t.take k ++ [t.getD k zR]:=by
 rw [List.take_succ_eq_append_getElem hk]
 simp [List.getD_eq_getElem?_getD,hk]
theorem find_more {M:List Rc} {r:Rc} (h:mayTab (M ++ [r])) (p:Int):fR (M ++ [r]) p=if p=r.p then some r else fR M p:=by
 have h':=(mayTab_iff _).1 h
 have hM:mayTab M:=(mayTab_iff _).2 ⟨fun x hx=>h'.1 x (List.mem_append_left _ hx),(List.pairwise_append.1 h'.2).1⟩
 rw [← with_snoc h]
 exact with_find hM (h'.1 r (List.mem_append_right _ (List.mem_singleton.2 rfl))) p
def OfTab (w:World) (n:Nat) (t:List Rc) (e:Ending) (w':World):Prop:=((mayTab t∧∃ B,e=.returned (.tuple #[.map (some B),.int .i64 0])∧TabAt w' B n t∧w.heap.size≤B)∨(¬ mayTab t∧e=.returned (.tuple #[.map none,.int .i64 110])))∧Below w.heap.size w w'
theorem ptableof_any (A:Option Addr) (n c:Nat) (t:List Rc) (w:World) (ht:Recs w A n c t) (hn:n≤1000) :
  Calls Tryz.prog 67 #[.slice A n c] w (OfTab w n t):=by
 have hmm:=@run_makeMap Tryz.prog
 have hlen:=ht.len
 have HT:=Lh ht
 have IDX:=Lh (fun (h:mayTab t) k (hk:k < n)=>(mayTab_idx t).1 h k (by rw [hlen];exact hk))
 have HLN:=Lh hlen
 have ALL:=Lh (show t.take n=t by rw [← hlen,List.take_length])
 clear ht hlen
 unfold OfTab
 go_enter Tryz.func67,Tryz.ntmps67
 go_wp2
 go_loopw [11] (fun i wr=>∃ k:Nat,k≤n∧i=.int .i64 k∧mayTab (t.take k)∧TabAt wr w.heap.size k (t.take k)∧Below w.heap.size w wr) (fun i _=>n - (intOf i).toNat)
 case atStart=>exact ⟨0,Nat.zero_le _,rfl,trivial,TabAt.made w,(Below.refl _ _).alloc (Nat.le_refl _) _⟩
 case round =>
  clear hmm
  obtain ⟨k,hk,rfl,hmy,hT,hbw⟩:=hrel
  have hmax:k < maxLen:=by unfold maxLen;omega
  have TT:=Lh hT
  have BW:=Lh hbw
  have MY:=Lh hmy
  clear hT hbw hmy
  by_cases hkn:k < n
  ·have hki:(k:Int) < (n:Int):=by omega
   have HTR:=HT.out.below BW.out
   obtain ⟨b,o,rfl,hlt,d0,d1,d2,d3,d4,d5,d6,d7⟩:=HTR.row hkn
   have his:=HTR.is_at hkn
   have TM:=Lh (take_more (t:=t) (k:=k) (by rw [HLN.out];exact hkn))
   have MM:=Lh (mayr_more (t:=t) (k:=k) (by rw [HLN.out];exact hkn) MY.out)
   have IX:=Lh (fun h=>IDX.out h k hkn)
   obtain ⟨r,hr⟩:∃ r,r=t.getD k zR:=⟨_,rfl⟩
   rw [← hr] at d0 d1 d2 d3 d4 d5 d6 d7 his TM MM IX
   obtain ⟨x,hbx⟩:=rec_box wr r
   have x:=Lh x
   have BX:=Lh hbx
   have CK:=Lh (fun wx=>pcheck11_any r wx his)
   have HIS:=Lh his
   clear his hr
   obtain ⟨w1,hw1⟩:∃ y,y=wr.alloc (.cells #[.int .i64 r.p,.int .u32 r.b,.int .u32 r.e,.int .i64 r.l,.int .u8 r.h,.int .i64 r.f,.bool r.q,.bool r.a] 64):=⟨_,rfl⟩
   have hx:=x.out
   rw [← hw1] at hx hbx
   have X1:=Lh hx
   have T1:=Lh (TT.out.below hbx)
   have B1:=Lh (BW.out.trans (hbx.mono BW.out.size))
   have hltx:wr.heap.size < w1.heap.size:=hx.lt
   have R1:=HTR.below hbx
   obtain ⟨c0,c1,c2,c3,c4,c5,c6,c7⟩:=hx.rec
   clear x BX hx hbx HTR
   by_cases hk0:k=0
   ·have hd:decide (0 < k)=false:=decide_eq_false (by omega)
    have HK0:=Lh hk0
    clear hk0
    go_upto_region 5 with fail
    rw [← hw1]
    clear hw1 d0 d1 d2 d3 d4 d5 d6 d7
    go_quiet (fail)
    have hbq:Below w1.heap.size w1 (w1.drewN nq):=below_drewN (Below.refl _ _) nq
    obtain ⟨w2,hw2⟩:∃ y,y=w1.drewN nq:=⟨_,rfl⟩
    rw [← hw2] at hbq ⊢
    have X2:=Lh (X1.out.below hbq hltx)
    have T2:=Lh (T1.out.below hbq)
    have B2:=Lh (B1.out.trans (hbq.mono B1.out.size))
    clear hw2 hbq c0 c1 c2 c3 c4 c5 c6 c7 X1 T1 B1 R1
    have hx2:=X2.out
    obtain ⟨c0,c1,c2,c3,c4,c5,c6,c7⟩:=hx2.rec
    clear hx2
    by_cases hm:mayR r
    ·have CK:=Lh (show ∀ wx,Calls Tryz.prog 73 #[recV r] wx fun e w'=>e=.returned (.int .i64 0)∧Below wx.heap.size wx w' from by have h:=CK.out;rw [show rcE r=0 from if_pos hm] at h;exact h)
     have MK:=Lh (MM.out hm (fun h=>absurd h (by have:=HK0.out;omega)))
     have HMR:=Lh hm
     clear hm
     go_wp2_with fail
     refine (CK.out _).mono ?_
     rintro e w3 ⟨rfl,hb3⟩
     have X3:=X2.out.below hb3 X2.out.lt
     have T3:=Lh (T2.out.below hb3)
     have B3:=Lh (B2.out.trans (hb3.mono B2.out.size))
     clear c0 c1 c2 c3 c4 c5 c6 c7 hb3
     obtain ⟨c0,c1,c2,c3,c4,c5,c6,c7⟩:=X3.rec
     clear X3
     have HF:=Lh (show ∀ p,fR (t.take (k + 1)) p=if p=r.p then some r else fR (t.take k) p from fun p=>by have h:=MK.out;rw [TM.out] at h ⊢;exact find_more h p)
     go_wp2_with (first
      | (at_mapUpdate;refine wpList_tab_put _ rfl _ _ _ rfl w.heap.size k (t.take k) (t.take (k + 1)) rfl T3.out hmax r HIS.out (wf_pair HMR.out.1.1 HMR.out.1.2.1) rfl rfl HF.out ?_;intro w5 hT5 hG5;have T5:=Lh hT5;have G5:=Lh hG5;clear hT5 hG5)
      | go_in)
     go_roundw
     case rel=>exact ⟨k + 1,by omega,by go_num,MK.out,T5.out,B3.out.grown G5.out B3.out.size (fun j hj=>by injection hj with hj;omega)⟩
     case measure=>simp [intOf];omega
    ·have CK:=Lh (show ∀ wx,Calls Tryz.prog 73 #[recV r] wx fun e w'=>e=.returned (.int .i64 110)∧Below wx.heap.size wx w' from by have h:=CK.out;rw [show rcE r=110 from if_neg hm] at h;exact h)
     have NM:=Lh (show ¬ mayTab t from fun h=>hm (IX.out h).1)
     clear hm
     go_wp2_with fail
     refine (CK.out _).mono ?_
     rintro e w3 ⟨rfl,hb3⟩
     have B3:=Lh (B2.out.trans (hb3.mono B2.out.size))
     clear c0 c1 c2 c3 c4 c5 c6 c7 hb3
     go_wp2
     go_ret2
     exact ⟨.inr ⟨NM.out,rfl⟩,B3.out⟩
   ·obtain ⟨J,hJ⟩:∃ J,J=k - 1:=⟨_,rfl⟩
    have hd:decide (0 < k)=true:=decide_eq_true (by omega)
    have hJn:(J:Int) < (n:Int):=by omega
    have hJk:IntKind.i64.wrap ((k:Int) - 1)=(J:Int):=by rw [IntKind.wrap_i64];omega
    obtain ⟨b',o',e',_,g0,_⟩:=R1.row (i:=J) (by omega)
    injection e' with e';injection e' with e1' e2' _;subst e1';subst e2'
    rw [← hJ] at MM IX
    obtain ⟨s,hs⟩:∃ s,s=t.getD J zR:=⟨_,rfl⟩
    rw [← hs] at MM IX g0
    have HK0:=Lh (show 0 < k by omega)
    clear hs hJ hk0
    by_cases hle:r.p≤s.p
    ·have NM:=Lh (show ¬ mayTab t from fun h=>by have:=(IX.out h).2 HK0.out;omega)
     have hle2:decide (r.p≤s.p)=true:=decide_eq_true hle
     clear hle
     go_upto_region 5 with fail
     rw [← hw1]
     clear hw1 d0 d1 d2 d3 d4 d5 d6 d7
     go_quiet (fail)
     have hbq:Below w1.heap.size w1 (w1.drewN nq):=below_drewN (Below.refl _ _) nq
     obtain ⟨w2,hw2⟩:∃ y,y=w1.drewN nq:=⟨_,rfl⟩
     rw [← hw2] at hbq ⊢
     have X2:=Lh (X1.out.below hbq hltx)
     have T2:=Lh (T1.out.below hbq)
     have B2:=Lh (B1.out.trans (hbq.mono B1.out.size))
     clear hw2 hbq c0 c1 c2 c3 c4 c5 c6 c7 X1 T1 B1 R1 g0
     go_wp2
     go_ret2
     exact ⟨.inr ⟨NM.out,rfl⟩,B2.out⟩
    ·have LT:=Lh (show s.p < r.p by omega)
     have hle2:decide (r.p≤s.p)=false:=decide_eq_false hle
     clear hle
     go_upto_region 5 with fail
     rw [← hw1]
     clear hw1 d0 d1 d2 d3 d4 d5 d6 d7
     go_quiet (fail)
     have hbq:Below w1.heap.size w1 (w1.drewN nq):=below_drewN (Below.refl _ _) nq
     obtain ⟨w2,hw2⟩:∃ y,y=w1.drewN nq:=⟨_,rfl⟩
     rw [← hw2] at hbq ⊢
     have X2:=Lh (X1.out.below hbq hltx)
     have T2:=Lh (T1.out.below hbq)
     have B2:=Lh (B1.out.trans (hbq.mono B1.out.size))
     clear hw2 hbq c0 c1 c2 c3 c4 c5 c6 c7 X1 T1 B1 R1 g0
     have hx2:=X2.out
     obtain ⟨c0,c1,c2,c3,c4,c5,c6,c7⟩:=hx2.rec
     clear hx2
     by_cases hm:mayR r
     ·have CK:=Lh (show ∀ wx,Calls Tryz.prog 73 #[recV r] wx fun e w'=>e=.returned (.int .i64 0)∧Below wx.heap.size wx w' from by have h:=CK.out;rw [show rcE r=0 from if_pos hm] at h;exact h)
      have MK:=Lh (MM.out hm (fun _=>LT.out))
      have HMR:=Lh hm
      clear hm
      go_wp2_with fail
      refine (CK.out _).mono ?_
      rintro e w3 ⟨rfl,hb3⟩
      have X3:=X2.out.below hb3 X2.out.lt
      have T3:=Lh (T2.out.below hb3)
      have B3:=Lh (B2.out.trans (hb3.mono B2.out.size))
      clear c0 c1 c2 c3 c4 c5 c6 c7 hb3
      obtain ⟨c0,c1,c2,c3,c4,c5,c6,c7⟩:=X3.rec
      clear X3
      have HF:=Lh (show ∀ p,fR (t.take (k + 1)) p=if p=r.p then some r else fR (t.take k) p from fun p=>by have h:=MK.out;rw [TM.out] at h ⊢;exact find_more h p)
      go_wp2_with (first
       | (at_mapUpdate;refine wpList_tab_put _ rfl _ _ _ rfl w.heap.size k (t.take k) (t.take (k + 1)) rfl T3.out hmax r HIS.out (wf_pair HMR.out.1.1 HMR.out.1.2.1) rfl rfl HF.out ?_;intro w5 hT5 hG5;have T5:=Lh hT5;have G5:=Lh hG5;clear hT5 hG5)
       | go_in)
      go_roundw
      case rel=>exact ⟨k + 1,by omega,by go_num,MK.out,T5.out,B3.out.grown G5.out B3.out.size (fun j hj=>by injection hj with hj;omega)⟩
      case measure=>simp [intOf];omega
     ·have CK:=Lh (show ∀ wx,Calls Tryz.prog 73 #[recV r] wx fun e w'=>e=.returned (.int .i64 110)∧Below wx.heap.size wx w' from by have h:=CK.out;rw [show rcE r=110 from if_neg hm] at h;exact h)
      have NM:=Lh (show ¬ mayTab t from fun h=>hm (IX.out h).1)
      clear hm
      go_wp2_with fail
      refine (CK.out _).mono ?_
      rintro e w3 ⟨rfl,hb3⟩
      have B3:=Lh (B2.out.trans (hb3.mono B2.out.size))
      clear c0 c1 c2 c3 c4 c5 c6 c7 hb3
      go_wp2
      go_ret2
      exact ⟨.inr ⟨NM.out,rfl⟩,B3.out⟩
  ·obtain rfl:k=n:=by omega
   rw [ALL.out] at MY TT
   go_wp2
   go_ret2
   exact ⟨.inl ⟨MY.out,_,rfl,TT.out,Nat.le_refl _⟩,BW.out⟩
end Go.Proofs.YtifgcfepbenpjaaGreat
namespace Go.Proofs.YtifgcfepbenpjaaGreat
open Go.RowKit Go.Maps
theorem ptable11_any (A:Option Addr) (n c:Nat) (l:List Txt) (w:World) (hl:Texts w A n c l) (hn:n≤1000) (hs:ShortT l n) :
  Calls Tryz.prog 42 #[.slice A n c] w (PutOut w (tabR l)):=by
 have hmm:=@run_makeMap Tryz.prog
 have hb:Below w.heap.size w (w.alloc (.map #[] 0)):=(Below.refl _ _).alloc (Nat.le_refl _) _
 have W:=Lh (pwith_any w.heap.size 0 [] A n c l (w.alloc (.map #[] 0)) (by trivial) (TabAt.made w) (by omega) (hl.below hb) hn hs)
 have B:=Lh hb
 unfold PutOut
 unfold WithOut at W
 rw [show tabTo [] l=tabR l from rfl] at W
 clear hl hs hb
 go_enter Tryz.func42,Tryz.ntmps42
 go_wp2_with fail
 refine W.out.mono ?_
 rintro e w1 ⟨A1,c1,rfl,hO,hg⟩
 have O:=Lh (hO.lower B.out.size)
 have B1:=Lh (B.out.grown hg B.out.size (fun k hk=>by injection hk with hk;omega))
 clear hO hg hmm
 go_wp2
 go_ret2
 exact ⟨A1,c1,rfl,O.out,B1.out⟩
theorem tabTo_lit (t:List Rc) (b:Txt):tabTo t [b]=putR t b:=by
 show (putR t b).bind (fun x=>tabTo x [])=_
 cases putR t b <;> rfl
theorem pput11_any (A:Option Addr) (n c:Nat) (t:List Rc) (A':Option Addr) (n' c':Nat) (b:Txt) (w:World) (ht:Recs w A n c t) (hn:n≤1000) (hb:Arg w .u8 A' n' c' b) (hby:∀ z ∈ b,isByte z) (hn':n'≤100) :
  Calls Tryz.prog 35 #[.slice A n c,.slice A' n' c'] w (PutOut w (putR t b)):=by
 have T:=Lh (ptableof_any A n c t w ht hn)
 have HB:=Lh hb
 have BY:=Lh hby
 have hlen:=hb.len
 unfold OfTab at T
 unfold PutOut
 have WI:=Lh (fun (B:Nat) w1 (hm:mayTab t) (hT:TabAt w1 B n t) (hx:Arg w1 .u8 A' n' c' b)=>pwith_any B n t (some ⟨w1.heap.size,0,none⟩) 1 1 [b] (w1.alloc (.cells #[.slice A' n' c'] 42)) hm (hT.below ((Below.refl _ _).alloc (Nat.le_refl _) _)) hn (texts_lit1 hx hby) (by decide) (fun y hy=>by obtain rfl:y=0:=(by omega);show b.length≤100;omega))
 unfold WithOut at WI
 rw [tabTo_lit] at WI
 clear ht hb hby hlen
 go_enter Tryz.func35,Tryz.ntmps35
 go_wp2_with fail
 refine T.out.mono ?_
 rintro e w1 ⟨⟨hm,B,rfl,hT,hB⟩ | ⟨hm,rfl⟩,hb1⟩
 ·have B1:=Lh hb1
  have W:=Lh (WI.out B w1 hm hT (HB.out.below hb1))
  have HBB:=Lh hB
  clear hm hT hb1 hB WI
  go_wp2_with fail
  refine W.out.mono ?_
  rintro e w2 ⟨A2,c2,rfl,hO,hg⟩
  have hbl:Below w.heap.size w (w1.alloc (.cells #[.slice A' n' c'] 42)):=B1.out.alloc B1.out.size _
  have O:=Lh (hO.lower hbl.size)
  have B2:=Lh (hbl.grown hg hbl.size (fun k hk=>by injection hk with hk;have:=HBB.out;omega))
  clear hO hg hbl
  go_wp2
  go_ret2
  exact ⟨A2,c2,rfl,O.out,B2.out⟩
 ·have HX:=Lh (show putR t b=none from if_neg hm)
  have B1:=Lh hb1
  clear hm hb1 WI
  go_wp2
  go_ret2
  rw [HX.out]
  exact ⟨none,0,rfl,OwnRecs.nil _ _,B1.out⟩
theorem pnotes11_any (A:Option Addr) (n c:Nat) (t:List Rc) (w:World) (ht:Recs w A n c t) (hn:n≤1000) :
  Calls Tryz.prog 47 #[.slice A n c] w (NotesOut w (rnL t) (rnE t)):=by
 obtain ⟨i1,hi1,hy0,hy1,hy2⟩:=info_parts texts_info
 have hml:(1000:Nat)≤maxLen:=by decide
 have T:=Lh (ptableof_any A n c t w ht hn)
 have HT:=Lh ht
 have hlen:=ht.len
 unfold OfTab at T
 unfold NotesOut
 by_cases hm:mayTab t
 ·rw [show rnL t=t.map recT from if_pos hm,show rnE t=0 from if_pos hm,List.length_map,hlen]
  have MAY:=Lh (fun k (hk:k < n)=>((mayTab_idx t).1 hm k (by rw [hlen];exact hk)).1)
  have TF:=Lh (show (t.map recT).take n=t.map recT by rw [← hlen,← List.length_map (f:=recT),List.take_length])
  have TS:=Lh (fun k (hk:k < n)=>show (t.map recT).take (k + 1)=(t.map recT).take k ++ [recT (t.getD k zR)] by
   rw [List.take_succ_eq_append_getElem (by rw [List.length_map,hlen];exact hk)]
   simp [List.getD_eq_getElem?_getD,show k < t.length by rw [hlen];exact hk])
  obtain ⟨Z,hZ⟩:∃ Z,Z=t.map recT:=⟨_,rfl⟩
  rw [← hZ] at TF TS ⊢
  have HM:=Lh hm
  clear ht hm hlen hZ
  go_enter Tryz.func47,Tryz.ntmps47
  go_wp2_with fail
  refine T.out.mono ?_
  rintro e w1 ⟨⟨hm,B,rfl,hT,hB⟩ | ⟨hm,rfl⟩,hb1⟩
  ·have B1:=Lh hb1
   clear hm hT hB hb1 T
   go_wp2
   go_loopw [6,21] (fun v i wr=>∃ k:Nat,k≤n∧i=.int .i64 k∧(∃ A' c',v=.slice A' k c'∧OwnTexts wr w.heap.size A' k c' (Z.take k))∧Below w.heap.size w wr) (fun _ i _=>n - (intOf i).toNat)
   case atStart=>exact ⟨0,Nat.zero_le _,rfl,⟨none,0,rfl,OwnTexts.nil _ _⟩,B1.out⟩
   case round =>
    clear B1
    obtain ⟨k,hk,rfl,⟨A1,c1,rfl,hown⟩,hbel⟩:=hrel
    by_cases hkn:k < n
    ·have hki:(k:Int) < (n:Int):=by omega
     have HW:=HT.out.below hbel
     obtain ⟨b,o,rfl,hlt,d0,d1,d2,d3,d4,d5,d6,d7⟩:=HW.row hkn
     have his:=HW.is_at hkn
     have hmy:=MAY.out k hkn
     have hst:=TS.out k hkn
     obtain ⟨r,hr⟩:∃ r,r=t.getD k zR:=⟨_,rfl⟩
     rw [← hr] at d0 d1 d2 d3 d4 d5 d6 d7 his hmy hst
     obtain ⟨Q,hQ⟩:∃ Q,Q=Z.take k:=⟨_,rfl⟩
     rw [← hQ] at hown hst
     have HST:=Lh hst
     have NT:=Lh (show ∀ wx,Calls Tryz.prog 38 #[recV r] wx fun e w'=>∃ A c,e=.returned (.tuple #[.slice A 14 c,.int .i64 0])∧w'.ownsRow wx.heap.size 5 1 (.slice A 14 c) 14 (ints .u8 (recT r))∧Below wx.heap.size wx w' from fun wx=>by
      have h:=pnote11_any r wx his
      unfold RowOut at h
      rw [show ntB r=recT r from if_pos hmy,show rcE r=0 from if_pos hmy,recT_length] at h
      exact h)
     obtain ⟨x,hbx⟩:=rec_box wr r
     obtain ⟨c0,c1',c2',c3,c4,c5,c6,c7⟩:=x.rec
     have O:=Lh (hown.below hbx)
     have B:=Lh (hbel.trans (hbx.mono hbel.size))
     clear hr hQ hown hbel his hmy hst HW x hbx
     go_wp2_with fail
     refine (NT.out _).mono ?_
     rintro e w2 ⟨A2,c2,rfl,hown2,hb2⟩
     have O2:=Lh (owns_base hown2 B.out.size)
     have O1:=Lh (O.out.below hb2)
     have B2:=Lh (B.out.trans (hb2.mono B.out.size))
     clear hown2 hb2 d0 d1 d2 d3 d4 d5 d6 d7 c0 c1' c2' c3 c4 c5 c6 c7
     go_wp2_with (at_builtin;(refine wpList_text w w2 rfl (.tmp 30) (.tmp 32) _ rfl i1 _ Tryz.underlying103 hi1 hy0 hy1 hy2 rfl w.heap.size A1 k c1 Q rfl O1.out A2 14 c2 (recT r) (recT_byte r) O2.out rfl (by omega) (by omega) B2.out (Nat.le_refl _) ?_);intro A3 c3 w3 hown3 hbel3;have O3:=Lh hown3;have B3:=Lh hbel3;clear hown3 hbel3)
     go_roundw
     case rel=>exact ⟨k + 1,by omega,by go_num,⟨A3,c3,rfl,by rw [HST.out];exact O3.out⟩,B3.out⟩
     case measure=>simp [intOf];omega
    ·obtain rfl:k=n:=by omega
     rw [TF.out] at hown
     have O:=Lh hown
     have B:=Lh hbel
     clear hown hbel
     go_wp2
     go_ret2
     exact ⟨A1,c1,rfl,O.out,B.out⟩
  ·exact absurd HM.out hm
 ·rw [show rnL t=[] from if_neg hm,show rnE t=110 from if_neg hm]
  have HM:=Lh hm
  clear ht hm hlen
  go_enter Tryz.func47,Tryz.ntmps47
  go_wp2_with fail
  refine T.out.mono ?_
  rintro e w1 ⟨⟨hm,B,rfl,hT,hB⟩ | ⟨hm,rfl⟩,hb1⟩
  ·exact absurd hm HM.out
  ·have B1:=Lh hb1
   clear hm hb1
   go_wp2
   go_ret2
   exact ⟨none,0,rfl,OwnTexts.nil _ _,B1.out⟩
end Go.Proofs.YtifgcfepbenpjaaGreat
namespace Go.Proofs.YtifgcfepbenpjaaGreat
open Go.RowKit
end Go.Proofs.YtifgcfepbenpjaaGreat
namespace Go.Proofs.YtifgcfepbenpjaaGreat
theorem fate_byte {S:List Sec} {p:Pnd} (hS:∀ x ∈ S,∀ z ∈ x.2,isByte z) (hp:∀ z ∈ p.2,isByte z) (f:Int):∀ x ∈ byFate S p f,∀ z ∈ x.2,isByte z:=by
 have hput:∀ (q:Sec),(∀ z ∈ q.2,isByte z)→∀ x ∈ S.set p.1.toNat q,∀ z ∈ x.2,isByte z:=fun q hq x hx=>by
  rcases List.mem_or_eq_of_mem_set hx with h | h
  ·exact hS x h
  ·subst h;exact hq
 unfold byFate
 split
 ·exact hput _ hp
 ·split
  ·refine hput _ fun z hz=>?_
   have e:=List.eq_of_mem_replicate (n:=32) (a:=(0:Int)) hz
   subst e
   unfold isByte
   omega
  ·exact hS
theorem behind_byte {S:List Sec} {C:List Pnd} (hS:∀ x ∈ S,∀ z ∈ x.2,isByte z) (hC:∀ p ∈ C,∀ z ∈ p.2,isByte z) (F:List Int) (k:Nat):∀ x ∈ behindK S C F k,∀ z ∈ x.2,isByte z:=by
 induction k with
 | zero=>exact hS
 | succ k ih =>
  refine fate_byte ih ?_ _
  intro z hz
  by_cases h:k < C.length
  ·exact hC _ (List.getElem_mem h) z (by rw [gtD,geE h] at hz;exact hz)
  ·rw [gtD,List.getElem?_eq_none (by omega)] at hz;cases hz
theorem cr_byte {S:List Sec} {C:List Pnd} (hS:∀ x ∈ S,∀ z ∈ x.2,isByte z) (hC:∀ p ∈ C,∀ z ∈ p.2,isByte z) (F:List Int):∀ x ∈ crS S C F,∀ z ∈ x.2,isByte z:=by
 unfold crS
 split
 ·exact behind_byte hS hC F _
 ·intro x hx;cases hx
theorem writes_byte {base:Int} {l:List Txt} {k:Nat} (hl:∀ t ∈ l,∀ z ∈ t,isByte z):∀ p ∈ writesP base l k,∀ z ∈ p.2,isByte z:=by
 intro p hp
 rw [writesP_eq] at hp
 obtain ⟨i,hi,rfl⟩:=List.mem_map.1 hp
 intro z hz
 by_cases h:i < l.length
 ·refine hl _ (List.getElem_mem h) z ?_
  simpa [List.getD_eq_getElem?_getD,List.getElem?_eq_getElem h] using hz
 ·simp [List.getD_eq_getElem?_getD,List.getElem?_eq_none (show l.length≤i by omega)] at hz
section
variable {P T A M W Q:Int} {S S':List Sec}
theorem cr_see {base:Int} {l:List Txt} {k:Nat} (hm:mayD S []=true) (hmay:mayD S (writesP base l k)=true) (F:List Int) (y:Int) :
  optAt (crS S (writesP base l k) F) [] y=optAt S [] y∨(base≤y∧y < base + (k:Int)∧(optAt (crS S (writesP base l k) F) [] y=some (l.getD (y - base).toNat [])∨optAt (crS S (writesP base l k) F) [] y=none)):=by
 obtain ⟨hcm,hcl⟩:=cr_may hmay F
 by_cases hi:0≤y∧y < (S.length:Int)
 ·have c:=optAt_crash (C:=[]) (base:=base) (l:=l) (k:=k) hm (by rw [List.nil_append];exact hmay) F hi.1 hi.2 rfl
  rw [List.nil_append] at c
  exact c
 ·left
  rw [opt_out hcm (by rw [hcl];exact hi),opt_out hm hi]
theorem at_inj {a a':Int} {k k':Nat} (ha:arJ a) (ha':arJ a') (hk:(k:Int) < A) (hk':(k':Int) < A) (h:2 + a * A + (k:Int)=2 + a' * A + (k':Int)):a=a'∧k=k':=by
 unfold arJ at ha ha'
 rcases (show a=0∨a=1 by omega) with r | r <;> subst r <;> rcases (show a'=0∨a'=1 by omega) with r | r <;> subst r <;> omega
theorem count_le {l:List (Option Txt)} {V:Int} (h0:0≤V):∀ n,(∀ j,j < n→∀ x,l.getD j none=some x→verOf x≤V)→countTo l n≤V:=by
 intro n
 induction n with
 | zero=>intro _;exact h0
 | succ n ih =>
  intro h
  have i:=ih fun j hj=>h j (by omega)
  have hn:=h n (by omega)
  unfold countTo
  split
  ·exact i
  ·rename_i T hT
   have:=hn T hT
   omega
theorem count_nonneg (l:List (Option Txt)):∀ n,0≤countTo l n:=by
 intro n
 induction n with
 | zero=>exact Int.le_refl 0
 | succ n ih =>
  unfold countTo
  split
  ·exact ih
  ·omega
structure Runs12 (P T A M W Q:Int) (S:List Sec) (s:Sup) (t:List Rc) (n B V:Int):Prop where
 may:mayT P T A M W Q S []
 tells:Tells P T A M W Q S s t n
 tab:mayTab t
 area:arS s.2.1
 gen:0≤s.2.2∧s.2.2≤B
 top:∀ (a:Int) (k:Nat),arJ a→(k:Int) < A→∀ x,optAt S [] (2 + a * A + (k:Int))=some x→x.getD 8 0=1→val (x.take 8)≤B
 out:∀ (a:Int) (k:Nat),arJ a→(k:Int) < A→¬ (a=s.2.1∧(k:Int) < n)→∀ x,optAt S [] (2 + a * A + (k:Int))=some x→¬ begT s.2.2 x
 ver:0≤V∧∀ j:Nat,j < 2→∀ x,optAt S [] (j:Int)=some x→verOf x≤V
 byte:∀ x ∈ S,∀ z ∈ x.2,isByte z
theorem Runs12.mono {s:Sup} {t:List Rc} {n B V B' V':Int} (R:Runs12 P T A M W Q S s t n B V) (hB:B≤B') (hV:V≤V'):Runs12 P T A M W Q S s t n B' V' :=
 ⟨R.may,R.tells,R.tab,R.area,⟨R.gen.1,by have:=R.gen.2;omega⟩,fun a k ha hk x hx h=>by have:=R.top a k ha hk x hx h;omega,R.out,⟨by have:=R.ver.1;omega,fun j hj x hx=>by have:=R.ver.2 j hj x hx;omega⟩,R.byte⟩
theorem Runs12.fine {m:Mt} {B V:Int} (R:Runs12 P T A M W Q S m.s m.t m.n B V) (hB:B≤65536 * m.s.1 + m.u):fineM A S [] m:=fun a k ha hk ho x hx =>
 ⟨R.out a k ha hk ho x hx,fun h=>by
  have:=R.top a k ha hk x hx h.1
  rw [h.2] at this
  unfold nextM at this
  omega⟩
theorem Runs12.sp {s:Sup} {t:List Rc} {n B V:Int} (R:Runs12 P T A M W Q S s t n B V) (hV:V < 4294967295) {s':Sup} (ha:arS s'.2.1):spE P T A M W Q S [] s'=0∧(∃ base v,(base=0∨base=1)∧spL P T A M W Q S [] s'=writesP base [partT v 0 (chunk (suT s') 0)] 1∧0≤v∧v≤V + 1):=by
 have hc:=count_le (l:=optsOf S [] 0 (2 * (1:Int).toNat)) R.ver.1 (2 * (1:Int).toNat) (fun j hj x hx=>by
  have hj2:j < 2:=hj
  rw [optsOf_get (n:=2 * (1:Int).toNat) S [] 0 hj,Int.zero_add] at hx
  exact R.ver.2 j hj2 x hx)
 have h0:=count_nonneg (optsOf S [] 0 (2 * (1:Int).toNat)) (2 * (1:Int).toNat)
 have hp:cpE S [] 0 1 (suT s')=0:=by
  unfold cpE
  rw [if_pos (cell_zero R.may),if_neg (by rw [suT_length];decide),busy_nil,if_neg (by decide),if_neg (by omega)]
 have hs:spE P T A M W Q S [] s'=0:=by
  unfold spE
  rw [if_pos R.may,if_pos ha,hp]
 refine ⟨hs,?_⟩
 have e:spL P T A M W Q S [] s'=cpL S [] 0 1 (suT s'):=if_pos hs
 obtain ⟨c,hcE⟩:∃ c,c=countTo (optsOf S [] 0 (2 * (1:Int).toNat)) (2 * (1:Int).toNat):=⟨_,rfl⟩
 have hL:cpL S [] 0 1 (suT s')=writesP (0 + hF 1 (optsOf S [] 0 (2 * (1:Int).toNat)) * 1) [partT (c + 1) 0 (chunk (suT s') 0)] 1:=by
  unfold cpL
  rw [if_pos hp]
  unfold cpT
  rw [hcE]
  rfl
 rw [← hcE] at hc h0
 refine ⟨0 + hF 1 (optsOf S [] 0 (2 * (1:Int).toNat)) * 1,c + 1,?_,e.trans hL,by omega,by omega⟩
 rcases hF_two 1 (optsOf S [] 0 (2 * (1:Int).toNat)) with h | h <;> rw [h] <;> simp
theorem Runs12.sup {s:Sup} {t:List Rc} {n B V:Int} (R:Runs12 P T A M W Q S s t n B V) (hV:V < 4294967295) {s':Sup} (ha:arS s'.2.1) (hs:isS s') (F:List Int) :
  mayD S (spL P T A M W Q S [] s')=true∧mayT P T A M W Q (crS S (spL P T A M W Q S [] s') F) [] ∧
  (∀ y,2≤y→optAt (crS S (spL P T A M W Q S [] s') F) [] y=optAt S [] y) ∧
  (∀ j:Nat,j < 2→∀ x,optAt (crS S (spL P T A M W Q S [] s') F) [] (j:Int)=some x→verOf x≤V + 1) ∧
  (∀ x ∈ crS S (spL P T A M W Q S [] s') F,∀ z ∈ x.2,isByte z) ∧
  ((srE P T A M W Q (crS S (spL P T A M W Q S [] s') F) []=srE P T A M W Q S []∧srV P T A M W Q (crS S (spL P T A M W Q S [] s') F) []=srV P T A M W Q S []) ∨
   (srE P T A M W Q (crS S (spL P T A M W Q S [] s') F) []=0∧srV P T A M W Q (crS S (spL P T A M W Q S [] s') F) []=s')) ∧
  srE P T A M W Q (flS S (spL P T A M W Q S [] s')) []=0∧srV P T A M W Q (flS S (spL P T A M W Q S [] s')) []=s':=by
 obtain ⟨hz,base,v,hb,hL,hv0,hv1⟩:=R.sp hV ha
 have e:spL P T A M W Q S [] s'=cpL S [] 0 1 (suT s'):=if_pos hz
 have ST:=sup_tells hz hs R.byte (fun p hp=>by cases hp) (by simp) F
 rw [List.nil_append,← e] at ST
 obtain ⟨hmay,_,t1,t2⟩:=ST
 obtain ⟨c1,c2⟩:=cr_may hmay F
 refine ⟨hmay,may_len R.may c1 c2,fun y hy=>su_away hz hmay F hy,fun j hj x hx=>?_,?_,t1,t2⟩
 ·rw [hL] at hx hmay
  rcases cr_see R.may.2.1 hmay F (j:Int) with k | ⟨k1,k2,k | k⟩
  ·rw [k] at hx
   have:=R.ver.2 j hj x hx
   omega
  ·rw [k] at hx
   have hx:=Option.some.inj hx
   rw [show ((j:Int) - base).toNat=0 by omega] at hx
   subst hx
   show verOf (partT v 0 (chunk (suT s') 0))≤V + 1
   rw [ver_part 0 _ ⟨hv0,by omega⟩]
   exact hv1
  ·rw [k] at hx;cases hx
 ·refine cr_byte R.byte ?_ F
  rw [hL]
  refine writes_byte fun t ht=>?_
  obtain rfl:t=partT v 0 (chunk (suT s') 0):=by simpa using ht
  exact partT_byte _ _ fun z hz=>suT_byte s' z (List.mem_of_mem_drop (List.mem_of_mem_take hz))
theorem Runs12.boot {s:Sup} {t:List Rc} {n B V:Int} (R:Runs12 P T A M W Q S s t n B V) (hV:V < 4294967295) {v:Int} (hs:isS (v,s.2.1,s.2.2)) (F:List Int) :
  (Runs12 P T A M W Q (crS S (spL P T A M W Q S [] (v,s.2.1,s.2.2)) F) s t n B (V + 1)∨Runs12 P T A M W Q (crS S (spL P T A M W Q S [] (v,s.2.1,s.2.2)) F) (v,s.2.1,s.2.2) t n B (V + 1)) ∧
  Runs12 P T A M W Q (flS S (spL P T A M W Q S [] (v,s.2.1,s.2.2))) (v,s.2.1,s.2.2) t n B (V + 1):=by
 obtain ⟨o1,o2,o3,o4⟩:=tells_out R.tells
 have ha:=arJ_of R.area
 have hA:(3:Int)≤A:=by have:=R.may.1;unfold mayC at this;omega
 have h2:=(area_off ha hA).2.2
 have key:∀ F s1,srE P T A M W Q (crS S (spL P T A M W Q S [] (v,s.2.1,s.2.2)) F) []=0→srV P T A M W Q (crS S (spL P T A M W Q S [] (v,s.2.1,s.2.2)) F) []=s1→s1.2=s.2→Runs12 P T A M W Q (crS S (spL P T A M W Q S [] (v,s.2.1,s.2.2)) F) s1 t n B (V + 1):=fun F s1 k1 k2 k3=>by
  obtain ⟨hmay,hm',off,hver,hby,_,_⟩:=R.sup hV (s':=(v,s.2.1,s.2.2)) R.area hs F
  have hat:∀ (a:Int) (k:Nat),arJ a→2≤2 + a * A + (k:Int):=fun a k h=>by have:=(area_off h hA).2.2;omega
  refine ⟨hm',?_,R.tab,by rw [k3];exact R.area,by rw [k3];exact R.gen,fun a k h hk x hx=>by rw [off _ (hat a k h)] at hx;exact R.top a k h hk x hx,fun a k h hk ho x hx=>?_,⟨by have:=R.ver.1;omega,hver⟩,hby⟩
  ·have T:=tells_of k1 k2 (l:=jN (jf S [] A s.2.1 s.2.2) A.toNat) (by rw [k3];exact jl_view fun j hj=>off _ (by omega)) o3
   rw [← o4] at T
   exact T
  ·rw [off _ (hat a k h)] at hx
   rw [k3] at ho ⊢
   exact R.out a k h hk ho x hx
 refine ⟨?_,?_⟩
 ·obtain ⟨_,_,_,_,_,t1,_⟩:=R.sup hV (s':=(v,s.2.1,s.2.2)) R.area hs F
  rcases t1 with ⟨k1,k2⟩ | ⟨k1,k2⟩
  ·exact .inl (key F s (k1.trans o1) (k2.trans o2) rfl)
  ·exact .inr (key F _ k1 k2 rfl)
 ·obtain ⟨_,_,_,_,_,_,t2⟩:=R.sup hV (s':=(v,s.2.1,s.2.2)) R.area hs F
  exact key _ _ t2.1 t2.2 rfl
end
section
variable {P T A M W Q:Int} {S:List Sec} {m:Mt} {b:Txt} {t':List Rc} {B V:Int}
theorem Runs12.one (R:Runs12 P T A M W Q S m.s m.t m.n B V) (hk:mayM P T A M W Q m) (hB:B≤65536 * m.s.1 + m.u) (hg:isG m.s.2.2) (hp:putR m.t b=some t') (hn:m.n < A) (hby:∀ z ∈ b,isByte z) (F:List Int) :
  mayD S [(2 + m.s.2.1 * A + m.n,jT m.s.2.2 m.n b)]=true ∧
  (Runs12 P T A M W Q (crS S [(2 + m.s.2.1 * A + m.n,jT m.s.2.2 m.n b)] F) m.s m.t m.n B V∨Runs12 P T A M W Q (crS S [(2 + m.s.2.1 * A + m.n,jT m.s.2.2 m.n b)] F) m.s t' (m.n + 1) B V) ∧
  Runs12 P T A M W Q (flS S [(2 + m.s.2.1 * A + m.n,jT m.s.2.2 m.n b)]) m.s t' (m.n + 1) B V:=by
 obtain ⟨hmay,j1,j2⟩:=met_one R.may R.tells hk hg (R.fine hB) hp hn F
 have ha:=arJ_of R.area
 obtain ⟨b1,b2⟩:=note_len hp
 have hn0:=hk.2.2.1.1
 have hA:(3:Int)≤A:=by have:=R.may.1;unfold mayC at this;omega
 have hA32:A≤32:=by have:=R.may.1;unfold mayC at this;omega
 obtain ⟨n,hN⟩:∃ n:Nat,m.n=(n:Int):=⟨m.n.toNat,by omega⟩
 have h2:=(area_off ha hA).2.2
 have hx2:2≤2 + m.s.2.1 * A + m.n:=by omega
 have common:∀ F,mayT P T A M W Q (crS S [(2 + m.s.2.1 * A + m.n,jT m.s.2.2 m.n b)] F) [] ∧
   (∀ (a:Int) (k:Nat),arJ a→(k:Int) < A→∀ x,optAt (crS S [(2 + m.s.2.1 * A + m.n,jT m.s.2.2 m.n b)] F) [] (2 + a * A + (k:Int))=some x→x.getD 8 0=1→val (x.take 8)≤B) ∧
   (∀ j:Nat,j < 2→∀ x,optAt (crS S [(2 + m.s.2.1 * A + m.n,jT m.s.2.2 m.n b)] F) [] (j:Int)=some x→verOf x≤V) ∧
   (∀ x ∈ crS S [(2 + m.s.2.1 * A + m.n,jT m.s.2.2 m.n b)] F,∀ z ∈ x.2,isByte z) ∧
   (∀ (a:Int) (k:Nat),arJ a→(k:Int) < A→¬ (a=m.s.2.1∧(k:Int) < m.n + 1)→∀ x,optAt (crS S [(2 + m.s.2.1 * A + m.n,jT m.s.2.2 m.n b)] F) [] (2 + a * A + (k:Int))=some x→¬ begT m.s.2.2 x):=fun F=>by
  obtain ⟨c1,c2⟩:=cr_may hmay F
  obtain ⟨off,here⟩:=crash_one R.may.2.1 hmay F
  refine ⟨may_len R.may c1 c2,fun a k h hk x hx h8=>?_,fun j hj x hx=>?_,?_,fun a k h hk ho x hx=>?_⟩
  ·by_cases e:2 + a * A + (k:Int)=2 + m.s.2.1 * A + m.n
   ·rw [e] at hx
    rcases here with q | q | q
    ·rw [q,← e] at hx
     exact R.top a k h hk x hx h8
    ·rw [q] at hx
     have hx:=Option.some.inj hx
     subst hx
     rw [(jT_beg hg).2]
     exact R.gen.2
    ·rw [q] at hx;cases hx
   ·rw [off _ e] at hx
    exact R.top a k h hk x hx h8
  ·rw [off _ (by omega)] at hx
   exact R.ver.2 j hj x hx
  ·refine cr_byte R.byte (fun p hp=>?_) F
   obtain rfl:p=(2 + m.s.2.1 * A + m.n,jT m.s.2.2 m.n b):=by simpa using hp
   exact jT_byte _ _ hby
  ·have e:2 + a * A + (k:Int)≠2 + m.s.2.1 * A + m.n:=fun e=>by
    rw [hN] at e
    obtain ⟨e1,e2⟩:=at_inj h ha hk (by omega) e
    exact ho ⟨e1,by omega⟩
   rw [off _ e] at hx
   exact R.out a k h hk (fun q=>ho ⟨q.1,by omega⟩) x hx
 refine ⟨hmay,?_,?_⟩
 ·obtain ⟨k1,k2,k3,k4,k5⟩:=common F
  rcases j1 with j | j
  ·left
   refine ⟨k1,j,R.tab,R.area,R.gen,k2,fun a k h hk ho x hx=>?_,⟨R.ver.1,k3⟩,k4⟩
   by_cases e:a=m.s.2.1∧k=n
   ·obtain ⟨rfl,rfl⟩:=e
    obtain ⟨off,here⟩:=crash_one R.may.2.1 hmay F
    rw [← hN] at hx
    rcases here with q | q | q
    ·rw [q,hN] at hx
     exact R.out _ _ h hk ho x hx
    ·exfalso
     obtain ⟨_,_,_,o4⟩:=tells_out j
     rw [jN_length] at o4
     rcases jM_end (jf (crS S [(2 + m.s.2.1 * A + m.n,jT m.s.2.2 m.n b)] F) [] A m.s.2.1 m.s.2.2) A.toNat with r | r
     ·omega
     ·rw [show jM (jf (crS S [(2 + m.s.2.1 * A + m.n,jT m.s.2.2 m.n b)] F) [] A m.s.2.1 m.s.2.2) A.toNat=k by omega] at r
      unfold jf at r
      rw [← hN,q] at r
      have:noteT m.s.2.2 m.n (jT m.s.2.2 m.n b)=[]:=r
      rw [noteT_new hg (by omega) b1 b2] at this
      rw [this] at b1
      cases b1
    ·rw [q] at hx;cases hx
   ·exact k5 a k h hk (fun q=>ho ⟨q.1,by
     by_cases r:(k:Int) < m.n
     ·exact r
     ·exact absurd ⟨q.1,by omega⟩ e⟩) x hx
  ·right
   exact ⟨k1,j,(put_may hp).2,R.area,R.gen,k2,k5,⟨R.ver.1,k3⟩,k4⟩
 ·obtain ⟨k1,k2,k3,k4,k5⟩:=common (List.replicate 1 1)
  exact ⟨k1,j2,(put_may hp).2,R.area,R.gen,k2,k5,⟨R.ver.1,k3⟩,k4⟩
theorem Runs12.anew (R:Runs12 P T A M W Q S m.s m.t m.n B V) (hk:mayM P T A M W Q m) (hB:B≤65536 * m.s.1 + m.u) (hs:isS (anewS m)) (hp:putR m.t b=some t') (hall:allR t') (hV:V < 4294967295) :
  (∀ k,k≤t'.length→mayD S (writesP (2 + (1 - m.s.2.1) * A) (rowsT (nextM m) t') k)=true∧∀ F,Runs12 P T A M W Q (crS S (writesP (2 + (1 - m.s.2.1) * A) (rowsT (nextM m) t') k) F) m.s m.t m.n (nextM m) V) ∧
  Runs12 P T A M W Q (flS S (rowsP A (1 - m.s.2.1) (nextM m) t')) m.s m.t m.n (nextM m) V ∧
  spE P T A M W Q S [] (anewS m)=0 ∧
  spL P T A M W Q (flS S (rowsP A (1 - m.s.2.1) (nextM m) t')) [] (anewS m)=spL P T A M W Q S [] (anewS m) ∧
  mayD (flS S (rowsP A (1 - m.s.2.1) (nextM m) t')) (spL P T A M W Q S [] (anewS m))=true ∧
  (∀ F,Runs12 P T A M W Q (crS (flS S (rowsP A (1 - m.s.2.1) (nextM m) t')) (spL P T A M W Q S [] (anewS m)) F) m.s m.t m.n (nextM m) (V + 1)∨Runs12 P T A M W Q (crS (flS S (rowsP A (1 - m.s.2.1) (nextM m) t')) (spL P T A M W Q S [] (anewS m)) F) (anewS m) t' (t'.length:Int) (nextM m) (V + 1)) ∧
  Runs12 P T A M W Q (flS (flS S (rowsP A (1 - m.s.2.1) (nextM m) t')) (spL P T A M W Q S [] (anewS m))) (anewS m) t' (t'.length:Int) (nextM m) (V + 1):=by
 have harea':arS (anewS m).2.1:=by have:=R.area;unfold arS at this ⊢;show 1 - m.s.2.1=0∨1 - m.s.2.1=1;omega
 have hsp:=(R.sp hV harea').1
 have ha:=arJ_of R.area
 have ha':arJ (1 - m.s.2.1):=arJ_of harea'
 have hA:(3:Int)≤A:=by have:=R.may.1;unfold mayC at this;omega
 have h3:=three_of12 (put_may hp).2
 have hg':isG (nextM m):=hs.2
 have hlt:B < nextM m:=by unfold nextM;omega
 have hrb:∀ t ∈ rowsT (nextM m) t',∀ z ∈ t,isByte z:=fun t ht=>by
  unfold rowsT at ht
  obtain ⟨i,hi,rfl⟩:=List.mem_map.1 ht
  exact jT_byte _ _ (recT_byte _)
 have hby:∀ k F,∀ x ∈ crS S (writesP (2 + (1 - m.s.2.1) * A) (rowsT (nextM m) t') k) F,∀ z ∈ x.2,isByte z:=fun k F=>cr_byte R.byte (writes_byte hrb) F
 obtain ⟨p1,⟨p2,p3⟩,p4,p5,p6,p7⟩:=met_anew R.may R.tells hk hs (R.fine hB) hp hall hsp (hby _ _)
 have newx:∀ k F,k≤t'.length→∀ y x,optAt (crS S (writesP (2 + (1 - m.s.2.1) * A) (rowsT (nextM m) t') k) F) [] y=some x→optAt S [] y=some x∨(∃ j:Nat,j < t'.length∧y=2 + (1 - m.s.2.1) * A + (j:Int)∧begT (nextM m) x):=fun k F hkl y x hx=>by
  rcases cr_see R.may.2.1 (p1 k hkl).1 F y with c | ⟨c1,c2,c | c⟩
  ·left;rw [← c];exact hx
  ·right
   rw [c] at hx
   have hx:=Option.some.inj hx
   refine ⟨(y - (2 + (1 - m.s.2.1) * A)).toNat,by omega,by omega,?_⟩
   rw [← hx,rowsT_at _ _ (by omega)]
   exact jT_beg hg'
  ·rw [c] at hx;cases hx
 have part:∀ k F,k≤t'.length→Runs12 P T A M W Q (crS S (writesP (2 + (1 - m.s.2.1) * A) (rowsT (nextM m) t') k) F) m.s m.t m.n (nextM m) V:=fun k F hkl=>by
  obtain ⟨hmay,T⟩:=p1 k hkl
  obtain ⟨c1,c2⟩:=cr_may hmay F
  refine ⟨may_len R.may c1 c2,T F,R.tab,R.area,⟨R.gen.1,by have:=R.gen.2;omega⟩,fun a i h hi x hx h8=>?_,fun a i h hi ho x hx=>?_,⟨R.ver.1,fun j hj x hx=>?_⟩,hby k F⟩
  ·rcases newx k F hkl _ x hx with c | ⟨_,_,_,c⟩
   ·have:=R.top a i h hi x c h8;omega
   ·rw [c.2];exact Int.le_refl _
  ·rcases newx k F hkl _ x hx with c | ⟨_,_,_,c⟩
   ·exact R.out a i h hi ho x c
   ·intro q
    have:=R.gen.2
    have e:=c.2.symm.trans q.2
    omega
  ·rcases newx k F hkl _ x hx with c | ⟨i,_,c,_⟩
   ·exact R.ver.2 j hj x c
   ·have:=(area_off ha hA).2.1
    omega
 have R1:=part t'.length (List.replicate (writesP (2 + (1 - m.s.2.1) * A) (rowsT (nextM m) t') t'.length).length 1) (Nat.le_refl _)
 have new1:=newx t'.length (List.replicate (writesP (2 + (1 - m.s.2.1) * A) (rowsT (nextM m) t') t'.length).length 1) (Nat.le_refl _)
 change Runs12 P T A M W Q (flS S (rowsP A (1 - m.s.2.1) (nextM m) t')) m.s m.t m.n (nextM m) V at R1
 change ∀ y x,optAt (flS S (rowsP A (1 - m.s.2.1) (nextM m) t')) [] y=some x→optAt S [] y=some x∨(∃ j:Nat,j < t'.length∧y=2 + (1 - m.s.2.1) * A + (j:Int)∧begT (nextM m) x) at new1
 have behind:∀ F,(∀ s1 t1 n1,Tells P T A M W Q (crS (flS S (rowsP A (1 - m.s.2.1) (nextM m) t')) (spL P T A M W Q S [] (anewS m)) F) s1 t1 n1→((s1=m.s∧t1=m.t∧n1=m.n)∨(s1=anewS m∧t1=t'∧n1=(t'.length:Int)))→Runs12 P T A M W Q (crS (flS S (rowsP A (1 - m.s.2.1) (nextM m) t')) (spL P T A M W Q S [] (anewS m)) F) s1 t1 n1 (nextM m) (V + 1)):=fun F s1 t1 n1 hT hw=>by
  obtain ⟨_,hm',off,hver,hb',_,_⟩:=R1.sup hV (s':=anewS m) harea' hs F
  rw [p4] at hm' off hver hb'
  have hat:∀ (a:Int) (k:Nat),arJ a→2≤2 + a * A + (k:Int):=fun a k h=>by have:=(area_off h hA).2.2;omega
  have top:∀ (a:Int) (k:Nat),arJ a→(k:Int) < A→∀ x,optAt (crS (flS S (rowsP A (1 - m.s.2.1) (nextM m) t')) (spL P T A M W Q S [] (anewS m)) F) [] (2 + a * A + (k:Int))=some x→x.getD 8 0=1→val (x.take 8)≤nextM m:=fun a k h hk x hx h8=>by
   rw [off _ (hat a k h)] at hx
   exact R1.top a k h hk x hx h8
  rcases hw with ⟨rfl,rfl,rfl⟩ | ⟨rfl,rfl,rfl⟩
  ·exact ⟨hm',hT,R.tab,R.area,⟨R.gen.1,by have:=R.gen.2;omega⟩,top,fun a k h hk ho x hx=>by rw [off _ (hat a k h)] at hx;exact R1.out a k h hk ho x hx,⟨by have:=R.ver.1;omega,hver⟩,hb'⟩
  ·refine ⟨hm',hT,(put_may hp).2,harea',⟨hg'.1,Int.le_refl _⟩,top,fun a k h hk ho x hx=>?_,⟨by have:=R.ver.1;omega,hver⟩,hb'⟩
   rw [off _ (hat a k h)] at hx
   rcases new1 _ x hx with c | ⟨j,hj,c,_⟩
   ·intro q
    have:=R.top a k h hk x c q.1
    have e:val (x.take 8)=nextM m:=q.2
    omega
   ·obtain ⟨e1,e2⟩:=at_inj h ha' hk (show (j:Int) < A by omega) c
    exact absurd ⟨e1,by omega⟩ ho
 refine ⟨fun k hk=>⟨(p1 k hk).1,fun F=>part k F hk⟩,R1,hsp,p4,p5,fun F=>?_,?_⟩
 ·rcases p6 F with T | T
  ·exact .inl (behind F _ _ _ T (.inl ⟨rfl,rfl,rfl⟩))
  ·exact .inr (behind F _ _ _ T (.inr ⟨rfl,rfl,rfl⟩))
 ·exact behind _ _ _ _ p7 (.inr ⟨rfl,rfl,rfl⟩)
end
def dnA:List Ac→Nat→List Sec→List Pnd→Option (List Sec × List Pnd)
 | _,0,S,C=>some (S,C)
 | [],_ + 1,S,C=>some (S,C)
 | a :: l,k + 1,S,C=>if a.1=1 then (if wrE S C a.2.1 a.2.2=0 then dnA l k S (C ++ [(a.2.1,a.2.2)]) else none) else if a.1=2 then (if mayD S C=true then dnA l k (flS S C) [] else none) else none
theorem dnA_nil (k:Nat) (S:List Sec) (C:List Pnd):dnA [] k S C=some (S,C):=by cases k <;> rfl
theorem wr_zero {S:List Sec} {C L:List Pnd} {p:Pnd} (h:mayD S (C ++ p :: L)=true):wrE S C p.1 p.2=0:=by
 have h':=(mayD_iff _ _).1 h
 obtain ⟨⟨h1,h2,h3⟩,h4,h5⟩:=h'
 have hC:mayD S C=true:=(mayD_iff _ _).2 ⟨⟨h1,h2,by rw [List.length_append,List.length_cons] at h3;omega⟩,h4,fun q hq=>h5 q (List.mem_append_left _ hq)⟩
 obtain ⟨q1,q2,q3⟩:=h5 p (List.mem_append_right _ (List.mem_cons_self ..))
 have ha:askE S C p.1=0:=by
  unfold askE
  rw [if_pos hC,if_neg (by omega)]
 rw [List.length_append,List.length_cons] at h3
 unfold wrE
 rw [if_pos ha,if_pos q3,if_neg (by omega)]
theorem dnA_writes:∀ (L:List Pnd) (r:List Ac) (S:List Sec) (C:List Pnd),mayD S (C ++ L)=true→∀ k,dnA (wrA L ++ r) k S C=if k≤L.length then some (S,C ++ L.take k) else dnA r (k - L.length) S (C ++ L):=by
 intro L
 induction L with
 | nil =>
  intro r S C h k
  show dnA r k S C=_
  cases k with
  | zero=>rw [if_pos (Nat.zero_le _)];simp [dnA]
  | succ k=>rw [if_neg (by simp),List.append_nil];rfl
 | cons p L ih =>
  intro r S C h k
  cases k with
  | zero=>rw [if_pos (Nat.zero_le _)];simp [dnA]
  | succ k =>
   have e:dnA (wrA (p :: L) ++ r) (k + 1) S C=if wrE S C p.1 p.2=0 then dnA (wrA L ++ r) k S (C ++ [(p.1,p.2)]) else none:=rfl
   rw [e,if_pos (wr_zero h),ih r S (C ++ [(p.1,p.2)]) (by rw [List.append_assoc];exact h) k]
   by_cases hk:k≤L.length
   ·rw [if_pos hk,if_pos (by simpa using hk),List.append_assoc];rfl
   ·rw [if_neg hk,if_neg (by simpa using hk),List.append_assoc]
    simp
theorem dnA_acts {L:List Pnd} (r:List Ac) {S:List Sec} (h:mayD S L=true) (k:Nat):dnA (actsA L ++ r) k S []=if k≤L.length then some (S,L.take k) else dnA r (k - (L.length + 1)) (flS S L) []:=by
 unfold actsA
 rw [List.append_assoc,dnA_writes L ([(2,0,[])] ++ r) S [] h k]
 by_cases hk:k≤L.length
 ·rw [if_pos hk,if_pos hk];rfl
 ·rw [if_neg hk,if_neg hk]
  obtain ⟨j,hj⟩:∃ j,k - L.length=j + 1:=⟨k - L.length - 1,by omega⟩
  rw [hj,show k - (L.length + 1)=j by omega]
  show (if (2:Int)=1 then _ else if (2:Int)=2 then (if mayD S L=true then dnA r j (flS S L) [] else none) else none)=_
  rw [if_neg (by decide),if_pos rfl,if_pos h]
theorem actsA_length (L:List Pnd):(actsA L).length=L.length + 1:=by simp [actsA,wrA]
theorem writesP_take (base:Int) (l:List Txt) {n k:Nat} (h:k≤n):(writesP base l n).take k=writesP base l k:=by
 rw [writesP_eq,writesP_eq,← List.map_take,List.take_range,Nat.min_eq_left h]
theorem writesP_len (base:Int) (l:List Txt) (n:Nat):(writesP base l n).length=n:=by rw [writesP_eq];simp
theorem may_sub {S:List Sec} {L:List Pnd} (h:mayD S L=true) (k:Nat):mayD S (L.take k)=true:=by
 obtain ⟨⟨h1,h2,h3⟩,h4,h5⟩:=(mayD_iff _ _).1 h
 exact (mayD_iff _ _).2 ⟨⟨h1,h2,by rw [List.length_take];omega⟩,h4,fun q hq=>h5 q (List.mem_of_mem_take hq)⟩
section
variable {P T A M W Q:Int} {S:List Sec} {m:Mt} {b:Txt} {t':List Rc} {B V:Int}
def cmM (A:Int) (m:Mt) (t':List Rc):Mt:=if m.n < A then ⟨m.s,m.n + 1,m.u,t'⟩ else ⟨anewS m,(t'.length:Int),m.u + 1,t'⟩
def cmA (P T A M W Q:Int) (S:List Sec) (C:List Pnd) (m:Mt) (b:Txt) (t':List Rc):List Ac:=if m.n < A then actsA [(2 + m.s.2.1 * A + m.n,jT m.s.2.2 m.n b)] else actsA (rowsP A (1 - m.s.2.1) (nextM m) t') ++ actsA (spL P T A M W Q S C (anewS m))
theorem Runs12.commit (R:Runs12 P T A M W Q S m.s m.t m.n B V) (hk:mayM P T A M W Q m) (hB:B≤65536 * m.s.1 + m.u) (hg:isG m.s.2.2) (hs:isS (anewS m)) (hp:putR m.t b=some t') (hall:allR t') (hby:∀ z ∈ b,isByte z) (hV:V < 4294967295) (many:Nat) :
  ∃ S' C',dnA (cmA P T A M W Q S [] m b t') many S []=some (S',C')∧mayD S' C'=true ∧
   (∀ F,Runs12 P T A M W Q (crS S' C' F) m.s m.t m.n (nextM m) (V + 1)∨Runs12 P T A M W Q (crS S' C' F) (cmM A m t').s t' (cmM A m t').n (nextM m) (V + 1)) ∧
   ((cmA P T A M W Q S [] m b t').length≤many→C'=[]∧Runs12 P T A M W Q S' (cmM A m t').s t' (cmM A m t').n (65536 * (cmM A m t').s.1 + (cmM A m t').u) (V + 1)):=by
 have hlt:B≤nextM m:=by unfold nextM;omega
 have same:∀ {S' s t n B V},Runs12 P T A M W Q S' s t n B V→∀ F,crS S' [] F=S':=fun R' F=>cr_none R'.may.2.1 F
 unfold cmM cmA
 by_cases hn:m.n < A
 ·rw [if_pos hn,if_pos hn]
  have hmay:=(R.one hk hB hg hp hn hby []).1
  have e:=dnA_acts [] hmay many
  rw [List.append_nil] at e
  rw [e,actsA_length,show [(2 + m.s.2.1 * A + m.n,jT m.s.2.2 m.n b)].length=1 from rfl]
  by_cases hm:many≤1
  ·rw [if_pos hm]
   refine ⟨_,_,rfl,may_sub hmay many,fun F=>?_,fun h=>absurd h (by omega)⟩
   rcases (show many=0∨many=1 by omega) with rfl | rfl
   ·left
    rw [List.take_zero,same R F]
    exact R.mono hlt (by omega)
   ·rcases (R.one hk hB hg hp hn hby F).2.1 with r | r
    ·exact .inl (r.mono hlt (by omega))
    ·exact .inr (r.mono hlt (by omega))
  ·rw [if_neg hm,dnA_nil]
   have r:=(R.one hk hB hg hp hn hby []).2.2
   exact ⟨_,_,rfl,r.may.2.1,fun F=>.inr (by rw [same r F];exact r.mono hlt (by omega)),fun _=>⟨rfl,r.mono hB (by omega)⟩⟩
 ·rw [if_neg hn,if_neg hn]
  obtain ⟨p1,r1,_,p4,p5,p6,p7⟩:=R.anew hk hB hs hp hall hV
  have hLen:(spL P T A M W Q S [] (anewS m)).length=1:=by
   have ha:arS (anewS m).2.1:=by have:=R.area;unfold arS at this ⊢;show 1 - m.s.2.1=0∨1 - m.s.2.1=1;omega
   obtain ⟨_,base,v,_,hL,_⟩:=R.sp hV ha
   rw [hL,writesP_len]
  have hb2:nextM m≤65536 * (anewS m).1 + (m.u + 1):=by unfold nextM anewS;dsimp only;omega
  have hlr:(rowsP A (1 - m.s.2.1) (nextM m) t').length=t'.length:=writesP_len _ _ _
  have hmay:=(p1 t'.length (Nat.le_refl _)).1
  rw [dnA_acts _ (show mayD S (rowsP A (1 - m.s.2.1) (nextM m) t')=true from hmay) many,hlr]
  by_cases h1:many≤t'.length
  ·rw [if_pos h1]
   refine ⟨_,_,rfl,may_sub hmay many,fun F=>?_,fun h=>absurd h (by rw [List.length_append,actsA_length,actsA_length,hlr];omega)⟩
   left
   unfold rowsP
   rw [writesP_take _ _ h1]
   exact ((p1 many h1).2 F).mono (Int.le_refl _) (by omega)
  ·rw [if_neg h1]
   have e:=dnA_acts [] p5 (many - (t'.length + 1))
   rw [List.append_nil] at e
   rw [e,hLen]
   by_cases h2:many - (t'.length + 1)≤1
   ·rw [if_pos h2]
    refine ⟨_,_,rfl,may_sub p5 _,fun F=>?_,fun h=>absurd h (by rw [List.length_append,actsA_length,actsA_length,hlr,hLen];omega)⟩
    rcases (show many - (t'.length + 1)=0∨many - (t'.length + 1)=1 by omega) with q | q <;> rw [q]
    ·left
     rw [List.take_zero,same r1 F]
     exact r1.mono (Int.le_refl _) (by omega)
    ·rw [List.take_of_length_le (by omega)]
     exact p6 F
   ·rw [if_neg h2,dnA_nil]
    exact ⟨_,_,rfl,p7.may.2.1,fun F=>.inr (by rw [same p7 F];exact p7),fun _=>⟨rfl,p7.mono hb2 (Int.le_refl _)⟩⟩
theorem Runs12.boots {s:Sup} {t:List Rc} {n:Int} (R:Runs12 P T A M W Q S s t n B V) (hV:V < 4294967295) {v:Int} (hs:isS (v,s.2.1,s.2.2)) (many:Nat) :
  spE P T A M W Q S [] (v,s.2.1,s.2.2)=0∧∃ S' C',dnA (actsA (spL P T A M W Q S [] (v,s.2.1,s.2.2))) many S []=some (S',C')∧mayD S' C'=true ∧
   (∀ F,Runs12 P T A M W Q (crS S' C' F) s t n B (V + 1)∨Runs12 P T A M W Q (crS S' C' F) (v,s.2.1,s.2.2) t n B (V + 1)) ∧
   ((actsA (spL P T A M W Q S [] (v,s.2.1,s.2.2))).length≤many→C'=[]∧Runs12 P T A M W Q S' (v,s.2.1,s.2.2) t n B (V + 1)):=by
 obtain ⟨hz,base,w,_,hL,_⟩:=R.sp hV (s':=(v,s.2.1,s.2.2)) R.area
 have hLen:(spL P T A M W Q S [] (v,s.2.1,s.2.2)).length=1:=by rw [hL,writesP_len]
 have hmay:=(R.sup hV (s':=(v,s.2.1,s.2.2)) R.area hs []).1
 have same:∀ {S' s t n B V},Runs12 P T A M W Q S' s t n B V→∀ F,crS S' [] F=S':=fun R' F=>cr_none R'.may.2.1 F
 refine ⟨hz,?_⟩
 have e:=dnA_acts [] hmay many
 rw [List.append_nil] at e
 rw [e,actsA_length,hLen]
 by_cases h2:many≤1
 ·rw [if_pos h2]
  refine ⟨_,_,rfl,may_sub hmay _,fun F=>?_,fun h=>absurd h (by omega)⟩
  rcases (show many=0∨many=1 by omega) with q | q <;> rw [q]
  ·left
   rw [List.take_zero,same R F]
   exact R.mono (Int.le_refl _) (by omega)
  ·rw [List.take_of_length_le (by omega)]
   exact (R.boot hV hs F).1
 ·rw [if_neg h2,dnA_nil]
  have r:=(R.boot hV hs []).2
  exact ⟨_,_,rfl,r.may.2.1,fun F=>.inr (by rw [same r F];exact r),fun _=>⟨rfl,r⟩⟩
end
theorem opt_blank {N:Nat} (h:mayD (List.replicate N (false,noughts)) []=true) {y:Int} {x:Txt} (hx:optAt (List.replicate N (false,noughts)) [] y=some x):x=noughts:=by
 by_cases hi:0≤y∧y < ((List.replicate N ((false,noughts):Sec)).length:Int)
 ·rw [optAt_may h hi.1 hi.2] at hx
  have e:secAt (List.replicate N (false,noughts)) y=(false,noughts):=by
   unfold secAt
   rw [List.length_replicate] at hi
   rw [gtD,List.getElem?_replicate,if_pos (by omega)]
   rfl
  rw [e] at hx
  exact (Option.some.inj hx).symm
 ·rw [opt_out h hi] at hx
  cases hx
theorem opt_blank' {N:Nat} (h:mayD (List.replicate N (false,noughts)) []=true) {y:Int} (h0:0≤y) (h1:y < (N:Int)):optAt (List.replicate N (false,noughts)) [] y=some noughts:=by
 rw [optAt_may h h0 (by rw [List.length_replicate];exact h1)]
 have e:secAt (List.replicate N (false,noughts)) y=(false,noughts):=by
  unfold secAt
  rw [gtD,List.getElem?_replicate,if_pos (by omega)]
  rfl
 rw [e]
 rfl
theorem Runs12.blank {P T A M W Q:Int} {N:Nat} (hm:mayT P T A M W Q (List.replicate N (false,noughts)) []):Runs12 P T A M W Q (List.replicate N (false,noughts)) (0,0,0) [] 0 0 0:=by
 have hA:(3:Int)≤A:=by have:=hm.1;unfold mayC at this;omega
 have hN:(2:Int)≤(N:Int):=by
  have:=(at_area hm (a:=0) (by unfold arJ;omega) (n:=0) (by omega)).2
  rw [List.length_replicate] at this
  omega
 have e:optsOf (List.replicate N (false,noughts)) [] 0 (2 * (1:Int).toNat)=[some noughts,some noughts]:=by
  show [optAt _ [] 0,optAt _ [] 1]=_
  rw [opt_blank' hm.2.1 (by omega) (by omega),opt_blank' hm.2.1 (by omega) (by omega)]
 have hc:crE (List.replicate N (false,noughts)) [] 0 1=6:=by
  unfold crE
  rw [if_pos (cell_zero hm),e]
  decide
 have h1:srE P T A M W Q (List.replicate N (false,noughts)) []=0:=by
  unfold srE smE
  rw [if_pos hm,hc]
  rfl
 have h2:srV P T A M W Q (List.replicate N (false,noughts)) []=(0,0,0):=by
  unfold srV smV
  rw [if_pos hm,hc]
  rfl
 have hj:jN (jf (List.replicate N (false,noughts)) [] A 0 0) A.toNat=[]:=by
  have:jM (jf (List.replicate N (false,noughts)) [] A 0 0) A.toNat=0:=jM_is (Nat.zero_le _) (fun j h=>absurd h (Nat.not_lt_zero _)) (.inr (by
   unfold jf
   obtain ⟨a0,a1⟩:=at_area hm (a:=0) (by unfold arJ;omega) (n:=0) (by omega)
   rw [opt_blank' hm.2.1 a0 (by rw [List.length_replicate] at a1;exact a1)]
   decide))
  unfold jN
  rw [this]
  rfl
 have TL:=tells_of h1 h2 hj (t:=[]) rfl
 refine ⟨hm,TL,trivial,.inl rfl,⟨Int.le_refl _,Int.le_refl _⟩,fun a k _ _ x hx h8=>?_,fun a k _ _ _ x hx h8=>?_,⟨Int.le_refl _,fun j _ x hx=>?_⟩,fun x hx z hz=>?_⟩
 ·rw [opt_blank hm.2.1 hx] at h8
  exact absurd h8 (by decide)
 ·have:=h8.1
  rw [opt_blank hm.2.1 hx] at this
  exact absurd this (by decide)
 ·rw [opt_blank hm.2.1 hx]
  decide
 ·rw [List.eq_of_mem_replicate hx] at hz
  rw [List.eq_of_mem_replicate (n:=32) (a:=(0:Int)) hz]
  unfold isByte
  omega
end Go.Proofs.YtifgcfepbenpjaaGreat
