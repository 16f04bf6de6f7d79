/- Texts of the layers below, joined. -/
import Derived.Test.YtdbeiikaeccbhaaDa16
import Derived.Test.YtdbeiikaeccbhaaDa24
set_option maxRecDepth 100000
set_option maxHeartbeats 12800000
set_option linter.unusedVariables false
namespace Go.Proofs.Ytdbeiikaeccbhaa
def bothL (m:Nat) (a b:Txt):Txt:=made m fun u=>hasT a u && hasT b u
def whP (T A p:Int) (set:Txt) (wh:Nat→Bool):Nat→List Pnd
 | 0=>[]
 | k + 1=>if wh k=true then whP T A p set wh k ++ [(atP T A p (k:Int),pgSec p (k:Int) (set.getD k 0))] else whP T A p set wh k
def outW (marks set:Txt) (wh:Nat→Bool) (m:Nat):Txt:=(List.range m).map fun n=>if wh n=true then set.getD n 0 else marks.getD n 0
def actW (L:List Pnd):List Ac:=if L=[] then [] else actsA L
def difW (set marks:Txt) (n:Nat):Bool:=set.getD n 0 != marks.getD n 0
def dfE (P T A M W Q p:Int) (a b:Txt):Int:=if mayC P T A M W Q then (if 0≤p∧p < P then (if may T.toNat a∧may T.toNat b then 0 else 8) else 2) else 8
def dmE (P T A M W Q p:Int) (a b:Txt) (t:Int):Int:=if dfE P T A M W Q p a b=0 then (if 0≤t∧t < T then 0 else 2) else dfE P T A M W Q p a b
def dmS (T:Int) (a b:Txt) (t:Int):Txt:=made T.toNat fun u=>if u=t.toNat then true else hasT a u && hasT b u
def dmW (a:Txt) (t:Int) (n:Nat):Bool:=decide (n=t.toNat / 8) && !hasT a t.toNat
def dmB (P T A M W Q p:Int) (a b:Txt) (t:Int):Txt:=if dmE P T A M W Q p a b t=0 then outW a (dmS T a b t) (dmW a t) a.length else []
def dmP (P T A M W Q p:Int) (a b:Txt) (t:Int):List Pnd:=if dmE P T A M W Q p a b t=0 then whP T A p (dmS T a b t) (dmW a t) a.length else []
def dcB (P T A M W Q p:Int) (a b:Txt):Txt:=if dfE P T A M W Q p a b=0 then outW a (bothL T.toNat a b) (difW (bothL T.toNat a b) a) a.length else []
def dcP (P T A M W Q p:Int) (a b:Txt):List Pnd:=if dfE P T A M W Q p a b=0 then whP T A p (bothL T.toNat a b) (difW (bothL T.toNat a b) a) a.length else []
def diB (P T A M W Q p:Int) (a:Txt):Txt:=if dfE P T A M W Q p a a=0 then outW a (allB T) (difW (allB T) a) a.length else []
def diP (P T A M W Q p:Int) (a:Txt):List Pnd:=if dfE P T A M W Q p a a=0 then whP T A p (allB T) (difW (allB T) a) a.length else []
theorem outW_length (marks set:Txt) (wh:Nat→Bool) (m:Nat):(outW marks set wh m).length=m:=by simp [outW]
theorem outW_at {marks set:Txt} {wh:Nat→Bool} {m j:Nat} (h:j < m):(outW marks set wh m).getD j 0=if wh j=true then set.getD j 0 else marks.getD j 0:=by
 unfold outW
 rw [gtD,List.getElem?_map,List.getElem?_range h]
 rfl
theorem whP_mem {T A p:Int} {set:Txt} {wh:Nat→Bool}:∀ {k:Nat} {q:Pnd},q ∈ whP T A p set wh k↔∃ n,n < k∧wh n=true∧q=(atP T A p (n:Int),pgSec p (n:Int) (set.getD n 0))
 | 0,q=>by
  constructor
  ·intro h;cases h
  ·rintro ⟨n,h,_⟩;omega
 | k + 1,q=>by
  have ih:=@whP_mem T A p set wh k q
  show q ∈ (if wh k=true then whP T A p set wh k ++ [(atP T A p (k:Int),pgSec p (k:Int) (set.getD k 0))] else whP T A p set wh k)↔_
  by_cases hk:wh k=true
  ·rw [if_pos hk,List.mem_append,List.mem_singleton,ih]
   constructor
   ·rintro (⟨n,h1,h2,h3⟩ | h)
    ·exact ⟨n,by omega,h2,h3⟩
    ·exact ⟨k,by omega,hk,h⟩
   ·rintro ⟨n,h1,h2,h3⟩
    by_cases e:n=k
    ·subst e;exact .inr h3
    ·exact .inl ⟨n,by omega,h2,h3⟩
  ·rw [if_neg hk,ih]
   constructor
   ·rintro ⟨n,h1,h2,h3⟩
    exact ⟨n,by omega,h2,h3⟩
   ·rintro ⟨n,h1,h2,h3⟩
    by_cases e:n=k
    ·subst e;exact absurd h2 hk
    ·exact ⟨n,by omega,h2,h3⟩
theorem whP_len {T A p:Int} {set:Txt} {wh:Nat→Bool}:∀ k:Nat,(whP T A p set wh k).length≤k
 | 0=>Nat.le_refl _
 | k + 1=>by
  have ih:=@whP_len T A p set wh k
  show (if wh k=true then whP T A p set wh k ++ [(atP T A p (k:Int),pgSec p (k:Int) (set.getD k 0))] else whP T A p set wh k).length≤k + 1
  split
  ·rw [List.length_append,List.length_singleton];omega
  ·omega
theorem any_crash {S:List Sec} {C:List Pnd} (hm:mayD S []=true) (hC:mayD S C=true) (F:List Int) {a:Int} (h0:0≤a) (h1:a < (S.length:Int)) :
  optAt (crS S C F) [] a=optAt S [] a∨∃ q ∈ C,q.1=a∧(optAt (crS S C F) [] a=some q.2∨optAt (crS S C F) [] a=none):=by
 obtain ⟨hcm,hcl⟩:=cr_may hC F
 have hx:=crash_at hC F h0 (min C.length F.length) (Nat.min_le_left _ _)
 have hI:crS S C F=behindK S C F (min C.length F.length):=by unfold crS behindS;rw [if_pos hC]
 rw [← hI] at hx
 rw [optAt_may hcm h0 (by omega),optAt_may hm h0 h1]
 have hl:lastW [] a=none:=rfl
 rw [hl]
 dsimp only
 rcases hx with h | ⟨h2,h3⟩ | ⟨j,hj,h2,h3⟩
 ·exact .inl (by rw [h])
 ·right
  rw [if_pos h2]
  unfold pendB at h3
  rw [List.any_eq_true] at h3
  obtain ⟨q,hq,he⟩:=h3
  exact ⟨q,hq,by simpa using he,.inr rfl⟩
 ·right
  have hmem:C.getD j (0,[]) ∈ C:=by
   rw [gtD,geE hj]
   exact List.getElem_mem hj
  refine ⟨_,hmem,h2,.inl ?_⟩
  rw [h3]
  rfl
theorem any_flush {S:List Sec} {C:List Pnd} (hm:mayD S []=true) (hC:mayD S C=true) {a:Int} (h0:0≤a) (h1:a < (S.length:Int)) :
  (∀ q ∈ C,q.1=a→(∀ r ∈ C,r.1=a→r.2=q.2)→optAt (flS S C) [] a=some q.2)∧((∀ q ∈ C,q.1≠a)→optAt (flS S C) [] a=optAt S [] a):=by
 have hf:=rd_flush hC a
 have e:optAt (flS S C) [] a=optAt S C a:=by
  unfold optAt
  rw [hf.1,hf.2]
 rw [e,optAt_may hC h0 h1,optAt_may hm h0 h1]
 have hl:lastW [] a=none:=rfl
 rw [hl]
 constructor
 ·intro q hq he hu
  unfold lastW
  cases hfd:C.reverse.find? (fun p=>decide (p.1=a)) with
  | none =>
   rw [List.find?_eq_none] at hfd
   exact absurd (decide_eq_true he) (hfd q (List.mem_reverse.2 hq))
  | some r =>
   have h2:=List.find?_some hfd
   have h3:=List.mem_reverse.1 (List.mem_of_find?_eq_some hfd)
   have h4:=hu r h3 (of_decide_eq_true h2)
   show some r.2=some q.2
   rw [h4]
 ·intro hn
  unfold lastW
  rw [List.find?_eq_none.2 (fun q hq hd=>hn q (List.mem_reverse.1 hq) (of_decide_eq_true hd))]
  rfl
section
variable {P T A M W Q p:Int} {S:List Sec} {set marks:Txt} {wh:Nat→Bool} {m:Nat}
theorem df_all (hT:mayT P T A M W Q S []) (hp:0≤p∧p < P) (hm:m=(pagC T).toNat) (hmk:marks=mkL T A S [] p m) (hset:∀ n,n < m→subP (set.getD n 0) (fulP T n)) :
  (∀ many:Nat,∃ S' C',dnA (actW (whP T A p set wh m)) many S []=some (S',C')∧mayD S' C'=true∧(∀ c ∈ C',c ∈ whP T A p set wh m)∧S'.length=S.length∧∀ F,mayT P T A M W Q (crS S' C' F) [] ∧
   (∀ j,j < m→(mkL T A (crS S' C' F) [] p m).getD j 0=marks.getD j 0∨(mkL T A (crS S' C' F) [] p m).getD j 0=(outW marks set wh m).getD j 0∨(mkL T A (crS S' C' F) [] p m).getD j 0=fulP T j) ∧
   ((actW (whP T A p set wh m)).length≤many→mkL T A (crS S' C' F) [] p m=outW marks set wh m)) ∧
  ∃ S4,dnA (actW (whP T A p set wh m)) (actW (whP T A p set wh m)).length S []=some (S4,[])∧mayT P T A M W Q S4 []∧mkL T A S4 [] p m=outW marks set wh m:=by
 obtain ⟨hc,hD,hl⟩:=hT
 have hgi:=pag_is hc
 have hat:∀ n:Nat,n < m→0≤atP T A p n∧atP T A p n < (S.length:Int):=fun n hn=>by
  have:=at_page hc hp (m:=(n:Int)) ⟨by omega,by omega⟩
  exact ⟨this.2.2.1,by rw [hl];exact this.2.2.2⟩
 have hsame:∀ n n':Nat,n < m→n' < m→atP T A p n=atP T A p n'→n=n':=fun n n' h h' e=>by
  have:=(at_same hc (p:=p) (q:=p) (m:=(n:Int)) (m':=(n':Int)) ⟨by omega,by omega⟩ ⟨by omega,by omega⟩ e).2
  omega
 obtain ⟨L,hL⟩:∃ L,L=whP T A p set wh m:=⟨_,rfl⟩
 have hmem:∀ q,q ∈ L↔∃ n,n < m∧wh n=true∧q=(atP T A p (n:Int),pgSec p (n:Int) (set.getD n 0)):=fun q=>by rw [hL];exact whP_mem
 have hlen:L.length≤2:=by rw [hL];exact Nat.le_trans (whP_len m) (by omega)
 have hDL:mayD S L=true:=by
  have h:=(mayD_iff S []).1 hD
  refine (mayD_iff S L).2 ⟨⟨h.1.1,h.1.2.1,by omega⟩,h.2.1,fun q hq=>?_⟩
  obtain ⟨n,hn,_,rfl⟩:=(hmem q).1 hq
  exact ⟨(hat n hn).1,(hat n hn).2,pgSec_len _ _⟩
 have hsub:∀ k,mayD S (L.take k)=true:=fun k=>may_sub hDL k
 rw [← hL]
 have tell:∀ {S':List Sec} {j:Nat},j < m→(mkL T A S' [] p m).getD j 0=toldP T p j (optAt S' [] (atP T A p (j:Int))):=fun hj=>mk_at hj
 have tnew:∀ j,j < m→toldP T p j (some (pgSec p (j:Int) (set.getD j 0)))=set.getD j 0:=fun j hj=>told_text (hset j hj)
 have hmj:∀ j,j < m→marks.getD j 0=toldP T p j (optAt S [] (atP T A p (j:Int))):=fun j hj=>by rw [hmk];exact mk_at hj
 have hflush:mkL T A (flS S L) [] p m=outW marks set wh m:=by
  refine List.ext_getElem (by rw [mk_length,outW_length]) fun j h1 h2=>?_
  have hj:j < m:=by rw [mk_length] at h1;exact h1
  have e1:∀ (l:Txt) (h:j < l.length),l[j]=l.getD j 0:=fun l h=>by rw [gtD,geE h];rfl
  rw [e1 _ h1,e1 _ h2,tell hj,outW_at hj]
  obtain ⟨f1,f2⟩:=any_flush hD hDL (hat j hj).1 (hat j hj).2
  by_cases hw:wh j=true
  ·rw [if_pos hw,f1 _ ((hmem _).2 ⟨j,hj,hw,rfl⟩) rfl (fun r hr he=>?_),tnew j hj]
   obtain ⟨n,hn,_,rfl⟩:=(hmem r).1 hr
   have:=hsame n j hn hj he
   subst this
   rfl
  ·rw [if_neg hw,f2 (fun q hq he=>?_),hmj j hj]
   obtain ⟨n,hn,hwn,rfl⟩:=(hmem q).1 hq
   have:=hsame n j hn hj he
   subst this
   exact hw hwn
 have hfm:mayD (flS S L) []=true∧(flS S L).length=S.length:=cr_may hDL _
 have hmid:∀ (C:List Pnd),mayD S C=true→(∀ c ∈ C,c ∈ L)→∀ F j,j < m→(mkL T A (crS S C F) [] p m).getD j 0=marks.getD j 0∨(mkL T A (crS S C F) [] p m).getD j 0=(outW marks set wh m).getD j 0∨(mkL T A (crS S C F) [] p m).getD j 0=fulP T j:=fun C hC hCL F j hj=>by
  rw [tell hj,outW_at hj,hmj j hj]
  rcases any_crash hD hC F (hat j hj).1 (hat j hj).2 with h | ⟨q,hq,he,h⟩
  ·rw [h];exact .inl rfl
  ·obtain ⟨n,hn,hwn,rfl⟩:=(hmem q).1 (hCL q hq)
   have:=hsame n j hn hj he
   subst this
   rcases h with h | h
   ·rw [h,tnew n hn,if_pos hwn];exact .inr (.inl rfl)
   ·rw [h];exact .inr (.inr rfl)
 by_cases h0:L=[]
 ·have ha:actW L=[]:=if_pos h0
  have hout:mkL T A S [] p m=outW marks set wh m:=by
   have:flS S L=S:=by rw [h0];exact cr_none hD _
   rw [← hflush,this]
  rw [ha]
  refine ⟨fun many=>⟨S,[],dnA_nil _ _ _,hD,fun c hc=>absurd hc List.not_mem_nil,rfl,fun F=>?_⟩,S,dnA_nil _ _ _,⟨hc,hD,hl⟩,hout⟩
  rw [cr_none hD F]
  exact ⟨⟨hc,hD,hl⟩,fun j hj=>.inl (by rw [hmk]),fun _=>hout⟩
 ·have ha:actW L=actsA L:=if_neg h0
  have hd:∀ k,dnA (actsA L) k S []=if k≤L.length then some (S,L.take k) else some (flS S L,[]):=fun k=>by
   have:=dnA_acts (L:=L) [] hDL k
   rw [List.append_nil] at this
   rw [this]
   by_cases hk:k≤L.length
   ·rw [if_pos hk,if_pos hk]
   ·rw [if_neg hk,if_neg hk,dnA_nil]
  have hal:(actsA L).length=L.length + 1:=actsA_length L
  rw [ha,hal]
  refine ⟨fun many=>?_,flS S L,by rw [hd,if_neg (by omega)],⟨hc,hfm.1,by rw [hfm.2];exact hl⟩,hflush⟩
  rw [hd]
  by_cases hk:many≤L.length
  ·rw [if_pos hk]
   refine ⟨S,L.take many,rfl,hsub many,fun c hc=>List.mem_of_mem_take hc,rfl,fun F=>?_⟩
   have hcm:=cr_may (hsub many) F
   exact ⟨⟨hc,hcm.1,by rw [hcm.2];exact hl⟩,hmid _ (hsub many) (fun c hc=>List.mem_of_mem_take hc) F,fun h=>by omega⟩
  ·rw [if_neg hk]
   refine ⟨flS S L,[],rfl,hfm.1,fun c hc=>absurd hc List.not_mem_nil,hfm.2,fun F=>?_⟩
   rw [cr_none hfm.1 F]
   exact ⟨⟨hc,hfm.1,by rw [hfm.2];exact hl⟩,fun j hj=>.inr (.inl (by rw [hflush])),fun _=>hflush⟩
end
end Go.Proofs.Ytdbeiikaeccbhaa
namespace Go.Proofs.Ytdbeiikaeccbhaa
open Go.RowKit
set_option maxRecDepth 100000
def ckL (T:Int):List Txt→Int
 | []=>0
 | s :: l=>if chk T s=0 then ckL T l else chk T s
theorem ckL_at {T:Int}:∀ {l:List Txt} {k:Nat},(∀ j,j < k→chk T (l.getD j [])=0)→k < l.length→chk T (l.getD k [])≠0→ckL T l=chk T (l.getD k [])
 | [],k,_,h,_=>absurd h (Nat.not_lt_zero _)
 | s :: l,0,_,_,h=>by
  have h':chk T s≠0:=h
  show (if chk T s=0 then ckL T l else chk T s)=chk T s
  rw [if_neg h']
 | s :: l,k + 1,h1,h2,h3=>by
  have h0:chk T s=0:=h1 0 (Nat.succ_pos _)
  show (if chk T s=0 then ckL T l else chk T s)=chk T (l.getD k [])
  rw [if_pos h0]
  exact ckL_at (fun j hj=>h1 (j + 1) (Nat.succ_lt_succ hj)) (Nat.lt_of_succ_lt_succ h2) h3
theorem ckL_all {T:Int}:∀ {l:List Txt},(∀ j,j < l.length→chk T (l.getD j [])=0)→ckL T l=0
 | [],_=>rfl
 | s :: l,h=>by
  have h0:chk T s=0:=h 0 (Nat.succ_pos _)
  show (if chk T s=0 then ckL T l else chk T s)=0
  rw [if_pos h0]
  exact ckL_all fun j hj=>h (j + 1) (Nat.succ_lt_succ hj)
abbrev St:=(Option Addr × Nat × Nat) × Txt
def stV (r:St):Value:=.slice r.1.1 r.1.2.1 r.1.2.2
def zSt:St:=((none,0,0),[])
theorem st_at {R:List St} {k:Nat} (hk:k < R.length):(R.map stV)[k]?=some (stV (R.getD k zSt)):=by
 rw [List.getElem?_map,geE hk,gtD,geE hk]
 rfl
theorem st_txt {R:List St} {k:Nat}:(R.map (·.2)).getD k []=(R.getD k zSt).2:=by
 rw [gtD,List.getElem?_map,gtD]
 cases R[k]? <;> rfl
theorem pcheck14_any (P T A M W Q p:Int) (g:Nat) (R:List St) (w:World) (hg:Blk w g 22 (R.map stV)) (hR:∀ r ∈ R,Arg w .u8 r.1.1 r.1.2.1 r.1.2.2 r.2∧∀ z ∈ r.2,isByte z) (hm:R.length≤16) :
  Calls Try.prog 22 #[cfgV P T A M W Q,.int .i64 p,.slice (some ⟨g,0,none⟩) R.length R.length] w (fun e w'=>e=.returned (.int .i64 (if pgeE P T A M W Q p 0=0 then ckL T (R.map (·.2)) else pgeE P T A M W Q p 0))∧Below w.heap.size w w'):=by
 obtain ⟨x,hbel⟩:=box_cfg w P T A M W Q
 obtain ⟨w1,hw1⟩:∃ x:World,x=w.alloc (.cells #[.int .i64 P,.int .i64 T,.int .i64 A,.int .i64 M,.int .i64 W,.int .i64 Q] 28):=⟨_,rfl⟩
 rw [← hw1] at x hbel
 have X:=Lh x
 have B:=Lh hbel
 obtain ⟨c0,c1,c2,c3,c4,c5⟩:=x.cfg
 have PO:=Lh (fun wx:World=>ppage_any P T A M W Q p 0 wx)
 have GB:=Lh hg
 have HR:=Lh (show ∀ k,k < R.length→Arg w .u8 (R.getD k zSt).1.1 (R.getD k zSt).1.2.1 (R.getD k zSt).1.2.2 (R.getD k zSt).2∧∀ z ∈ (R.getD k zSt).2,isByte z from fun k hk=>hR _ (by
  rw [gtD,geE hk]
  exact List.getElem_mem hk))
 obtain ⟨E,hE⟩:∃ y,y=pgeE P T A M W Q p 0:=⟨_,rfl⟩
 rw [← hE] at PO ⊢
 obtain ⟨m,hml⟩:∃ y,y=R.length:=⟨_,rfl⟩
 rw [← hml] at HR hm ⊢
 have LM:=Lh (show (R.map (·.2)).length=m by rw [List.length_map,hml])
 have AT:=Lh (fun k (hk:k < m)=>st_at (R:=R) (k:=k) (by rw [← hml];exact hk))
 clear x hbel hg hR hE hml
 by_cases h0:E=0
 ·rw [if_pos h0]
  subst h0
  obtain ⟨F,hF⟩:∃ y,y=ckL T (R.map (·.2)):=⟨_,rfl⟩
  rw [← hF]
  have HF:=Lh hF
  clear hF
  go_enter Try.func22,Try.ntmps22
  go_wp2_with fail
  rw [← hw1]
  clear hw1
  refine (PO.out _).mono ?_
  rintro e w2 ⟨rfl,hb⟩
  have B:=Lh (B.out.trans (hb.mono B.out.size))
  have X:=Lh (X.out.below hb X.out.lt)
  clear hb c0 c1 c2 c3 c4 c5 PO
  go_wp2
  go_loopw [23] (fun i wr=>∃ k:Nat,k≤m∧i=.int .i64 k∧(∀ j,j < k→chk T ((R.map (·.2)).getD j [])=0)∧wr=w2) (fun i _=>m - (intOf i).toNat)
  case atStart=>exact ⟨0,Nat.zero_le _,rfl,fun j h=>absurd h (Nat.not_lt_zero _),rfl⟩
  case round =>
   obtain ⟨k,hk,rfl,hall,hwr0⟩:=hrel
   subst hwr0
   have ALL:=Lh hall
   clear hall
   by_cases hkm:k < m
   ·have hki:(k:Int) < (m:Int):=by omega
    have hwr:IntKind.i64.wrap (k:Int)=k:=Lib.wrap_i64_small k (by omega)
    obtain ⟨ha,hby⟩:=HR.out k hkm
    have hz:=(GB.out.below B.out GB.out.lt).cell k
    rw [AT.out k hkm] at hz
    have hst:=st_txt (R:=R) (k:=k)
    obtain ⟨⟨⟨Ak,nk,ck⟩,sk⟩,hr⟩:∃ y,y=R.getD k zSt:=⟨_,rfl⟩
    rw [← hr] at ha hby hz hst
    dsimp only at ha hby hst
    simp only [stV] at hz
    have CK:=Lh (b_check_any T Ak nk ck sk wr (ha.below B.out) hby)
    have c1:=X.out.cfg.2.1
    have HST:=Lh hst
    obtain ⟨ch,hch⟩:∃ y,y=chk T sk:=⟨_,rfl⟩
    rw [← hch] at CK
    have HCH:=Lh hch
    clear ha hby hr hst hch
    by_cases hq:ch=0
    ·subst hq
     have ALL2:=Lh (show ∀ j,j < k + 1→chk T ((R.map (·.2)).getD j [])=0 from fun j hj=>by
      by_cases e:j=k
      ·rw [e,HST.out];exact HCH.out.symm
      ·exact ALL.out j (by omega))
     go_wp2_with fail
     refine CK.out.mono ?_
     rintro e w3 ⟨rfl,rfl⟩
     clear CK hz c1
     go_wp2
     go_roundw
     case rel=>exact ⟨k + 1,by omega,by go_num,ALL2.out,trivial⟩
     case measure=>simp [intOf];omega
    ·have FE:=Lh (show F=ch by rw [HF.out,ckL_at ALL.out (by rw [LM.out];exact hkm) (by rw [HST.out,← HCH.out];exact hq),HST.out,HCH.out])
     have hqb:(ch != 0)=true:=bne_iff_ne.2 hq
     clear hq
     go_wp2_with fail
     refine CK.out.mono ?_
     rintro e w3 ⟨rfl,rfl⟩
     clear CK hz c1
     go_wp2
     go_ret
     exact ⟨by rw [FE.out];rfl,B.out⟩
   ·obtain rfl:k=m:=by omega
    have FE:=Lh (show F=0 by rw [HF.out];exact ckL_all fun j hj=>ALL.out j (by rw [LM.out] at hj;exact hj))
    go_wp2
    go_ret
    exact ⟨by rw [FE.out];rfl,B.out⟩
 ·rw [if_neg h0]
  have hqb:(E != 0)=true:=bne_iff_ne.2 h0
  clear h0
  go_enter Try.func22,Try.ntmps22
  go_wp2_with fail
  rw [← hw1]
  clear hw1
  refine (PO.out _).mono ?_
  rintro e w2 ⟨rfl,hb⟩
  have B:=Lh (B.out.trans (hb.mono B.out.size))
  clear hb c0 c1 c2 c3 c4 c5 PO
  go_wp2
  go_ret
  exact ⟨rfl,B.out⟩
theorem pge0 {P T A M W Q p:Int}:pgeE P T A M W Q p 0=if mayC P T A M W Q then (if 0≤p∧p < P then 0 else 2) else 8:=by
 unfold pgeE
 have h:=pagC_or T
 by_cases hc:mayC P T A M W Q
 ·rw [if_pos hc,if_pos hc]
  by_cases hp:0≤p∧p < P
  ·rw [if_pos hp,if_pos ⟨hp.1,by omega,by omega,by omega⟩]
  ·rw [if_neg hp,if_neg (fun e=>hp ⟨e.1,by omega⟩)]
 ·rw [if_neg hc,if_neg hc]
theorem chk_may {P T A M W Q:Int} (hc:mayC P T A M W Q) (s:Txt):chk T s=if may T.toNat s then 0 else 8:=by
 unfold chk
 rw [if_pos (by unfold mayC at hc;omega)]
theorem df_two {P T A M W Q p:Int} {a b:Txt}:(if pgeE P T A M W Q p 0=0 then ckL T [a,b] else pgeE P T A M W Q p 0)=dfE P T A M W Q p a b:=by
 rw [pge0]
 unfold dfE
 by_cases hc:mayC P T A M W Q
 ·rw [if_pos hc,if_pos hc]
  by_cases hp:0≤p∧p < P
  ·rw [if_pos hp,if_pos hp,if_pos rfl]
   show (if chk T a=0 then (if chk T b=0 then 0 else chk T b) else chk T a)=_
   rw [chk_may hc a,chk_may hc b]
   by_cases ha:may T.toNat a
   ·by_cases hb:may T.toNat b
    ·simp [ha,hb]
    ·simp [ha,hb]
   ·simp [ha]
  ·rw [if_neg hp,if_neg hp,if_neg (by decide)]
 ·rw [if_neg hc,if_neg hc,if_neg (by decide)]
theorem df_one {P T A M W Q p:Int} {a:Txt}:(if pgeE P T A M W Q p 0=0 then ckL T [a] else pgeE P T A M W Q p 0)=dfE P T A M W Q p a a:=by
 rw [← df_two]
 by_cases h:pgeE P T A M W Q p 0=0
 ·rw [if_pos h,if_pos h]
  show (if chk T a=0 then 0 else chk T a)=(if chk T a=0 then (if chk T a=0 then 0 else chk T a) else chk T a)
  by_cases ha:chk T a=0
  ·simp [ha]
  ·simp [ha]
 ·rw [if_neg h,if_neg h]
end Go.Proofs.Ytdbeiikaeccbhaa
