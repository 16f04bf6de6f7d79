/- Texts of the layers below, joined. -/
import Derived.Test.YtdbeiikaeccbhaaDa4
import Derived.Test.YtdbeiikaeccbhaaDa23
set_option maxRecDepth 100000
set_option maxHeartbeats 12800000
set_option linter.unusedVariables false
namespace Go.Proofs.Ytdbeiikaeccbhaa
end Go.Proofs.Ytdbeiikaeccbhaa
namespace Go.Proofs.Ytdbeiikaeccbhaa
theorem optAt_may {S:List Sec} {C:List Pnd} (h:mayD S C=true) {a:Int} (h0:0≤a) (h1:a < (S.length:Int)):optAt S C a=match lastW C a with | some t=>some t | none=>(if (secAt S a).1=true then none else some (secAt S a).2):=by
 have ha:askE S C a=0:=by rw [ask_may h,if_neg (by omega)]
 unfold optAt rdB rdE gotB gotOk
 rw [if_pos ha]
 rcases hl:lastW C a with _ | t
 ·rcases hb:(secAt S a).1 with _ | _
  ·simp
  ·simp
 ·simp
end Go.Proofs.Ytdbeiikaeccbhaa
namespace Go.Proofs.Ytdbeiikaeccbhaa
end Go.Proofs.Ytdbeiikaeccbhaa
namespace Go.Proofs.Ytdbeiikaeccbhaa
end Go.Proofs.Ytdbeiikaeccbhaa
namespace Go.Proofs.Ytdbeiikaeccbhaa
def mayT (P T A M W Q:Int) (S:List Sec) (C:List Pnd):Prop:=mayC P T A M W Q∧mayD S C=true∧(S.length:Int)=fE P T A
instance (P T A M W Q:Int) (S:List Sec) (C:List Pnd):Decidable (mayT P T A M W Q S C):=by unfold mayT;infer_instance
def tcE (P T A M W Q:Int) (S:List Sec) (C:List Pnd):Int:=if mayT P T A M W Q S C then 0 else 8
theorem opts_byte {S:List Sec} {C:List Pnd} (hS:∀ s ∈ S,∀ z ∈ s.2,isByte z) (hC:∀ p ∈ C,∀ z ∈ p.2,isByte z) (a:Int) (n i:Nat) (T:Txt) (h:(optsOf S C a n).getD i none=some T):∀ z ∈ T,isByte z:=by
 rcases Nat.lt_or_ge i n with hi | hi
 ·rw [optsOf_get S C a hi] at h
  unfold optAt at h
  split at h
  ·rename_i h0
   injection h with h
   subst h
   exact (rd_good h0 hS hC).2
  ·cases h
 ·rw [gtD,List.getElem?_eq_none (by rw [optsOf_length];exact hi)] at h
  cases h
end Go.Proofs.Ytdbeiikaeccbhaa
namespace Go.Proofs.Ytdbeiikaeccbhaa
def fulP (T:Int) (n:Nat):Int:=(allB T).getD n 0
def subP (b a:Int):Prop:=b.toNat &&& a.toNat=b.toNat
instance (b a:Int):Decidable (subP b a):=by unfold subP;exact inferInstance
def pgSec (p n b:Int):Txt:=[1,p,n,b] ++ List.replicate 28 0
def toldP (T p:Int) (n:Nat) (o:Option Txt):Int:=match o with
 | none=>fulP T n
 | some t=>if t=noughts then 0 else if subP (t.getD 3 0) (fulP T n)∧t=pgSec p n (t.getD 3 0) then t.getD 3 0 else fulP T n
def atP (T A p n:Int):Int:=fP A + p * pagC T + n
def pxE (P T A M W Q p n b:Int):Int:=if pgeE P T A M W Q p n=0 then (if subP b (fulP T n.toNat) then 0 else 2) else pgeE P T A M W Q p n
def pxT (P T A M W Q p n b:Int):Txt:=if pxE P T A M W Q p n b=0 then pgSec p n b else []
def pxN (P T A M W Q p n b:Int):Int:=if pxE P T A M W Q p n b=0 then atP T A p n else 0
def mkL (T A:Int) (S:List Sec) (C:List Pnd) (p:Int) (k:Nat):Txt:=(List.range k).map fun n=>toldP T p n (optAt S C (atP T A p (n:Int)))
def mkE (P T A M W Q:Int) (S:List Sec) (C:List Pnd) (p:Int):Int:=if mayT P T A M W Q S C then (if 0≤p∧p < P then 0 else 2) else 8
def mkB (P T A M W Q:Int) (S:List Sec) (C:List Pnd) (p:Int):Txt:=if mkE P T A M W Q S C p=0 then mkL T A S C p (pagC T).toNat else []
section
variable {P T A M W Q p:Int} {S:List Sec} {C:List Pnd} {b:Int} {n:Nat}
theorem all_made (h:mayC P T A M W Q):allB T=made T.toNat fun _=>true:=by
 unfold mayC at h
 unfold allB manyE
 rw [if_pos (if_pos ⟨by omega,by omega⟩)]
theorem all_byte:∀ z ∈ allB T,isByte z:=by
 unfold allB
 split
 ·exact madeTo_byte _ _ _
 ·exact fun z hz=>absurd hz List.not_mem_nil
theorem pag_pgs (h:mayC P T A M W Q):(pagC T).toNat=pgs T.toNat:=by
 unfold mayC at h
 unfold pagC pgs
 split <;> omega
theorem pag_is (h:mayC P T A M W Q):1≤pagC T∧pagC T≤2:=by
 unfold pagC
 split <;> omega
theorem ful_byte:isByte (fulP T n):=by
 unfold fulP
 rcases Nat.lt_or_ge n (allB T).length with h | h
 ·rw [gtD,geE h]
  exact all_byte _ (List.getElem_mem h)
 ·rw [gtD,List.getElem?_eq_none h]
  exact ⟨by decide,by decide⟩
theorem sub_self (a:Int):subP a a:=Nat.and_self _
theorem sub_zero (a:Int):subP 0 a:=Nat.zero_and _
theorem pgSec_getD (q m:Int):(pgSec q m b).getD 3 0=b:=rfl
theorem pgSec_len (q m:Int):(pgSec q m b).length=32:=by simp [pgSec]
theorem pgSec_not (q m:Int):pgSec q m b≠noughts:=by
 intro h
 have h2:(pgSec q m b).getD 0 0=noughts.getD 0 0:=by rw [h]
 revert h2
 show (1:Int)=_→_
 decide
theorem told_some {t:Txt}:toldP T p n (some t)=if t=noughts then 0 else if subP (t.getD 3 0) (fulP T n)∧t=pgSec p n (t.getD 3 0) then t.getD 3 0 else fulP T n:=rfl
theorem told_text (h:subP b (fulP T n)):toldP T p n (some (pgSec p n b))=b:=by
 rw [told_some,if_neg (pgSec_not _ _),if_pos ⟨by rw [pgSec_getD];exact h,by rw [pgSec_getD]⟩,pgSec_getD]
theorem told_is {o:Option Txt} (ho:∀ t,o=some t→∀ z ∈ t,isByte z):isByte (toldP T p n o)∧subP (toldP T p n o) (fulP T n):=by
 cases o with
 | none=>exact ⟨ful_byte,sub_self _⟩
 | some t =>
  rw [told_some]
  split
  ·exact ⟨⟨by decide,by decide⟩,sub_zero _⟩
  ·split
   ·rename_i h1 h2
    refine ⟨?_,h2.1⟩
    rcases Nat.lt_or_ge 3 t.length with h | h
    ·rw [gtD,geE h]
     exact ho t rfl _ (List.getElem_mem h)
    ·rw [gtD,List.getElem?_eq_none h]
     exact ⟨by decide,by decide⟩
   ·exact ⟨ful_byte,sub_self _⟩
theorem mk_length {k:Nat}:(mkL T A S C p k).length=k:=by simp [mkL]
theorem mk_at {k m:Nat} (h:m < k):(mkL T A S C p k).getD m 0=toldP T p m (optAt S C (atP T A p (m:Int))):=by
 unfold mkL
 rw [gtD,List.getElem?_map,List.getElem?_range h]
 rfl
theorem opt_byte (hS:∀ s ∈ S,∀ z ∈ s.2,isByte z) (hC:∀ c ∈ C,∀ z ∈ c.2,isByte z) (a:Int) (t:Txt) (h:optAt S C a=some t):∀ z ∈ t,isByte z:=by
 have h2:=opts_byte hS hC a 1 0 t
 refine h2 ?_
 unfold optsOf
 simpa using h
theorem mk_set (h:mayC P T A M W Q) (hS:∀ s ∈ S,∀ z ∈ s.2,isByte z) (hC:∀ c ∈ C,∀ z ∈ c.2,isByte z):IsSet T.toNat (mkL T A S C p (pagC T).toNat):=by
 have hk:=pag_pgs h
 have hby:∀ z ∈ mkL T A S C p (pagC T).toNat,isByte z:=fun z hz=>by
  unfold mkL at hz
  obtain ⟨m,hm,rfl⟩:=List.mem_map.1 hz
  exact (told_is (opt_byte hS hC _)).1
 refine ⟨by rw [mk_length,hk],hby,fun t ht=>?_⟩
 rcases Nat.lt_or_ge (t / 8) (pagC T).toNat with h8 | h8
 ·have hs:=(told_is (T:=T) (p:=p) (n:=t / 8) (opt_byte hS hC (atP T A p ((t / 8:Nat):Int)))).2
  have hf:hasT (allB T) t=false:=by
   rw [all_made h,hasT_made]
   simp;omega
  unfold hasT pg at hf ⊢
  rw [mk_at h8]
  unfold subP fulP at hs
  rw [← hs,Nat.testBit_and,hf,Bool.and_false]
 ·exact hasT_beyond _ (by rw [mk_length];omega)
theorem mk_chk (h:mayC P T A M W Q) (hS:∀ s ∈ S,∀ z ∈ s.2,isByte z) (hC:∀ c ∈ C,∀ z ∈ c.2,isByte z):chk T (mkL T A S C p (pagC T).toNat)=0:=by
 have:=chk_set (m:=T.toNat) (by unfold mayC at h;omega) (by unfold mayC at h;omega) (mk_set (p:=p) (C:=C) h hS hC)
 rwa [show ((T.toNat:Nat):Int)=T by unfold mayC at h;omega] at this
theorem at_page (h:mayC P T A M W Q) {m:Int} (hp:0≤p∧p < P) (hm:0≤m∧m < pagC T):pgeE P T A M W Q p m=0∧pgeN P T A M W Q p m=atP T A p m∧0≤atP T A p m∧atP T A p m < fE P T A:=by
 have hg:=pag_is h
 have hc:0≤p∧p≤P - 1∧0≤m∧m≤pagC T - 1:=⟨by omega,by omega,by omega,by omega⟩
 have e1:pgeE P T A M W Q p m=0:=by
  unfold pgeE
  rw [if_pos h,if_pos hc]
 have e2:pgeN P T A M W Q p m=atP T A p m:=by
  unfold pgeN
  rw [if_pos h,if_pos hc]
  rfl
 unfold mayC at h
 have h1:0≤p * pagC T:=Int.mul_nonneg hp.1 (by omega)
 have h2:p * pagC T≤(P - 1) * pagC T:=Int.mul_le_mul_of_nonneg_right (by omega) (by omega)
 have h3:(P - 1) * pagC T=P * pagC T - pagC T:=by rw [Int.sub_mul,Int.one_mul]
 have hT:0≤4 * P * T:=Int.mul_nonneg (by omega) (by omega)
 refine ⟨e1,e2,?_,?_⟩
 ·unfold atP fP
  omega
 ·unfold atP fP fE
  omega
theorem at_same (h:mayC P T A M W Q) {q m m':Int} (hm:0≤m∧m < pagC T) (hm':0≤m'∧m' < pagC T) (e:atP T A p m=atP T A q m'):p=q∧m=m':=by
 unfold atP at e
 have hg:=pag_is h
 rcases (by omega:pagC T=1∨pagC T=2) with hc | hc
 ·rw [hc] at e hm hm'
  omega
 ·rw [hc] at e hm hm'
  omega
end
end Go.Proofs.Ytdbeiikaeccbhaa
