/- Texts of layers 1 to 12, joined. -/
import Derived.Test.YtifgcfepbenpjaaGreatNa48
import Derived.RegionTactic
import Derived.WalkKit
import Derived.Deep.RegionWith
set_option maxRecDepth 100000
set_option maxHeartbeats 12800000
set_option linter.unusedVariables false
namespace Go.Proofs.YtifgcfepbenpjaaGreat
open Go.RowKit
def lst (listed:Array Bool) (i:Nat):Bool:=listed.getD i false
def depsB (ops:Array Oper) (f:Nat→Bool) (i:Nat):Bool:=((ops[i]?).map fun o=>o.after.all fun e=>!Region.binds .any e || f e.on).getD false
def StepJ (P:Program) (ops:Array Oper) (Q:Exit→Act→World→Prop) (J:(Nat→Bool)→Act→World→Prop) (i:Nat):Prop :=
 match ops[i]? with
 | none=>False
 | some o=>∀ (f:Nat→Bool) (a:Act) (w:World),J f a w→f i=false→depsB ops f i=true →
   ∀ K':Act→World→Prop,(∀ a' w',J (fun j=>if j=i then true else f j) a' w'→K' a' w')→if Region.wanted o (yielded ops a.tmps)=true then Oper.wp P o a w K' Q else K' (a.put o.dst undef) w
def StepsJ (P:Program) (ops:Array Oper) (Q:Exit→Act→World→Prop) (J:(Nat→Bool)→Act→World→Prop):Nat→Prop
 | 0=>True
 | n + 1=>StepsJ P ops Q J n∧StepJ P ops Q J n
theorem StepsJ.at_ {P:Program} {ops:Array Oper} {Q:Exit→Act→World→Prop} {J:(Nat→Bool)→Act→World→Prop}:∀ {n:Nat},StepsJ P ops Q J n→∀ {i:Nat},i < n→StepJ P ops Q J i
 | 0,_,_,hi=>absurd hi (Nat.not_lt_zero _)
 | n + 1,h,i,hi=>by
  rcases Nat.lt_succ_iff_lt_or_eq.1 hi with hl | rfl
  ·exact StepsJ.at_ h.1 hl
  ·exact h.2
def preB (ops:Array Oper):Nat→Nat→Nat→Bool
 | 0,_,_=>false
 | n + 1,i,j=>((ops[i]?).map fun o=>o.after.any fun e=>Region.binds .any e && (e.on == j || preB ops n e.on j)).getD false
def tailB (ops:Array Oper) (st:Nat):Bool:=(List.range ops.size).all fun i=>((decide (i < st)) || (List.range st).all fun j=>preB ops ops.size i j) && ((ops[i]?).map fun o=>o.after.all fun e=>!Region.binds .any e || decide (e.on < i)).getD false
def uptoA (ops:Array Oper) (st:Nat):Array Bool:=((List.range ops.size).map fun i=>decide (i < st)).toArray
theorem pre_listed {ops:Array Oper} {f:Nat→Bool} (hc:∀ i,f i=true→depsB ops f i=true):∀ (n i j:Nat),preB ops n i j=true→depsB ops f i=true→f j=true
 | 0,_,_,h,_=>by cases h
 | n + 1,i,j,h,hd=>by
  unfold preB at h
  unfold depsB at hd
  cases ho:ops[i]? with
  | none=>rw [ho] at h;cases h
  | some o =>
   rw [ho] at h hd
   simp only [Option.map_some,Option.getD_some,Array.any_eq_true,Bool.and_eq_true,Bool.or_eq_true,beq_iff_eq] at h
   simp only [Option.map_some,Option.getD_some,Array.all_eq_true,Bool.or_eq_true,Bool.not_eq_true'] at hd
   obtain ⟨k,hk,hb,hj⟩:=h
   have hfk:f (o.after[k]).on=true:=by
    rcases hd k hk with h1 | h1
    ·rw [hb] at h1;cases h1
    ·exact h1
   rcases hj with e | hp
   ·rw [← e];exact hfk
   ·exact pre_listed hc n _ j hp (hc _ hfk)
theorem deps_mono {ops:Array Oper} {f f':Nat→Bool} (h:∀ i,f i=true→f' i=true) {i:Nat} (hd:depsB ops f i=true):depsB ops f' i=true:=by
 unfold depsB at hd ⊢
 cases ho:ops[i]? with
 | none=>rw [ho] at hd;cases hd
 | some o =>
  rw [ho] at hd
  simp only [Option.map_some,Option.getD_some,Array.all_eq_true,Bool.or_eq_true,Bool.not_eq_true'] at hd ⊢
  exact fun k hk=>(hd k hk).imp id (h _)
theorem ready_iff {ops:Array Oper} {listed:Array Bool} (hs:listed.size=ops.size) {i:Nat}:i ∈ Region.ready .any ops listed↔i < ops.size∧lst listed i=false∧depsB ops (lst listed) i=true:=by
 unfold Region.ready lst depsB
 rw [List.mem_filter,List.mem_range,Bool.and_eq_true,Bool.not_eq_true']
 constructor
 ·rintro ⟨h1,h2,h3⟩
  refine ⟨h1,?_,h3⟩
  rw [Array.getD_eq_getD_getElem?,Array.getElem?_eq_getElem (by omega)] at h2 ⊢
  exact h2
 ·rintro ⟨h1,h2,h3⟩
  refine ⟨h1,?_,h3⟩
  rw [Array.getD_eq_getD_getElem?,Array.getElem?_eq_getElem (by omega)] at h2 ⊢
  exact h2
theorem lst_set {listed:Array Bool} {i:Nat} (hi:i < listed.size):lst (listed.setIfInBounds i true)=fun j=>if j=i then true else lst listed j:=by
 funext j
 unfold lst
 rw [Array.getD_eq_getD_getElem?,Array.getElem?_setIfInBounds]
 by_cases h:i=j
 ·subst h
  rw [if_pos rfl,if_pos hi,if_pos rfl]
  rfl
 ·rw [if_neg h,if_neg (fun e=>h e.symm),Array.getD_eq_getD_getElem?]
def cntF (f:Nat→Bool):Nat→Nat
 | 0=>0
 | n + 1=>cntF f n + (if f n=true then 1 else 0)
theorem cntF_le (f:Nat→Bool):∀ n,cntF f n≤n
 | 0=>Nat.le_refl _
 | n + 1=>by
  have:=cntF_le f n
  unfold cntF
  split <;> omega
theorem cntF_lt {f:Nat→Bool}:∀ {n:Nat},¬ (∀ j,j < n→f j=true)→cntF f n < n
 | 0,h=>absurd (fun j hj=>absurd hj (Nat.not_lt_zero _)) h
 | n + 1,h=>by
  unfold cntF
  by_cases hn:f n=true
  ·rw [if_pos hn]
   have:=cntF_lt (n:=n) fun hall=>h fun j hj=>by
    rcases Nat.lt_succ_iff_lt_or_eq.1 hj with hl | rfl
    ·exact hall j hl
    ·exact hn
   omega
  ·rw [if_neg hn]
   have:=cntF_le f n
   omega
theorem cntF_set {f:Nat→Bool} {i:Nat} (hf:f i=false):∀ {n:Nat},cntF (fun j=>if j=i then true else f j) n=cntF f n + (if i < n then 1 else 0)
 | 0=>rfl
 | n + 1=>by
  unfold cntF
  rw [cntF_set hf]
  by_cases h1:i < n
  ·rw [if_pos h1,if_pos (by omega:i < n + 1),if_neg (by omega:¬ n=i)]
   omega
  ·rw [if_neg h1]
   by_cases h2:n=i
   ·subst h2
    rw [if_pos (by omega:n < n + 1),if_pos rfl,hf]
    simp
   ·rw [if_neg (by omega:¬ i < n + 1),if_neg h2,Nat.add_zero,Nat.add_zero]
theorem least_not {f:Nat→Bool}:∀ {n:Nat},¬ (∀ j,j < n→f j=true)→∃ j,j < n∧f j=false∧∀ k,k < j→f k=true
 | 0,h=>absurd (fun j hj=>absurd hj (Nat.not_lt_zero _)) h
 | n + 1,h=>by
  by_cases hall:∀ j,j < n→f j=true
  ·refine ⟨n,Nat.lt_succ_self n,?_,hall⟩
   cases hn:f n with
   | false=>rfl
   | true=>exact absurd (fun j hj=>by rcases Nat.lt_succ_iff_lt_or_eq.1 hj with hl | rfl;exact hall j hl;exact hn) h
  ·obtain ⟨j,h1,h2,h3⟩:=least_not hall
   exact ⟨j,by omega,h2,h3⟩
theorem upto_of {ops:Array Oper} {listed:Array Bool} {st:Nat} (hs:listed.size=ops.size) (h1:∀ j,j < st→lst listed j=true) (h2:∀ j,st≤j→lst listed j=false):listed=uptoA ops st:=by
 apply Array.ext_getElem?
 intro i
 by_cases hi:i < ops.size
 ·have e:lst listed i=listed[i]'(by omega):=by
   unfold lst
   rw [Array.getD_eq_getD_getElem?,Array.getElem?_eq_getElem (by omega)]
   rfl
  have e2:(uptoA ops st)[i]?=some (decide (i < st)):=by simp [uptoA,hi]
  rw [e2,Array.getElem?_eq_getElem (by omega),← e]
  by_cases hst:i < st
  ·rw [h1 i hst,decide_eq_true hst]
  ·rw [h2 i (by omega),decide_eq_false hst]
 ·rw [Array.getElem?_eq_none (by omega),Array.getElem?_eq_none (by simp [uptoA];omega)]
section
variable {P:Program} {ops:Array Oper} {Q:Exit→Act→World→Prop} {J:(Nat→Bool)→Act→World→Prop} {st:Nat}
theorem wpAny_upto' (hst:st≤ops.size) (ht:tailB ops st=true) (hsteps:StepsJ P ops Q J st)
  (hgo:∀ f a w,(∀ j,j < st→f j=true)→J f a w→∀ fuel,wpAny P .any ops Q (fuel + (ops.size - st)) (uptoA ops st) a w) :
  ∀ (fuel:Nat) (listed:Array Bool) (a:Act) (w:World),listed.size=ops.size→(∀ i,lst listed i=true→depsB ops (lst listed) i=true)→(∀ j,st≤j→lst listed j=false)→ops.size≤fuel + cntF (lst listed) st→J (lst listed) a w→wpAny P .any ops Q fuel listed a w:=by
 intro fuel
 induction fuel with
 | zero =>
  intro listed a w hs hc hno hf hJ
  have hall:∀ j,j < st→lst listed j=true:=Classical.byContradiction fun hn=>by
   have:=cntF_lt hn
   omega
  have:=hgo _ a w hall hJ 0
  have hss:ops.size - st=0:=by
   have:=cntF_le (lst listed) st
   omega
  rw [hss] at this
  rw [upto_of hs hall hno]
  exact this
 | succ fuel ih =>
  intro listed a w hs hc hno hf hJ
  by_cases hall:∀ j,j < st→lst listed j=true
  ·have h1:=hgo _ a w hall hJ (fuel + 1 - (ops.size - st))
   have h2:=cntF_le (lst listed) st
   rw [show fuel + 1 - (ops.size - st) + (ops.size - st)=fuel + 1 by omega] at h1
   rw [upto_of hs hall hno]
   exact h1
  ·unfold tailB at ht
   rw [List.all_eq_true] at ht
   refine ⟨fun h0=>?_,fun i hi=>?_⟩
   ·obtain ⟨j,hj,hfj,hlow⟩:=least_not hall
    have h3:=ht j (List.mem_range.2 (by omega))
    rw [Bool.and_eq_true] at h3
    have hd:depsB ops (lst listed) j=true:=by
     have h4:=h3.2
     unfold depsB
     cases ho:ops[j]? with
     | none=>rw [ho] at h4;cases h4
     | some o =>
      rw [ho] at h4
      simp only [Option.map_some,Option.getD_some,Array.all_eq_true,Bool.or_eq_true,Bool.not_eq_true',decide_eq_true_eq] at h4 ⊢
      exact fun k hk=>(h4 k hk).imp id (hlow _)
    have:j ∈ Region.ready .any ops listed:=(ready_iff hs).2 ⟨by omega,hfj,hd⟩
    rw [h0] at this
    cases this
   ·obtain ⟨h1,h2,h3⟩:=(ready_iff hs).1 hi
    have hist:i < st:=by
     rcases Nat.lt_or_ge i st with h | h
     ·exact h
     ·have h4:=ht i (List.mem_range.2 h1)
      rw [Bool.and_eq_true,decide_eq_false (by omega:¬ i < st),Bool.false_or,List.all_eq_true] at h4
      exact absurd (fun j hj=>pre_listed hc _ i j (h4.1 j (List.mem_range.2 hj)) h3) hall
    have hstep:=hsteps.at_ hist
    unfold StepJ at hstep
    cases ho:ops[i]? with
    | none=>rw [Array.getElem?_eq_getElem h1] at ho;cases ho
    | some o =>
     rw [ho] at hstep
     refine wpOp_step ho fun K' hK=>hstep (lst listed) a w hJ h2 h3 K' fun a' w' hJ'=>hK a' w' ?_
     have hl:=lst_set (listed:=listed) (i:=i) (by omega)
     refine ih _ a' w' (by simp [hs]) ?_ ?_ ?_ (by rw [hl];exact hJ')
     ·rw [hl]
      intro k hk
      have mono:∀ k,lst listed k=true→(if k=i then true else lst listed k)=true:=fun k hk=>by
       split
       ·rfl
       ·exact hk
      dsimp only at hk
      split at hk
      ·rename_i e
       subst e
       exact deps_mono mono h3
      ·exact deps_mono mono (hc k hk)
     ·rw [hl]
      intro k hk
      dsimp only
      rw [if_neg (by omega)]
      exact hno k hk
     ·rw [hl,cntF_set h2,if_pos hist]
      omega
theorem wp_region_upto {id:Nat} {a:Act} {w:World} (hm:P.follows .mixedOrders=true) (st:Nat) (J:(Nat→Bool)→Act→World→Prop) (hst:st≤ops.size) (ht:tailB ops st=true) (h0:J (fun _=>false) a w.drew) (hsteps:StepsJ P ops Q J st)
  (hgo:∀ f a w,(∀ j,j < st→f j=true)→J f a w→∀ fuel,wpAny P .any ops Q (fuel + (ops.size - st)) (uptoA ops st) a w):(Code.region id ops true).wp P Q a w:=by
 have hl:lst (Array.replicate ops.size false)=fun _=>false:=by
  funext j
  unfold lst
  rw [Array.getD_eq_getD_getElem?,Array.getElem?_replicate]
  split <;> rfl
 refine wp_region_any hm (wpAny_upto' hst ht hsteps hgo _ _ _ _ (by simp) ?_ ?_ (Nat.le_add_right _ _) (by rw [hl];exact h0))
 ·rw [hl]
  intro i h
  cases h
 ·rw [hl]
  intro j _
  rfl
theorem wp_region_upto2 {id:Nat} {a:Act} {w:World} (hm:P.follows .mixedOrders=true) (st:Nat) (J:Act→(Nat→Bool)→Act→World→Prop) (hst:st≤ops.size) (ht:tailB ops st=true) (h0:J a (fun _=>false) a w.drew) (hsteps:StepsJ P ops Q (J a) st)
  (hgo:∀ f a' w',(∀ j,j < st→f j=true)→J a f a' w'→∀ fuel,wpAny P .any ops Q (fuel + (ops.size - st)) (uptoA ops st) a' w'):(Code.region id ops true).wp P Q a w:=wp_region_upto hm st (J a) hst ht h0 hsteps hgo
theorem deps_at {f:Nat→Bool} {i k:Nat} {o:Oper} {e:Edge} (ho:ops[i]?=some o) (he:o.after[k]?=some e) (hb:Region.binds .any e=true) (hd:depsB ops f i=true):f e.on=true:=by
 unfold depsB at hd
 rw [ho] at hd
 simp only [Option.map_some,Option.getD_some,Array.all_eq_true,Bool.or_eq_true,Bool.not_eq_true'] at hd
 obtain ⟨hk,rfl⟩:=Array.getElem?_eq_some_iff.1 he
 rcases hd k hk with h | h
 ·rw [hb] at h;cases h
 ·exact h
theorem more_of {f:Nat→Bool} {i j:Nat} (hne:j≠i) (h:(if j=i then true else f j)=true):f j=true:=by rwa [if_neg hne] at h
theorem less_of {f:Nat→Bool} {i j:Nat} (hne:j≠i) (h:(if j=i then true else f j)=false):f j=false:=by rwa [if_neg hne] at h
theorem keep_of {f:Nat→Bool} {i j:Nat} (h:f j=true):(if j=i then true else f j)=true:=by
 split
 ·rfl
 ·exact h
end
def stP (w w':World):Prop:=∃ (H:Nat) (x' y' x y:Value),Blk w H 114 [x',y']∧w'=((w.setCell ⟨H,0,none⟩ x).setCell ⟨H,1,none⟩ y)
theorem stP.two {w:World} {H:Nat} {x' y':Value} (h:Blk w H 114 [x',y']) (x y:Value):stP w ((w.setCell ⟨H,0,none⟩ x).setCell ⟨H,1,none⟩ y):=⟨H,x',y',x,y,h,rfl⟩
def stN (_ _:World):Prop:=False
structure Cl (St:World→World→Prop) where
 p:Value→World→Prop
 below:∀ {v:Value} {w w':World},Below w.heap.size w w'→p v w→p v w'
 sto:∀ {v:Value} {w w':World},St w w'→p v w→p v w'
section
variable {t:World→World→Prop}
def Cl.any:Cl t:=⟨fun _ _=>True,fun _ _=>trivial,fun _ _=>trivial⟩
def Cl.is (v0:Value):Cl t:=⟨fun v _=>v=v0,fun _ h=>h,fun _ h=>h⟩
theorem stepT {tb:List (Cl t)} {f:Nat→Bool} {w w':World} (l:List Value) (i:Nat) (v:Value) (h:∀ j,f j=true→(tb.getD j Cl.any).p (l.getD j undef) w) (hm:∀ (c:Cl t) (u:Value),c.p u w→c.p u w') (hi:i < l.length) (hv:(tb.getD i Cl.any).p v w'):∀ j,(if j=i then true else f j)=true→(tb.getD j Cl.any).p ((l.set i v).getD j undef) w':=by
 intro j hj
 by_cases e:j=i
 ·subst e
  rw [gtD (l:=l.set j v),List.getElem?_set_self hi]
  exact hv
 ·rw [if_neg e] at hj
  rw [gtD (l:=l.set i v),List.getElem?_set_ne (fun k=>e k.symm),← gtD]
  exact hm _ _ (h j hj)
theorem stepP {tb:List (Cl t)} {f:Nat→Bool} {w:World} (l:List Value) (i:Nat) (v:Value) (h:∀ j,f j=true→(tb.getD j Cl.any).p (l.getD j undef) w) (hi:i < l.length) (hv:(tb.getD i Cl.any).p v w):∀ j,(if j=i then true else f j)=true→(tb.getD j Cl.any).p ((l.set i v).getD j undef) w:=stepT l i v h (fun _ _ k=>k) hi hv
theorem stepB {tb:List (Cl t)} {f:Nat→Bool} {w w':World} (l:List Value) (i:Nat) (v:Value) (hb:Below w.heap.size w w') (h:∀ j,f j=true→(tb.getD j Cl.any).p (l.getD j undef) w) (hi:i < l.length) (hv:(tb.getD i Cl.any).p v w'):∀ j,(if j=i then true else f j)=true→(tb.getD j Cl.any).p ((l.set i v).getD j undef) w':=stepT l i v h (fun c _ k=>c.below hb k) hi hv
end
section
variable {t:TypeId}
def BoxS (ia is base:Nat) (t:TypeId) (zero:List Value) (F:World→Nat→Prop) (f:Nat→Bool) (x:Value) (w:World):Prop :=
 (f is=true→f ia=true)∧(f ia=true→∃ h:Nat,x=.pointer (some ⟨h,0,none⟩)∧base≤h∧(f is=false→Blk w h t zero)∧(f is=true→F w h))
section
variable {ia is base i:Nat} {zero:List Value} {F:World→Nat→Prop} {f:Nat→Bool} {x:Value} {w w':World}
theorem BoxS.start:BoxS ia is base t zero F (fun _=>false) x w:=⟨fun h=>(by cases h),fun h=>(by cases h)⟩
theorem BoxS.grow (h:BoxS ia is base t zero F f x w) (h1:ia≠i) (h2:is≠i) (hb:Below w.heap.size w w') (hF:∀ g,F w g→F w' g):BoxS ia is base t zero F (fun j=>if j=i then true else f j) x w':=by
 refine ⟨fun k=>?_,fun k=>?_⟩
 ·dsimp only at k ⊢
  rw [if_neg h1]
  rw [if_neg h2] at k
  exact h.1 k
 ·dsimp only at k ⊢
  rw [if_neg h1] at k
  rw [if_neg h2]
  obtain ⟨g,q1,q2,q3,q4⟩:=h.2 k
  exact ⟨g,q1,q2,fun k2=>(q3 k2).below hb (q3 k2).lt,fun k2=>hF g (q4 k2)⟩
theorem BoxS.pure (h:BoxS ia is base t zero F f x w) (h1:ia≠i) (h2:is≠i):BoxS ia is base t zero F (fun j=>if j=i then true else f j) x w:=h.grow h1 h2 (Below.refl _ _) fun _ k=>k
theorem BoxS.alloc (h:BoxS ia is base t zero F f x w) (hf:f ia=false) (hne:is≠ia) (hb:base≤w.heap.size):BoxS ia is base t zero F (fun j=>if j=ia then true else f j) (.pointer (some ⟨w.heap.size,0,none⟩)) (w.alloc (.cells zero.toArray t)):=by
 refine ⟨fun _=>if_pos rfl,fun _=>⟨_,rfl,hb,fun _=>Blk.new w t zero,fun k=>?_⟩⟩
 dsimp only at k
 rw [if_neg hne] at k
 have:=h.1 k
 rw [hf] at this
 cases this
theorem BoxS.store (h:BoxS ia is base t zero F f x w) (ha:f ia=true) (hne:ia≠is) (hF:∀ g,x=.pointer (some ⟨g,0,none⟩)→F w' g):BoxS ia is base t zero F (fun j=>if j=is then true else f j) x w':=by
 refine ⟨fun _=>?_,fun _=>?_⟩
 ·dsimp only
  rw [if_neg hne]
  exact ha
 ·obtain ⟨g,q1,q2,_,_⟩:=h.2 ha
  refine ⟨g,q1,q2,fun k=>?_,fun _=>hF g q1⟩
  dsimp only at k
  rw [if_pos rfl] at k
  cases k
end
end
theorem row_two {w:World} {base n c H:Nat} {A:Option Addr} {zs:Txt} {cs:List Value} (h:w.ownsRow base 5 1 (.slice A n c) n (ints .u8 zs)) (hb:Blk w H 114 cs) (i:Nat) (u:Value):(w.setCell ⟨H,i,none⟩ u).ownsRow base 5 1 (.slice A n c) n (ints .u8 zs) :=
 owns_keep h fun g cs' _ hc=>Below.heap_setCell w _ u g fun e2=>by
  have e3:g=H:=e2
  subst e3
  unfold Blk at hb
  rw [hb] at hc
  simp at hc
theorem row_met {w:World} {base n c H:Nat} {A:Option Addr} {zs:Txt} {cs:List Value} (h:w.ownsRow base 5 1 (.slice A n c) n (ints .u8 zs)) (hb:Blk w H 32 cs) (i:Nat) (u:Value):(w.setCell ⟨H,i,none⟩ u).ownsRow base 5 1 (.slice A n c) n (ints .u8 zs) :=
 owns_keep h fun g cs' _ hc=>Below.heap_setCell w _ u g fun e2=>by
  have e3:g=H:=e2
  subst e3
  unfold Blk at hb
  rw [hb] at hc
  simp at hc
def clRow (mk:Option Addr→Nat→Value) (base n:Nat) (zs:Txt):Cl stP :=
 ⟨fun v w=>∃ A c,v=mk A c∧w.ownsRow base 5 1 (.slice A n c) n (ints .u8 zs),fun hb h=>by obtain ⟨A,c,e,h⟩:=h;exact ⟨A,c,e,owns_below h hb⟩,fun hs h=>by obtain ⟨A,c,e,h⟩:=h;obtain ⟨_,_,_,_,_,hb,rfl⟩:=hs;exact ⟨A,c,e,row_two (row_two h hb 0 _) (hb.set 0 _) 1 _⟩⟩
theorem Blk.offBox {w:World} {G H:Nat} {t t':TypeId} {cs cs':List Value} (h:Blk w G t cs) (hb:Blk w H t' cs') (ht:t≠t') (i:Nat) (u:Value):Blk (w.setCell ⟨H,i,none⟩ u) G t cs:=h.away (Blk.apart h hb ht) i u
def clN (p:Value→World→Prop) (hb:∀ {v:Value} {w w':World},Below w.heap.size w w'→p v w→p v w'):Cl stN:=⟨p,hb,fun h=>h.elim⟩
section
variable {t:TypeId} {is H i:Nat} {old:List Value} {F:World→Prop} {f:Nat→Bool} {w w':World}
end
theorem three_met {w:World} {G:Nat} {v a g n u:Int} {B B':Option Addr} {k c k' c':Nat} (h:Blk w G 32 (metL v a g n u B k c)):Blk (w.setCell ⟨G,5,none⟩ (.slice B' k' c')) G 32 (metL v a g n u B' k' c'):=h.set 5 _
theorem four_met {w:World} {G:Nat} {v a g n u n':Int} {B:Option Addr} {k c:Nat} (h:Blk w G 32 (metL v a g n u B k c)):Blk (w.setCell ⟨G,3,none⟩ (.int .i64 n')) G 32 (metL v a g n' u B k c):=h.set 3 _
theorem rnoted_room (P T A M W Q:Int) (D:Option Addr) (nd d:Nat) (D':Option Addr) (nd' d':Nat) (S:List Sec) (C:List Pnd) (v a g n u:Int) (B:Option Addr) (k c:Nat) (t:List Rc) (Ab:Option Addr) (nb cb:Nat) (b:Txt) (w:World) (hq:Dsk w D nd d D' nd' d' S C) (hm:mayC P T A M W Q) (hi:isS (v,a,g)) (ha:0≤a∧a≤1) (hn0:0≤n) (hn:n < A) (ht:Recs w B k c t) (hk:k≤100000) (hb:Arg w .u8 Ab nb cb b) (hnb:nb≤20) (hby:∀ z ∈ b,isByte z) (t':List Rc) (hp:putR t b=some t') (x:Int) (hx:x=2 + a * A + n) (Tx:Txt) (hTx:Tx=jT g n b) :
  Calls Tryz.prog 57 #[cfgV P T A M W Q,diskV D nd d D' nd' d',metV v a g n u B k c,.slice Ab nb cb] w (NoteOut w ⟨(v,a,g),n + 1,u,t'⟩ (actsA [(x,Tx)])):=by
 obtain ⟨xb,hbel⟩:=MBox.new P T A M W Q v a g n u hq ht
 obtain ⟨z,h2⟩:=met_box (((w.alloc (.cells #[.int .i64 P,.int .i64 T,.int .i64 A,.int .i64 M,.int .i64 W,.int .i64 Q] 36)).alloc (.cells #[.slice D nd d,.slice D' nd' d'] 25)).alloc (.cells #[.int .u32 v,.int .i64 a,.int .u64 g,.int .i64 n,.int .i64 u,.slice B k c] 32)) 0 0 0 0 0 none 0 0
 rw [World.size_alloc,World.size_alloc,World.size_alloc] at z
 have xb:=xb.below h2
 obtain ⟨w0,hw0⟩:∃ x:World,x=((((w.alloc (.cells #[.int .i64 P,.int .i64 T,.int .i64 A,.int .i64 M,.int .i64 W,.int .i64 Q] 36)).alloc (.cells #[.slice D nd d,.slice D' nd' d'] 25)).alloc (.cells #[.int .u32 v,.int .i64 a,.int .u64 g,.int .i64 n,.int .i64 u,.slice B k c] 32)).alloc (.cells #[.int .u32 0,.int .i64 0,.int .u64 0,.int .i64 0,.int .i64 0,.slice none 0 0] 32)):=⟨_,rfl⟩
 rw [← hw0] at xb z h2
 have X:=Lh xb
 have Z:=Lh z
 have BB:=Lh (hbel.trans (h2.mono hbel.size))
 have PB:=Lh (hb.below BB.out)
 have TW:=Lh (fun wx hx=>rtwin12_any v a g n u B k c t wx hx hk)
 have PU:=Lh (fun wx hx hy=>rput11_any B k c t Ab nb cb b wx hx hk hy hby)
 unfold PutOut at PU
 rw [hp] at PU
 have hA32:A≤32:=by unfold mayC at hm;omega
 have IA:=Lh (fun wx=>rinarea_any P T A M W Q a n wx hm ⟨ha.1,ha.2,hn0,by omega⟩)
 have SE:=Lh (fun wx hx=>rsector_any g n ⟨hi.2.1,hi.2.2⟩ ⟨hn0,by omega⟩ Ab nb cb b wx hx hnb)
 rw [← hx] at IA
 rw [← hTx] at SE
 have TBY:=Lh (show ∀ z ∈ Tx,isByte z by rw [hTx];exact jT_byte g n hby)
 have AC:=Lh (fun A0 c0 wx hx=>racts_any A0 1 c0 [(x,Tx)] wx hx (by decide))
 unfold ActsOut at AC
 unfold NoteOut
 dsimp only [ansL,ansE] at PU
 dsimp only
 have hLA:(actsA [(x,Tx)]).length=2:=rfl
 rw [hLA] at AC ⊢
 obtain ⟨LL,hLL⟩:∃ y,y=actsA [(x,Tx)]:=⟨_,rfl⟩
 rw [← hLL] at AC ⊢
 obtain ⟨kt,hkt⟩:∃ y,y=t'.length:=⟨_,rfl⟩
 rw [← hkt] at PU ⊢
 obtain ⟨⟨c0,c1,c2,c3,c4,c5,c6,c7⟩,d0,d1,d2,d3,d4,d5⟩:=xb.cells
 clear xb z h2 hbel hq ht hb hnb hby hp hx hTx hLA hLL hkt hi ha hm hk
 go_enter Tryz.func57,Tryz.ntmps57
 go_wp2_with fail
 rw [← hw0]
 clear hw0
 refine (TW.out _ X.out.tab).mono ?_
 rintro e w1 ⟨A1,x1,rfl,hown,hb⟩
 obtain ⟨y,hk1⟩:=met_box w1 v a g n u A1 k x1
 have hS0:=hb.size
 have HW:=Lh (hb.trans (hk1.mono hb.size))
 have Y:=Lh y
 clear hb hk1 hown y TW c0 c1 c2 c3 c4 c5 c6 c7 d0 d1 d2 d3 d4 d5
 obtain ⟨⟨c0,c1,c2,c3,c4,c5,c6,c7⟩,d0,d1,d2,d3,d4,d5⟩:=(X.out.below HW.out).cells
 go_wp2_with fail
 clear c0 c1 c2 c3 c4 c5 c6 c7 d0 d1 d2 d3 d4 d5
 obtain ⟨w2,hw2⟩:∃ y:World,y=w1.alloc (.cells #[.int .u32 v,.int .i64 a,.int .u64 g,.int .i64 n,.int .i64 u,.slice A1 k x1] 32):=⟨_,rfl⟩
 rw [← hw2] at HW Y ⊢
 clear hw2
 refine (PU.out _ (X.out.below HW.out).tab (PB.out.below HW.out)).mono ?_
 rintro e w3 ⟨A2,x2,rfl,hown,hb⟩
 have hY1:w1.heap.size < w2.heap.size:=Y.out.lt
 have HW3:=Lh (HW.out.trans (hb.mono HW.out.size))
 have Y:=Lh (Y.out.below hb Y.out.lt)
 have O:=Lh ((hown.away hY1 5 (.slice A2 kt x2)).lower (Nat.le_trans hS0 (Nat.le_of_lt hY1)))
 have YS:=Lh (three_met Y.out (B':=A2) (k':=kt) (c':=x2))
 clear hb hown PU HW
 obtain ⟨⟨c0,c1,c2,c3,c4,c5,c6,c7⟩,d0,d1,d2,d3,d4,d5⟩:=(X.out.below HW3.out).cells
 have fy:=Y.out.free
 obtain ⟨y0,y1,y2,y3,y4,y5⟩:=Y.out.met
 have HW:=Lh (HW3.out.setCell (p:=⟨w1.heap.size,5,none⟩) hS0 (.slice A2 kt x2))
 obtain ⟨⟨q0,q1,q2,q3,q4,q5,q6,q7⟩,r0,r1,r2,r3,r4,r5⟩:=(X.out.below HW.out).cells
 go_upto_region 5 with fail
 obtain ⟨w4,hw4⟩:∃ y,y=w3.setCell ⟨w1.heap.size,5,none⟩ (.slice A2 kt x2):=⟨_,rfl⟩
 rw [← hw4] at HW O YS ⊢
 clear hw4 c0 c1 c2 c3 c4 c5 c6 c7 d0 d1 d2 d3 d4 d5 y0 y1 y2 y3 y4 y5 q0 q1 q2 q3 q4 q5 q6 q7 r0 r1 r2 r3 r4 r5 fy Y HW3
 refine wp_region_upto2 rfl 17 (fun a0 f ax wx=>∃ x0 x1 x2 x3 x4 x5 x6 x7 x8 x9 x10 x11 x12 x13 x14 x15 x16:Value,ax=((((((((((((((((a0.put (some 34) x0).put (some 35) x1).put (some 36) x2).put (some 37) x3).put (some 38) x4).put (some 39) x5).put (some 40) x6).put (some 41) x7).put (some 42) x8).put (some 43) x9).put (some 44) x10).put (some 45) x11).put (some 46) x12).put (some 47) x13).put (some 48) x14).put (some 13) x15)∧Below w4.heap.size w4 wx∧(∀ j,f j=true→(([(Cl.is (.agg #[.int .i64 P,.int .i64 T,.int .i64 A,.int .i64 M,.int .i64 W,.int .i64 Q])),(Cl.is (.pointer (some ⟨w.heap.size + 1 + 1,0,none⟩))),(Cl.is (.pointer (some ⟨w.heap.size + 1 + 1,1,none⟩))),(Cl.is (.int .i64 a)),(Cl.is (.pointer (some ⟨w.heap.size + 1 + 1,3,none⟩))),(Cl.is (.int .i64 n)),(Cl.is (.int .i64 x)),(Cl.is (.pointer (some ⟨w.heap.size + 1 + 1,0,none⟩))),(Cl.is (.pointer (some ⟨w.heap.size + 1 + 1,2,none⟩))),(Cl.is (.int .u64 g)),(Cl.is (.pointer (some ⟨w.heap.size + 1 + 1,3,none⟩))),(Cl.is (.int .i64 n)),(Cl.is (.slice Ab nb cb)),(clRow (fun A7 c7=>.slice A7 32 c7) w0.heap.size 32 Tx),(clRow (fun A7 c7=>.agg #[.int .i64 x,.slice A7 32 c7]) w0.heap.size 32 Tx),(Cl.any),(Cl.any)]:List (Cl stP)).getD j Cl.any).p ([x0,x1,x2,x3,x4,x5,x6,x7,x8,x9,x10,x11,x12,x13,x14,x15,x16].getD j undef) wx)∧BoxS 15 16 w4.heap.size 114 [.int .i64 0,.slice none 0 0] (fun wx h=>∃ A c,Blk wx h 114 [.int .i64 x,.slice A 32 c]∧wx.ownsRow w0.heap.size 5 1 (.slice A 32 c) 32 (ints .u8 Tx)) f x15 wx) (by decide) (by kernel_rfl) ?_ ?_ ?_
 ·exact ⟨undef,undef,undef,undef,undef,undef,undef,undef,undef,undef,undef,undef,undef,undef,undef,undef,undef,(by simp only [Act.put,stA,scZ,scS]),(Below.refl _ _).drew,(fun j h=>(by cases h)),BoxS.start⟩
 ·refine ⟨⟨⟨⟨⟨⟨⟨⟨⟨⟨⟨⟨⟨⟨⟨⟨⟨trivial,?_⟩,?_⟩,?_⟩,?_⟩,?_⟩,?_⟩,?_⟩,?_⟩,?_⟩,?_⟩,?_⟩,?_⟩,?_⟩,?_⟩,?_⟩,?_⟩,?_⟩
  ·intro f ax wx hJ hf hd K' hK
   obtain ⟨x0,x1,x2,x3,x4,x5,x6,x7,x8,x9,x10,x11,x12,x13,x14,x15,x16,hax,hB,hp,hq⟩:=hJ
   simp only [Act.put,stA,scZ,scS] at hax
   subst hax
   have HK:=Lh hK
   have HP:=Lh hp
   have HQ:=Lh hq
   have HF:=Lh hf
   clear hK hp hq hf hd
   obtain ⟨⟨c0,c1,c2,c3,c4,c5,c6,c7⟩,d0,d1,d2,d3,d4,d5⟩:=(X.out.below (HW.out.trans (hB.mono HW.out.size))).cells
   go_simp
   exact HK.out _ _ ⟨.agg #[.int .i64 P,.int .i64 T,.int .i64 A,.int .i64 M,.int .i64 W,.int .i64 Q],x1,x2,x3,x4,x5,x6,x7,x8,x9,x10,x11,x12,x13,x14,x15,x16,(by simp only [Act.put,stA,scZ,scS]),hB,stepP [x0,x1,x2,x3,x4,x5,x6,x7,x8,x9,x10,x11,x12,x13,x14,x15,x16] 0 (.agg #[.int .i64 P,.int .i64 T,.int .i64 A,.int .i64 M,.int .i64 W,.int .i64 Q]) HP.out (by simp) rfl,HQ.out.pure (by decide) (by decide)⟩
  ·intro f ax wx hJ hf hd K' hK
   obtain ⟨x0,x1,x2,x3,x4,x5,x6,x7,x8,x9,x10,x11,x12,x13,x14,x15,x16,hax,hB,hp,hq⟩:=hJ
   simp only [Act.put,stA,scZ,scS] at hax
   subst hax
   have HK:=Lh hK
   have HP:=Lh hp
   have HQ:=Lh hq
   have HF:=Lh hf
   clear hK hp hq hf hd
   go_simp
   exact HK.out _ _ ⟨x0,.pointer (some ⟨w.heap.size + 1 + 1,0,none⟩),x2,x3,x4,x5,x6,x7,x8,x9,x10,x11,x12,x13,x14,x15,x16,(by simp only [Act.put,stA,scZ,scS]),hB,stepP [x0,x1,x2,x3,x4,x5,x6,x7,x8,x9,x10,x11,x12,x13,x14,x15,x16] 1 (.pointer (some ⟨w.heap.size + 1 + 1,0,none⟩)) HP.out (by simp) rfl,HQ.out.pure (by decide) (by decide)⟩
  ·intro f ax wx hJ hf hd K' hK
   obtain ⟨x0,x1,x2,x3,x4,x5,x6,x7,x8,x9,x10,x11,x12,x13,x14,x15,x16,hax,hB,hp,hq⟩:=hJ
   simp only [Act.put,stA,scZ,scS] at hax
   subst hax
   have HK:=Lh hK
   have e1:x1=.pointer (some ⟨w.heap.size + 1 + 1,0,none⟩):=hp 1 (deps_at (k:=0) rfl rfl rfl hd)
   subst e1
   have HP:=Lh hp
   have HQ:=Lh hq
   have HF:=Lh hf
   clear hK hp hq hf hd
   go_simp
   exact HK.out _ _ ⟨x0,.pointer (some ⟨w.heap.size + 1 + 1,0,none⟩),.pointer (some ⟨w.heap.size + 1 + 1,1,none⟩),x3,x4,x5,x6,x7,x8,x9,x10,x11,x12,x13,x14,x15,x16,(by simp only [Act.put,stA,scZ,scS]),hB,stepP [x0,.pointer (some ⟨w.heap.size + 1 + 1,0,none⟩),x2,x3,x4,x5,x6,x7,x8,x9,x10,x11,x12,x13,x14,x15,x16] 2 (.pointer (some ⟨w.heap.size + 1 + 1,1,none⟩)) HP.out (by simp) rfl,HQ.out.pure (by decide) (by decide)⟩
  ·intro f ax wx hJ hf hd K' hK
   obtain ⟨x0,x1,x2,x3,x4,x5,x6,x7,x8,x9,x10,x11,x12,x13,x14,x15,x16,hax,hB,hp,hq⟩:=hJ
   simp only [Act.put,stA,scZ,scS] at hax
   subst hax
   have HK:=Lh hK
   have e2:x2=.pointer (some ⟨w.heap.size + 1 + 1,1,none⟩):=hp 2 (deps_at (k:=0) rfl rfl rfl hd)
   subst e2
   have HP:=Lh hp
   have HQ:=Lh hq
   have HF:=Lh hf
   clear hK hp hq hf hd
   obtain ⟨⟨c0,c1,c2,c3,c4,c5,c6,c7⟩,d0,d1,d2,d3,d4,d5⟩:=(X.out.below (HW.out.trans (hB.mono HW.out.size))).cells
   go_simp
   exact HK.out _ _ ⟨x0,x1,.pointer (some ⟨w.heap.size + 1 + 1,1,none⟩),.int .i64 a,x4,x5,x6,x7,x8,x9,x10,x11,x12,x13,x14,x15,x16,(by simp only [Act.put,stA,scZ,scS]),hB,stepP [x0,x1,.pointer (some ⟨w.heap.size + 1 + 1,1,none⟩),x3,x4,x5,x6,x7,x8,x9,x10,x11,x12,x13,x14,x15,x16] 3 (.int .i64 a) HP.out (by simp) rfl,HQ.out.pure (by decide) (by decide)⟩
  ·intro f ax wx hJ hf hd K' hK
   obtain ⟨x0,x1,x2,x3,x4,x5,x6,x7,x8,x9,x10,x11,x12,x13,x14,x15,x16,hax,hB,hp,hq⟩:=hJ
   simp only [Act.put,stA,scZ,scS] at hax
   subst hax
   have HK:=Lh hK
   have HP:=Lh hp
   have HQ:=Lh hq
   have HF:=Lh hf
   clear hK hp hq hf hd
   go_simp
   exact HK.out _ _ ⟨x0,x1,x2,x3,.pointer (some ⟨w.heap.size + 1 + 1,3,none⟩),x5,x6,x7,x8,x9,x10,x11,x12,x13,x14,x15,x16,(by simp only [Act.put,stA,scZ,scS]),hB,stepP [x0,x1,x2,x3,x4,x5,x6,x7,x8,x9,x10,x11,x12,x13,x14,x15,x16] 4 (.pointer (some ⟨w.heap.size + 1 + 1,3,none⟩)) HP.out (by simp) rfl,HQ.out.pure (by decide) (by decide)⟩
  ·intro f ax wx hJ hf hd K' hK
   obtain ⟨x0,x1,x2,x3,x4,x5,x6,x7,x8,x9,x10,x11,x12,x13,x14,x15,x16,hax,hB,hp,hq⟩:=hJ
   simp only [Act.put,stA,scZ,scS] at hax
   subst hax
   have HK:=Lh hK
   have e4:x4=.pointer (some ⟨w.heap.size + 1 + 1,3,none⟩):=hp 4 (deps_at (k:=0) rfl rfl rfl hd)
   subst e4
   have HP:=Lh hp
   have HQ:=Lh hq
   have HF:=Lh hf
   clear hK hp hq hf hd
   obtain ⟨⟨c0,c1,c2,c3,c4,c5,c6,c7⟩,d0,d1,d2,d3,d4,d5⟩:=(X.out.below (HW.out.trans (hB.mono HW.out.size))).cells
   go_simp
   exact HK.out _ _ ⟨x0,x1,x2,x3,.pointer (some ⟨w.heap.size + 1 + 1,3,none⟩),.int .i64 n,x6,x7,x8,x9,x10,x11,x12,x13,x14,x15,x16,(by simp only [Act.put,stA,scZ,scS]),hB,stepP [x0,x1,x2,x3,.pointer (some ⟨w.heap.size + 1 + 1,3,none⟩),x5,x6,x7,x8,x9,x10,x11,x12,x13,x14,x15,x16] 5 (.int .i64 n) HP.out (by simp) rfl,HQ.out.pure (by decide) (by decide)⟩
  ·intro f ax wx hJ hf hd K' hK
   obtain ⟨x0,x1,x2,x3,x4,x5,x6,x7,x8,x9,x10,x11,x12,x13,x14,x15,x16,hax,hB,hp,hq⟩:=hJ
   simp only [Act.put,stA,scZ,scS] at hax
   subst hax
   have HK:=Lh hK
   have e0:x0=.agg #[.int .i64 P,.int .i64 T,.int .i64 A,.int .i64 M,.int .i64 W,.int .i64 Q]:=hp 0 (deps_at (k:=0) rfl rfl rfl hd)
   subst e0
   have e3:x3=.int .i64 a:=hp 3 (deps_at (k:=1) rfl rfl rfl hd)
   subst e3
   have e5:x5=.int .i64 n:=hp 5 (deps_at (k:=2) rfl rfl rfl hd)
   subst e5
   have HP:=Lh hp
   have HQ:=Lh hq
   have HF:=Lh hf
   clear hK hp hq hf hd
   go_simp
   go_wp2_with (go_at_call 92;refine (IA.out _).mono ?_;rintro e w5 ⟨rfl,hb⟩)
   exact HK.out _ _ ⟨.agg #[.int .i64 P,.int .i64 T,.int .i64 A,.int .i64 M,.int .i64 W,.int .i64 Q],x1,x2,.int .i64 a,x4,.int .i64 n,.int .i64 x,x7,x8,x9,x10,x11,x12,x13,x14,x15,x16,(by simp only [Act.put,stA,scZ,scS]),hB.trans (hb.mono hB.size),stepB [.agg #[.int .i64 P,.int .i64 T,.int .i64 A,.int .i64 M,.int .i64 W,.int .i64 Q],x1,x2,.int .i64 a,x4,.int .i64 n,x6,x7,x8,x9,x10,x11,x12,x13,x14,x15,x16] 6 (.int .i64 x) hb HP.out (by simp) rfl,HQ.out.grow (by decide) (by decide) hb (fun g k=>(by obtain ⟨A8,c8,q1,q2⟩:=k;exact ⟨A8,c8,q1.below hb q1.lt,owns_below q2 hb⟩))⟩
  ·intro f ax wx hJ hf hd K' hK
   obtain ⟨x0,x1,x2,x3,x4,x5,x6,x7,x8,x9,x10,x11,x12,x13,x14,x15,x16,hax,hB,hp,hq⟩:=hJ
   simp only [Act.put,stA,scZ,scS] at hax
   subst hax
   have HK:=Lh hK
   have HP:=Lh hp
   have HQ:=Lh hq
   have HF:=Lh hf
   clear hK hp hq hf hd
   go_simp
   exact HK.out _ _ ⟨x0,x1,x2,x3,x4,x5,x6,.pointer (some ⟨w.heap.size + 1 + 1,0,none⟩),x8,x9,x10,x11,x12,x13,x14,x15,x16,(by simp only [Act.put,stA,scZ,scS]),hB,stepP [x0,x1,x2,x3,x4,x5,x6,x7,x8,x9,x10,x11,x12,x13,x14,x15,x16] 7 (.pointer (some ⟨w.heap.size + 1 + 1,0,none⟩)) HP.out (by simp) rfl,HQ.out.pure (by decide) (by decide)⟩
  ·intro f ax wx hJ hf hd K' hK
   obtain ⟨x0,x1,x2,x3,x4,x5,x6,x7,x8,x9,x10,x11,x12,x13,x14,x15,x16,hax,hB,hp,hq⟩:=hJ
   simp only [Act.put,stA,scZ,scS] at hax
   subst hax
   have HK:=Lh hK
   have e7:x7=.pointer (some ⟨w.heap.size + 1 + 1,0,none⟩):=hp 7 (deps_at (k:=0) rfl rfl rfl hd)
   subst e7
   have HP:=Lh hp
   have HQ:=Lh hq
   have HF:=Lh hf
   clear hK hp hq hf hd
   go_simp
   exact HK.out _ _ ⟨x0,x1,x2,x3,x4,x5,x6,.pointer (some ⟨w.heap.size + 1 + 1,0,none⟩),.pointer (some ⟨w.heap.size + 1 + 1,2,none⟩),x9,x10,x11,x12,x13,x14,x15,x16,(by simp only [Act.put,stA,scZ,scS]),hB,stepP [x0,x1,x2,x3,x4,x5,x6,.pointer (some ⟨w.heap.size + 1 + 1,0,none⟩),x8,x9,x10,x11,x12,x13,x14,x15,x16] 8 (.pointer (some ⟨w.heap.size + 1 + 1,2,none⟩)) HP.out (by simp) rfl,HQ.out.pure (by decide) (by decide)⟩
  ·intro f ax wx hJ hf hd K' hK
   obtain ⟨x0,x1,x2,x3,x4,x5,x6,x7,x8,x9,x10,x11,x12,x13,x14,x15,x16,hax,hB,hp,hq⟩:=hJ
   simp only [Act.put,stA,scZ,scS] at hax
   subst hax
   have HK:=Lh hK
   have e8:x8=.pointer (some ⟨w.heap.size + 1 + 1,2,none⟩):=hp 8 (deps_at (k:=0) rfl rfl rfl hd)
   subst e8
   have HP:=Lh hp
   have HQ:=Lh hq
   have HF:=Lh hf
   clear hK hp hq hf hd
   obtain ⟨⟨c0,c1,c2,c3,c4,c5,c6,c7⟩,d0,d1,d2,d3,d4,d5⟩:=(X.out.below (HW.out.trans (hB.mono HW.out.size))).cells
   go_simp
   exact HK.out _ _ ⟨x0,x1,x2,x3,x4,x5,x6,x7,.pointer (some ⟨w.heap.size + 1 + 1,2,none⟩),.int .u64 g,x10,x11,x12,x13,x14,x15,x16,(by simp only [Act.put,stA,scZ,scS]),hB,stepP [x0,x1,x2,x3,x4,x5,x6,x7,.pointer (some ⟨w.heap.size + 1 + 1,2,none⟩),x9,x10,x11,x12,x13,x14,x15,x16] 9 (.int .u64 g) HP.out (by simp) rfl,HQ.out.pure (by decide) (by decide)⟩
  ·intro f ax wx hJ hf hd K' hK
   obtain ⟨x0,x1,x2,x3,x4,x5,x6,x7,x8,x9,x10,x11,x12,x13,x14,x15,x16,hax,hB,hp,hq⟩:=hJ
   simp only [Act.put,stA,scZ,scS] at hax
   subst hax
   have HK:=Lh hK
   have HP:=Lh hp
   have HQ:=Lh hq
   have HF:=Lh hf
   clear hK hp hq hf hd
   go_simp
   exact HK.out _ _ ⟨x0,x1,x2,x3,x4,x5,x6,x7,x8,x9,.pointer (some ⟨w.heap.size + 1 + 1,3,none⟩),x11,x12,x13,x14,x15,x16,(by simp only [Act.put,stA,scZ,scS]),hB,stepP [x0,x1,x2,x3,x4,x5,x6,x7,x8,x9,x10,x11,x12,x13,x14,x15,x16] 10 (.pointer (some ⟨w.heap.size + 1 + 1,3,none⟩)) HP.out (by simp) rfl,HQ.out.pure (by decide) (by decide)⟩
  ·intro f ax wx hJ hf hd K' hK
   obtain ⟨x0,x1,x2,x3,x4,x5,x6,x7,x8,x9,x10,x11,x12,x13,x14,x15,x16,hax,hB,hp,hq⟩:=hJ
   simp only [Act.put,stA,scZ,scS] at hax
   subst hax
   have HK:=Lh hK
   have e10:x10=.pointer (some ⟨w.heap.size + 1 + 1,3,none⟩):=hp 10 (deps_at (k:=0) rfl rfl rfl hd)
   subst e10
   have HP:=Lh hp
   have HQ:=Lh hq
   have HF:=Lh hf
   clear hK hp hq hf hd
   obtain ⟨⟨c0,c1,c2,c3,c4,c5,c6,c7⟩,d0,d1,d2,d3,d4,d5⟩:=(X.out.below (HW.out.trans (hB.mono HW.out.size))).cells
   go_simp
   exact HK.out _ _ ⟨x0,x1,x2,x3,x4,x5,x6,x7,x8,x9,.pointer (some ⟨w.heap.size + 1 + 1,3,none⟩),.int .i64 n,x12,x13,x14,x15,x16,(by simp only [Act.put,stA,scZ,scS]),hB,stepP [x0,x1,x2,x3,x4,x5,x6,x7,x8,x9,.pointer (some ⟨w.heap.size + 1 + 1,3,none⟩),x11,x12,x13,x14,x15,x16] 11 (.int .i64 n) HP.out (by simp) rfl,HQ.out.pure (by decide) (by decide)⟩
  ·intro f ax wx hJ hf hd K' hK
   obtain ⟨x0,x1,x2,x3,x4,x5,x6,x7,x8,x9,x10,x11,x12,x13,x14,x15,x16,hax,hB,hp,hq⟩:=hJ
   simp only [Act.put,stA,scZ,scS] at hax
   subst hax
   have HK:=Lh hK
   have HP:=Lh hp
   have HQ:=Lh hq
   have HF:=Lh hf
   clear hK hp hq hf hd
   go_simp
   exact HK.out _ _ ⟨x0,x1,x2,x3,x4,x5,x6,x7,x8,x9,x10,x11,.slice Ab nb cb,x13,x14,x15,x16,(by simp only [Act.put,stA,scZ,scS]),hB,stepP [x0,x1,x2,x3,x4,x5,x6,x7,x8,x9,x10,x11,x12,x13,x14,x15,x16] 12 (.slice Ab nb cb) HP.out (by simp) rfl,HQ.out.pure (by decide) (by decide)⟩
  ·intro f ax wx hJ hf hd K' hK
   obtain ⟨x0,x1,x2,x3,x4,x5,x6,x7,x8,x9,x10,x11,x12,x13,x14,x15,x16,hax,hB,hp,hq⟩:=hJ
   simp only [Act.put,stA,scZ,scS] at hax
   subst hax
   have HK:=Lh hK
   have e9:x9=.int .u64 g:=hp 9 (deps_at (k:=0) rfl rfl rfl hd)
   subst e9
   have e11:x11=.int .i64 n:=hp 11 (deps_at (k:=1) rfl rfl rfl hd)
   subst e11
   have e12:x12=.slice Ab nb cb:=hp 12 (deps_at (k:=2) rfl rfl rfl hd)
   subst e12
   have HP:=Lh hp
   have HQ:=Lh hq
   have HF:=Lh hf
   clear hK hp hq hf hd
   go_simp
   go_wp2_with (go_at_call 102;refine (SE.out _ (PB.out.below (HW.out.trans (hB.mono HW.out.size)))).mono ?_;rintro e w5 ⟨A7,c7,rfl,hown,hb⟩)
   exact HK.out _ _ ⟨x0,x1,x2,x3,x4,x5,x6,x7,x8,.int .u64 g,x10,.int .i64 n,.slice Ab nb cb,.slice A7 32 c7,x14,x15,x16,(by simp only [Act.put,stA,scZ,scS]),hB.trans (hb.mono hB.size),stepB [x0,x1,x2,x3,x4,x5,x6,x7,x8,.int .u64 g,x10,.int .i64 n,.slice Ab nb cb,x13,x14,x15,x16] 13 (.slice A7 32 c7) hb HP.out (by simp) ⟨A7,c7,rfl,owns_base hown (Nat.le_trans HW.out.size hB.size)⟩,HQ.out.grow (by decide) (by decide) hb (fun g k=>(by obtain ⟨A8,c8,q1,q2⟩:=k;exact ⟨A8,c8,q1.below hb q1.lt,owns_below q2 hb⟩))⟩
  ·intro f ax wx hJ hf hd K' hK
   obtain ⟨x0,x1,x2,x3,x4,x5,x6,x7,x8,x9,x10,x11,x12,x13,x14,x15,x16,hax,hB,hp,hq⟩:=hJ
   simp only [Act.put,stA,scZ,scS] at hax
   subst hax
   have HK:=Lh hK
   have e6:x6=.int .i64 x:=hp 6 (deps_at (k:=0) rfl rfl rfl hd)
   subst e6
   obtain ⟨A7,c7,e13,f13⟩:=hp 13 (deps_at (k:=1) rfl rfl rfl hd)
   subst e13
   have F13:=Lh f13
   clear f13
   have HP:=Lh hp
   have HQ:=Lh hq
   have HF:=Lh hf
   clear hK hp hq hf hd
   go_simp
   exact HK.out _ _ ⟨x0,x1,x2,x3,x4,x5,.int .i64 x,x7,x8,x9,x10,x11,x12,.slice A7 32 c7,.agg #[.int .i64 x,.slice A7 32 c7],x15,x16,(by simp only [Act.put,stA,scZ,scS]),hB,stepP [x0,x1,x2,x3,x4,x5,.int .i64 x,x7,x8,x9,x10,x11,x12,.slice A7 32 c7,x14,x15,x16] 14 (.agg #[.int .i64 x,.slice A7 32 c7]) HP.out (by simp) ⟨A7,c7,rfl,F13.out⟩,HQ.out.pure (by decide) (by decide)⟩
  ·intro f ax wx hJ hf hd K' hK
   obtain ⟨x0,x1,x2,x3,x4,x5,x6,x7,x8,x9,x10,x11,x12,x13,x14,x15,x16,hax,hB,hp,hq⟩:=hJ
   simp only [Act.put,stA,scZ,scS] at hax
   subst hax
   have HK:=Lh hK
   have HP:=Lh hp
   have HQ:=Lh hq
   have HF:=Lh hf
   clear hK hp hq hf hd
   go_simp
   exact HK.out _ _ ⟨x0,x1,x2,x3,x4,x5,x6,x7,x8,x9,x10,x11,x12,x13,x14,.pointer (some ⟨wx.heap.size,0,none⟩),x16,(by simp only [Act.put,stA,scZ,scS]),hB.trans (((Below.refl _ _).alloc (Nat.le_refl _) _).mono hB.size),stepB [x0,x1,x2,x3,x4,x5,x6,x7,x8,x9,x10,x11,x12,x13,x14,x15,x16] 15 (.pointer (some ⟨wx.heap.size,0,none⟩)) ((Below.refl _ _).alloc (Nat.le_refl _) _) HP.out (by simp) trivial,HQ.out.alloc HF.out (by decide) hB.size⟩
  ·intro f ax wx hJ hf hd K' hK
   obtain ⟨x0,x1,x2,x3,x4,x5,x6,x7,x8,x9,x10,x11,x12,x13,x14,x15,x16,hax,hB,hp,hq⟩:=hJ
   simp only [Act.put,stA,scZ,scS] at hax
   subst hax
   have HK:=Lh hK
   obtain ⟨A9z,c9z,e14,f14⟩:=hp 14 (deps_at (k:=1) rfl rfl rfl hd)
   subst e14
   have F14:=Lh f14
   clear f14
   have qa:=deps_at (k:=0) rfl rfl rfl hd
   obtain ⟨hg,eg,lg,zg,_⟩:=hq.2 qa
   have ZG:=Lh (zg hf)
   subst eg
   clear zg
   have HP:=Lh hp
   have HQ:=Lh hq
   have HF:=Lh hf
   clear hK hp hq hf hd
   obtain ⟨z0,z1⟩:=ZG.out.two_
   have fz:=ZG.out.free
   go_simp
   exact HK.out _ _ ⟨x0,x1,x2,x3,x4,x5,x6,x7,x8,x9,x10,x11,x12,x13,.agg #[.int .i64 x,.slice A9z 32 c9z],.pointer (some ⟨hg,0,none⟩),x16,(by simp only [Act.put,stA,scZ,scS]),below_two hB lg (.int .i64 x) (.slice A9z 32 c9z),stepT [x0,x1,x2,x3,x4,x5,x6,x7,x8,x9,x10,x11,x12,x13,.agg #[.int .i64 x,.slice A9z 32 c9z],.pointer (some ⟨hg,0,none⟩),x16] 16 x16 HP.out (fun c _ k=>c.sto (stP.two ZG.out (.int .i64 x) (.slice A9z 32 c9z)) k) (by simp) trivial,HQ.out.store qa (by decide) (fun g e=>(by cases e;exact ⟨A9z,c9z,ZG.out.two (.int .i64 x) (.slice A9z 32 c9z),row_two (row_two F14.out ZG.out 0 _) (ZG.out.set 0 _) 1 _⟩))⟩
 ·intro f ax wx hall hJ fuel
  obtain ⟨x0,x1,x2,x3,x4,x5,x6,x7,x8,x9,x10,x11,x12,x13,x14,x15,x16,hax,hB,hp,hq⟩:=hJ
  simp only [Act.put,stA,scZ,scS] at hax
  have e0:x0=.agg #[.int .i64 P,.int .i64 T,.int .i64 A,.int .i64 M,.int .i64 W,.int .i64 Q]:=hp 0 (hall 0 (by decide))
  subst e0
  have e1:x1=.pointer (some ⟨w.heap.size + 1 + 1,0,none⟩):=hp 1 (hall 1 (by decide))
  subst e1
  have e2:x2=.pointer (some ⟨w.heap.size + 1 + 1,1,none⟩):=hp 2 (hall 2 (by decide))
  subst e2
  have e3:x3=.int .i64 a:=hp 3 (hall 3 (by decide))
  subst e3
  have e4:x4=.pointer (some ⟨w.heap.size + 1 + 1,3,none⟩):=hp 4 (hall 4 (by decide))
  subst e4
  have e5:x5=.int .i64 n:=hp 5 (hall 5 (by decide))
  subst e5
  have e6:x6=.int .i64 x:=hp 6 (hall 6 (by decide))
  subst e6
  have e7:x7=.pointer (some ⟨w.heap.size + 1 + 1,0,none⟩):=hp 7 (hall 7 (by decide))
  subst e7
  have e8:x8=.pointer (some ⟨w.heap.size + 1 + 1,2,none⟩):=hp 8 (hall 8 (by decide))
  subst e8
  have e9:x9=.int .u64 g:=hp 9 (hall 9 (by decide))
  subst e9
  have e10:x10=.pointer (some ⟨w.heap.size + 1 + 1,3,none⟩):=hp 10 (hall 10 (by decide))
  subst e10
  have e11:x11=.int .i64 n:=hp 11 (hall 11 (by decide))
  subst e11
  have e12:x12=.slice Ab nb cb:=hp 12 (hall 12 (by decide))
  subst e12
  obtain ⟨A7,c7,e13,f13⟩:=hp 13 (hall 13 (by decide))
  subst e13
  have F13:=Lh f13
  clear f13
  obtain ⟨A7,c7,e14,f14⟩:=hp 14 (hall 14 (by decide))
  subst e14
  have F14:=Lh f14
  clear f14
  obtain ⟨hg,eg,lg,_,fg⟩:=hq.2 (hall 15 (by decide))
  have FG:=fg (hall 16 (by decide))
  subst eg
  subst hax
  clear hp hq fg hall
  refine wpAny_done (by kernel_rfl) ?_ _
  obtain ⟨A7,c7,hpd,hrow⟩:=FG
  have YX:=Lh (YS.out.below hB YS.out.lt)
  have HX:=Lh (HW.out.trans (hB.mono HW.out.size))
  have OX:=Lh (O.out.below hB)
  have PD:=Lh hpd
  have RW:=Lh hrow
  clear F13 F14 hB hpd hrow YS HW O IA SE PB lg
  obtain ⟨⟨c0,c1,c2,c3,c4,c5,c6,c7'⟩,d0,d1,d2,d3,d4,d5⟩:=(X.out.below HX.out).cells
  obtain ⟨y0,y1,y2,y3,y4,y5⟩:=YX.out.met
  have fy:=YX.out.free
  have hw1:IntKind.i64.wrap (n + 1)=n + 1:=wrap_sm (by omega) (by omega)
  go_upto_region 7 with fail
  clear c0 c1 c2 c3 c4 c5 c6 c7' d0 d1 d2 d3 d4 d5 y0 y1 y2 y3 y4 y5 fy
  have H6:=Lh (HX.out.setCell (p:=⟨w1.heap.size,3,none⟩) hS0 (.int .i64 (n + 1)))
  have Y6:=Lh (four_met YX.out (n':=n + 1))
  have O6:=Lh (OX.out.boxM YX.out 3 (.int .i64 (n + 1)))
  have P6:=Lh (PD.out.offBox YX.out (by decide) 3 (.int .i64 (n + 1)))
  have R6:=Lh (row_met RW.out YX.out 3 (.int .i64 (n + 1)))
  obtain ⟨w6,hw6⟩:∃ y,y=wx.setCell ⟨w1.heap.size,3,none⟩ (.int .i64 (n + 1)):=⟨_,rfl⟩
  rw [← hw6] at H6 Y6 O6 P6 R6 ⊢
  have Z6:=Lh (Z.out.below H6.out Z.out.lt)
  have BF:=Lh (BB.out.trans (H6.out.mono BB.out.size))
  clear hw6 HX YX OX PD RW hw1
  have hcur:Below w6.heap.size w6 w6.drew:=below_drewN (Below.refl _ _) 1
  have keepX:∀ wx,Below w6.heap.size w6 wx→wx.cell? ⟨w1.heap.size,0,none⟩=some (.int .u32 v)∧wx.cell? ⟨w1.heap.size,1,none⟩=some (.int .i64 a)∧wx.cell? ⟨w1.heap.size,2,none⟩=some (.int .u64 g)∧wx.cell? ⟨w1.heap.size,3,none⟩=some (.int .i64 (n + 1))∧wx.cell? ⟨w1.heap.size,4,none⟩=some (.int .i64 u)∧wx.cell? ⟨w1.heap.size,5,none⟩=some (.slice A2 kt x2)∧wx.cell? ⟨hg,0,none⟩=some (.int .i64 x)∧wx.cell? ⟨hg,1,none⟩=some (.slice A7 32 c7):=fun wx hx=>by
   obtain ⟨q0,q1,q2,q3,q4,q5⟩:=(Y6.out.below hx Y6.out.lt).met
   have p:=P6.out.below hx P6.out.lt
   exact ⟨q0,q1,q2,q3,q4,q5,p.cell 0,p.cell 1⟩
  have PW:Pnds (w6.alloc (.cells #[.int .i64 x,.slice A7 32 c7] 114)).drew (some ⟨w6.heap.size,0,none⟩) 1 1 [(x,Tx)]:=(Pnds.new (Arg.own R6.out) TBY.out).below ((Below.refl _ _).drew)
  have hcA:Below w6.heap.size w6 (w6.alloc (.cells #[.int .i64 x,.slice A7 32 c7] 114)).drew:=((Below.refl _ _).alloc (Nat.le_refl _) _).drew
  obtain ⟨q0,q1,q2,q3,q4,q5,p0,p1⟩:=keepX _ hcur
  have hZ:=Z6.out.below hcur Z6.out.lt
  have fz:=hZ.free
  obtain ⟨z0,z1,z2,z3,z4,z5⟩:=hZ.met
  go_region_with (first
    | (go_at_call 93;with_reducible refine (AC.out _ _ _ PW).mono ?_;rintro e w8 ⟨A4,c4,L4,rfl,hown4,hax4,hb⟩;have hcur:=hcA.trans (hb.mono hcA.size);obtain ⟨q0,q1,q2,q3,q4,q5,p0,p1⟩:=keepX _ hcur;have hZ:=Z6.out.below hcur Z6.out.lt;have fz:=hZ.free;obtain ⟨z0,z1,z2,z3,z4,z5⟩:=hZ.met))
  all_goals
   go_wp2
   obtain ⟨zz0,zz1,zz2,zz3,zz4,zz5⟩:=(hZ.sixM v a g (n + 1) u A2 kt x2).met
   have hM:=Nat.lt_of_lt_of_le Z6.out.lt hcA.size
   refine bodyPost_ret (v:=.tuple #[metV v a g (n + 1) u A2 kt x2,.slice A4 2 c4]) ?_ rfl ⟨A2,x2,A4,c4,L4,rfl,OwnRecs.lower (OwnRecs.sixM (O6.out.below hcur) (G:=w.heap.size + 1 + 1 + 1) Z.out.lt v a g (n + 1) u A2 kt x2) BB.out.size,?_,?_,?_⟩
   ·clear q0 q1 q2 q3 q4 q5 p0 p1 z0 z1 z2 z3 z4 z5 fz
    simp [results,Tryz.f57,go_sem,zz0,zz1,zz2,zz3,zz4,zz5]
   ·exact OwnAcs.lower ((((((hown4.away hM 0 _).away hM 1 _).away hM 2 _).away hM 3 _).away hM 4 _).away hM 5 _) (Nat.le_trans BF.out.size hcA.size)
   ·exact ⟨hax4.1,fun i hi=>⟨(hax4.2 i hi).1,(hax4.2 i hi).2.1,Arg.offM hZ (grown_six _ _ _ _ _ _ _ _ _ _) (hax4.2 i hi).2.2⟩⟩
   ·exact below_sixM (BF.out.trans (hcur.mono BF.out.size)) (by omega) v a g (n + 1) u A2 kt x2
theorem step_pndG (w:World) {ops:Array Oper} {o:Oper} {a:Act} {K:Act→World→Prop} {Q:Exit→Act→World→Prop} {E:Prop} (hgd:o.guard=none) (s y:Operand)
  (ho:o.op=.call { callee:=.builtin .append,args:=#[s,y],argTypes:=#[23,23] }) (base:Nat) (A0:Option Addr) (n c0:Nat) (ss:List Pnd) (hs:a.eval s=.slice A0 n c0) (hown:OwnPnds w base A0 n c0 ss)
  (G:Nat) (Ai:Option Addr) (ni ci:Nat) (x:Int) (zs:List Int) (hlit:Blk w G 114 [.int .i64 x,.slice Ai ni ci]) (hb:∀ z ∈ zs,isByte z) (hoi:w.ownsRow base 5 1 (.slice Ai ni ci) ni (ints .u8 zs)) (hy:a.eval y=.slice (some ⟨G,0,none⟩) 1 1)
  (h63:n + 1≤100000) (hbase:base≤w.heap.size)
  (h:∀ g' c' w',OwnPnds w' base (some ⟨g',0,none⟩) (n + 1) c' (ss ++ [(x,zs)])→Below base w w'→K (a.put o.dst (.slice (some ⟨g',0,none⟩) (n + 1) c')) w') :
  if Region.wanted o (yielded ops a.tmps)=true then Oper.wp Tryz.prog o a w K Q else E:=by
 have hw:Region.wanted o (yielded ops a.tmps)=true:=by simp [Region.wanted,hgd]
 rw [if_pos hw]
 obtain ⟨i,hi,hz,hsize,hby⟩:=info_parts pnd_info
 have hml:(100000:Nat)≤maxLen:=by decide
 obtain ⟨vs,hv,hl,hby2,hin⟩:=hown
 obtain ⟨v',w',hrun,hown',hg,_⟩:=run_app2 (P:=Tryz.prog) w base 23 o.type 114 i _ 32 Tryz.underlying23 hi hz hsize hby rfl _ n vs hv G (.int .i64 x) (.slice Ai ni ci) hlit rfl rfl (by omega) (by omega) hbase
 obtain ⟨g',c',rfl⟩:=ownsRow_some hown'
 have hfin:OwnPnds w' base (some ⟨g',0,none⟩) (n + 1) c' (ss ++ [(x,zs)]):=OwnPnds.snoc hv hl hby2 hin hb (OwnTxt.of hoi) hg hown'
 unfold Oper.wp execOp
 simp only [ho,resolve,invoke,builtin,Sem.run_bind,Sem.run_pure,Result.andThen_ok,List.map_toArray,List.map_cons,List.map_nil,hs,hy,hrun]
 exact h g' c' w' hfin ((Below.refl base w).grown hg hbase (fun g e=>(hv.lt g e).1))
theorem rowsP_len (A a g:Int) (t:List Rc):(rowsP A a g t).length=t.length:=by unfold rowsP;exact writesP_len _ _ _
theorem rowsP_at (A a g:Int) (t:List Rc) {k:Nat} (hk:k < t.length):(rowsP A a g t).getD k (0,[])=(2 + a * A + (k:Int),jT g (k:Int) (recT (t.getD k zR))):=by
 unfold rowsP
 rw [writesP_eq,gtD,List.getElem?_map,List.getElem?_range hk]
 simp only [Option.map_some,Option.getD_some]
 rw [rowsT_at g t hk]
theorem rowsP_snoc (A a g:Int) (t:List Rc) {k:Nat} (hk:k < t.length):(rowsP A a g t).take (k + 1)=(rowsP A a g t).take k ++ [(2 + a * A + (k:Int),jT g (k:Int) (recT (t.getD k zR)))]:=by
 rw [take_snoc (by rw [rowsP_len];exact hk) ((0,[]):Pnd),rowsP_at A a g t hk]
end Go.Proofs.YtifgcfepbenpjaaGreat
