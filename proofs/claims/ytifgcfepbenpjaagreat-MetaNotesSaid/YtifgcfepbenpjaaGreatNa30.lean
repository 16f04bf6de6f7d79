/- Texts of layers 1 to 12, joined. -/
import Derived.Test.YtifgcfepbenpjaaGreatNa29
import Derived.Maps.RangeWalk
set_option maxRecDepth 100000
set_option maxHeartbeats 12800000
set_option linter.unusedVariables false
namespace Go.Proofs.YtifgcfepbenpjaaGreat
open Go.RowKit Go.Maps
def recD (r:Rc):DataW Unit:=.agg [.lit (.int .i64 r.p),.lit (.int .u32 r.b),.lit (.int .u32 r.e),.lit (.int .i64 r.l),.lit (.int .u8 r.h),.lit (.int .i64 r.f),.lit (.bool r.q),.lit (.bool r.a)]
theorem recD_inj {r s:Rc} (h:recD r=recD s):r=s:=by
 unfold recD at h
 simp only [DataW.agg.injEq,List.cons.injEq,DataW.lit.injEq,Lit.int.injEq,Lit.bool.injEq,true_and,and_true] at h
 rw [Rc.eq_iff]
 exact h
theorem recV_inj {r s:Rc} (h:recV r=recV s):r=s:=by
 simp only [Value.agg.injEq,Array.mk.injEq,List.cons.injEq,Value.int.injEq,Value.bool.injEq,true_and,and_true] at h
 rw [Rc.eq_iff]
 exact h
open Classical in
noncomputable def recElem (v:Value):Option (DataW Unit × List MemPlace):=if h:∃ r,v=recV r∧isR r then some (recD h.choose,[]) else none
theorem recElem_rec {r:Rc} (hr:isR r):recElem (recV r)=some (recD r,[]):=by
 have h:∃ s,recV r=recV s∧isR s:=⟨r,rfl,hr⟩
 unfold recElem
 rw [dif_pos h]
 have e:=recV_inj h.choose_spec.1
 rw [← e]
theorem recElem_inv {v:Value} {y:DataW Unit × List MemPlace} (h:recElem v=some y):∃ r,v=recV r∧isR r∧y=(recD r,[]):=by
 unfold recElem at h
 split at h
 ·rename_i k
  injection h with h
  exact ⟨k.choose,k.choose_spec.1,k.choose_spec.2,h.symm⟩
 ·cases h
theorem key11:Keyed Tryz.prog 3:=int_keyed Tryz.underlying3
def TabD (D:DataW Unit) (t:List Rc):Prop:=(∀ p:Int,has D (.int .i64 p)=(fR t p).isSome)∧∀ p r,fR t p=some r→∀ zd,D.atKey (.int .i64 p) zd=recD r
def TabAt (w:World) (B n:Nat) (t:List Rc):Prop:=∃ D,w.ownsMap Tryz.prog 3 recElem B n D∧TabD D t
section
variable {w w':World} {B n:Nat} {t t':List Rc} {D:DataW Unit}
theorem TabAt.made (w:World):TabAt (w.alloc (.map #[] 0)) w.heap.size 0 []:=⟨_,World.ownsMap_made w _ _ _,fun p=>rfl,fun p r h=>by cases h⟩
theorem TabAt.lt (h:TabAt w B n t):B < w.heap.size:=by
 obtain ⟨D,h,_⟩:=h
 exact h.lt
theorem TabAt.kept (h:TabAt w B n t) {row:Option Nat} (hg:w.grownBy w' row) (hne:some B≠row):TabAt w' B n t:=by
 obtain ⟨D,h,k⟩:=h
 exact ⟨D,h.kept hg hne,k⟩
theorem below_grown11 (h:Below w.heap.size w w') (row:Option Nat):w.grownBy w' row:=⟨h.os,h.tape,h.output,h.size,fun k hk _=>h.block k hk⟩
theorem TabAt.below (h:TabAt w B n t) (hb:Below w.heap.size w w'):TabAt w' B n t:=h.kept (below_grown11 hb none) (by simp)
theorem TabAt.isMap (h:TabAt w B n t):∃ es c,w.heap[B]?=some (.map es c):=by
 obtain ⟨D,⟨es,c,hb,_⟩,_⟩:=h
 exact ⟨es,c,hb⟩
theorem TabAt.cell (h:TabAt w B n t) (hg:w.grownBy w' (some B)) {p:Addr} {v:Value} (hc:w.cell? p=some v):w'.cell? p=some v:=by
 obtain ⟨es,c,hb⟩:=h.isMap
 have hne:p.block≠B:=fun e=>by
  unfold World.cell? at hc
  rw [e,hb] at hc
  cases hc
 have hlt:p.block < w.heap.size:=by
  rcases Nat.lt_or_ge p.block w.heap.size with k | k
  ·exact k
  ·unfold World.cell? at hc
   rw [Array.getElem?_eq_none k] at hc
   cases hc
 rw [World.cell?_of_block (hg.block p.block hlt (fun e=>hne (by injection e)))]
 exact hc
theorem Seq.turned {A:Option Addr} {xs:List Value} (h:TabAt w B n t) (hg:w.grownBy w' (some B)) (hs:Seq w w.heap.size A xs):Seq w' w'.heap.size A xs:=fun j v hv=>by
 obtain ⟨b,o,e,hlt,hc⟩:=hs j v hv
 exact ⟨b,o,e,Nat.lt_of_lt_of_le hlt hg.size,h.cell hg hc⟩
theorem Arg.turned {k:IntKind} {A:Option Addr} {m c:Nat} {zs:List Int} (h:TabAt w B n t) (hg:w.grownBy w' (some B)) (ha:Arg w k A m c zs):Arg w' k A m c zs:=⟨Seq.turned h hg ha.seq,ha.len,ha.cap,ha.max⟩
theorem Texts.turned {A:Option Addr} {m c:Nat} {l:List Txt} (h:TabAt w B n t) (hg:w.grownBy w' (some B)) (hl:Texts w A m c l):Texts w' A m c l :=
 ⟨hl.len,hl.cap,hl.max,hl.byte,fun i hi=>by
  obtain ⟨b,o,Ai,ni,ci,e,hlt,hc,ha⟩:=hl.at_ i hi
  exact ⟨b,o,Ai,ni,ci,e,Nat.lt_of_lt_of_le hlt hg.size,h.cell hg hc,Arg.turned h hg ha⟩⟩
theorem key_ne {p q:Int} (h:p≠q):(Lit.int .i64 p)≠.int .i64 q:=fun e=>h (by injection e)
theorem TabD.put (hD:IsMap D) (h:TabD D t) {r:Rc} (ht:∀ p,fR t' p=if p=r.p then some r else fR t p):TabD (D.put (.int .i64 r.p) (recD r)) t':=by
 refine ⟨fun p=>?_,fun p s hs zd=>?_⟩
 ·rw [ht]
  by_cases hp:p=r.p
  ·subst hp
   rw [if_pos rfl]
   exact has_put_same hD (show WideAt.IsKeyLit (.int .i64 r.p) from trivial) _
  ·rw [if_neg hp,has_put_other (key_ne hp)]
   exact h.1 p
 ·rw [ht] at hs
  by_cases hp:p=r.p
  ·subst hp
   rw [if_pos rfl] at hs
   injection hs with hs
   subst hs
   exact atKey_put_same hD (show WideAt.IsKeyLit (.int .i64 r.p) from trivial) _ _
  ·rw [if_neg hp] at hs
   rw [atKey_put_other (key_ne hp)]
   exact h.2 p s hs zd
theorem TabD.del (h:TabD D t) {q:Int} (ht:∀ p,fR t' p=if p=q then none else fR t p):TabD (D.del (.int .i64 q)) t':=by
 refine ⟨fun p=>?_,fun p s hs zd=>?_⟩
 ·rw [ht]
  by_cases hp:p=q
  ·subst hp
   rw [if_pos rfl]
   exact has_del_same
  ·rw [if_neg hp,has_del_other (key_ne hp)]
   exact h.1 p
 ·rw [ht] at hs
  by_cases hp:p=q
  ·rw [if_pos hp] at hs
   cases hs
  ·rw [if_neg hp] at hs
   rw [atKey_del_other (key_ne hp)]
   exact h.2 p s hs zd
end
section
variable (w:World) {ops:Array Oper} {rest:List Oper} {o:Oper} {a:Act} {Q:Exit→Act→World→Prop}
theorem wpList_tab_put (hg:o.guard=none) (m x v:Operand) (hop:o.op=.mapUpdate 143 m x v) (B n:Nat) (t t':List Rc) (hm:a.eval m=.map (some B)) (h:TabAt w B n t) (hn:n < maxLen) (r:Rc) (hr:isR r) (hp:(Lit.int .i64 r.p).wf=true)
  (hx:a.eval x=.int .i64 r.p) (hv:a.eval v=recV r) (ht:∀ p,fR t' p=if p=r.p then some r else fR t p) (hK:∀ w',TabAt w' B (n + 1) t'→w.grownBy w' (some B)→wpList Tryz.prog ops Q rest (a.put o.dst undef) w'):wpList Tryz.prog ops Q (o :: rest) a w:=by
 obtain ⟨D,hown,hD⟩:=h
 exact wpList_mapUpdate_own w hg m x v 143 hop 3 64 key11 Tryz.underlying143 recElem B n D hm hown hn _ _ (.int .i64 r.p) hx hv (keyOf_int_mk Tryz.underlying3 hp) (recD r) [] (recElem_rec hr) fun w' h1 h2=>hK w' ⟨_,h1,hD.put hown.isMap ht⟩ h2
theorem wpList_tab_del (hg:o.guard=none) (m x:Operand) (hop:o.op=Op.call { callee:=Callee.builtin Builtin.delete,args:=#[m,x],argTypes:=#[143,3] }) (B n:Nat) (t t':List Rc) (hm:a.eval m=.map (some B)) (h:TabAt w B n t) (q:Int) (hp:(Lit.int .i64 q).wf=true)
  (hx:a.eval x=.int .i64 q) (ht:∀ p,fR t' p=if p=q then none else fR t p) (hK:∀ w',TabAt w' B n t'→w.grownBy w' (some B)→wpList Tryz.prog ops Q rest (a.put o.dst (.tuple #[])) w'):wpList Tryz.prog ops Q (o :: rest) a w:=by
 obtain ⟨D,hown,hD⟩:=h
 exact wpList_delete_own w hg m x 143 3 hop 64 key11 Tryz.underlying143 recElem B n D hm hown _ (.int .i64 q) hx (keyOf_int_mk Tryz.underlying3 hp) fun w' h1 h2=>hK w' ⟨_,h1,hD.del ht⟩ h2.grown
end
def Coll (t:List Rc) (left:Lit→Bool) (M:List Rc):Prop:=(∀ r ∈ M,r ∈ t)∧(M.Pairwise fun r s=>r.p≠s.p)∧∀ r ∈ t,(r ∈ M↔left (.int .i64 r.p)=false)
theorem fR_mem {t:List Rc} (ht:t.Pairwise fun r s=>r.p≠s.p) {r:Rc} (hr:r ∈ t):fR t r.p=some r:=by
 induction t with
 | nil=>cases hr
 | cons s t ih =>
  obtain ⟨h1,h2⟩:=List.pairwise_cons.1 ht
  unfold fR
  rcases List.mem_cons.1 hr with rfl | hr
  ·simp
  ·have:=h1 r hr
   rw [List.find?_cons_of_neg (by simpa using this)]
   exact ih h2 hr
theorem mayTab_ne {t:List Rc} (h:mayTab t):t.Pairwise fun r s=>r.p≠s.p:=((mayTab_iff t).1 h).2.imp fun h=>by omega
theorem Coll.start {D:DataW Unit} {t:List Rc} (ht:t.Pairwise fun r s=>r.p≠s.p) (h:TabD D t):Coll t (has D) [] :=
 ⟨(fun r hr=>by cases hr),List.Pairwise.nil,fun r hr=>by rw [h.1,fR_mem ht hr];simp⟩
theorem Coll.step {t:List Rc} {left:Lit→Bool} {M:List Rc} (ht:t.Pairwise fun r s=>r.p≠s.p) (h:Coll t left M) {c:Rc} (hc:c ∈ t) (hl:left (.int .i64 c.p)=true):Coll t (fun z=>left z && !z.sameKey (.int .i64 c.p)) (M ++ [c]):=by
 obtain ⟨h1,h2,h3⟩:=h
 refine ⟨fun r hr=>?_,?_,fun r hr=>?_⟩
 ·rcases List.mem_append.1 hr with hr | hr
  ·exact h1 r hr
  ·rw [List.mem_singleton.1 hr];exact hc
 ·refine List.pairwise_append.2 ⟨h2,List.pairwise_singleton _ _,fun r hr s hs=>?_⟩
  rw [List.mem_singleton.1 hs]
  intro e
  have:=(h3 r (h1 r hr)).1 hr
  rw [e,hl] at this
  cases this
 ·by_cases e:r.p=c.p
  ·have hrc:r=c:=by
    have a:=fR_mem ht hr
    have b:=fR_mem ht hc
    rw [e,b] at a
    injection a with a
    exact a.symm
   subst hrc
   simp [Lit.sameKey]
  ·have hne:r≠c:=fun k=>e (by rw [k])
   rw [List.mem_append,h3 r hr]
   simp [Lit.sameKey,e,hne]
theorem Coll.done {t:List Rc} {left:Lit→Bool} {M:List Rc} (h:Coll t left M) (hl:∀ kl,left kl=false) (r:Rc):r ∈ M↔r ∈ t:=⟨h.1 r,fun hr=>(h.2.2 r hr).2 (hl _)⟩
theorem three_of {M:List Rc} (h:M.Pairwise fun r s=>r.p≠s.p) (hp:∀ r ∈ M,0≤r.p∧r.p < 3):M.length≤3:=by
 match M with
 | [] | [_] | [_,_] | [_,_,_]=>simp
 | a :: b :: c :: d :: l =>
  exfalso
  have ha:=hp a (by simp)
  have hb:=hp b (by simp)
  have hc:=hp c (by simp)
  have hd:=hp d (by simp)
  simp only [List.pairwise_cons,List.mem_cons] at h
  obtain ⟨h1,h2,h3,_⟩:=h
  have:=h1 b (.inl rfl)
  have:=h1 c (.inr (.inl rfl))
  have:=h1 d (.inr (.inr (.inl rfl)))
  have:=h2 c (.inl rfl)
  have:=h2 d (.inr (.inl rfl))
  have:=h3 d (.inl rfl)
  omega
def swpR (L:List Rc) (j:Nat):List Rc:=(L.set (j + 1) (L.getD j zR)).set j (L.getD (j + 1) zR)
def insR:Nat→List Rc→List Rc
 | 0,L=>L
 | j + 1,L=>if (L.getD (j + 1) zR).p < (L.getD j zR).p then insR j (swpR L j) else L
def isoR (L:List Rc):Nat→List Rc
 | 0=>L
 | i + 1=>insR i (isoR L i)
theorem swpR_length (L:List Rc) (j:Nat):(swpR L j).length=L.length:=by simp [swpR]
theorem insR_length:∀ (j:Nat) (L:List Rc),(insR j L).length=L.length
 | 0,_=>rfl
 | j + 1,L=>by
  unfold insR
  split
  ·rw [insR_length j,swpR_length]
  ·rfl
theorem isoR_length (L:List Rc) (i:Nat):(isoR L i).length=L.length:=by
 induction i with
 | zero=>rfl
 | succ i ih=>rw [isoR,insR_length,ih]
theorem iso_sorted {L:List Rc} (hl:L.length≤3) (hd:L.Pairwise fun r s=>r.p≠s.p):((isoR L L.length).Pairwise fun r s=>r.p < s.p)∧∀ r,r ∈ isoR L L.length↔r ∈ L:=by
 match L,hl with
 | [],_=>exact ⟨List.Pairwise.nil,fun r=>Iff.rfl⟩
 | [a],_=>exact ⟨List.pairwise_singleton _ _,fun r=>Iff.rfl⟩
 | [a,b],_ =>
  have hab:a.p≠b.p:=by simpa using hd
  show ((insR 1 (insR 0 [a,b])).Pairwise _)∧∀ r,r ∈ insR 1 (insR 0 [a,b])↔_
  by_cases h:b.p < a.p
  ·have e:insR 1 (insR 0 [a,b])=[b,a]:=if_pos h
   rw [e]
   exact ⟨by simpa using h,fun r=>by simp [or_comm]⟩
  ·have e:insR 1 (insR 0 [a,b])=[a,b]:=if_neg h
   rw [e]
   exact ⟨by simp;omega,fun r=>Iff.rfl⟩
 | [a,b,c],_ =>
  simp only [List.pairwise_cons,List.mem_cons,List.not_mem_nil,or_false,forall_eq_or_imp,forall_eq] at hd
  obtain ⟨⟨hab,hac⟩,hbc,_⟩:=hd
  show ((insR 2 (insR 1 (insR 0 [a,b,c]))).Pairwise _)∧∀ r,r ∈ insR 2 (insR 1 (insR 0 [a,b,c]))↔_
  have key:∀ x y:Rc,x.p < y.p→c.p≠x.p→c.p≠y.p→((insR 2 [x,y,c]).Pairwise fun r s=>r.p < s.p)∧∀ r,r ∈ insR 2 [x,y,c]↔r=x∨r=y∨r=c:=by
   intro x y hxy hx hy
   by_cases h1:c.p < y.p
   ·have e:insR 2 [x,y,c]=insR 1 [x,c,y]:=if_pos h1
    rw [e]
    by_cases h2:c.p < x.p
    ·have e2:insR 1 [x,c,y]=[c,x,y]:=if_pos h2
     rw [e2]
     refine ⟨by simp;omega,fun r=>?_⟩
     simp only [List.mem_cons,List.not_mem_nil,or_false]
     constructor
     ·rintro (h | h | h) <;> simp [h]
     ·rintro (h | h | h) <;> simp [h]
    ·have e2:insR 1 [x,c,y]=[x,c,y]:=if_neg h2
     rw [e2]
     refine ⟨by simp;omega,fun r=>?_⟩
     simp only [List.mem_cons,List.not_mem_nil,or_false]
     constructor
     ·rintro (h | h | h) <;> simp [h]
     ·rintro (h | h | h) <;> simp [h]
   ·have e:insR 2 [x,y,c]=[x,y,c]:=if_neg h1
    rw [e]
    refine ⟨by simp;omega,fun r=>?_⟩
    simp only [List.mem_cons,List.not_mem_nil,or_false]
  by_cases h:b.p < a.p
  ·have e:insR 1 (insR 0 [a,b,c])=[b,a,c]:=if_pos h
   rw [e]
   obtain ⟨k1,k2⟩:=key b a h (fun k=>hbc k.symm) (fun k=>hac k.symm)
   refine ⟨k1,fun r=>(k2 r).trans ?_⟩
   simp only [List.mem_cons,List.not_mem_nil,or_false]
   constructor
   ·rintro (h | h | h) <;> simp [h]
   ·rintro (h | h | h) <;> simp [h]
  ·have e:insR 1 (insR 0 [a,b,c])=[a,b,c]:=if_neg h
   rw [e]
   obtain ⟨k1,k2⟩:=key a b (by omega) (fun k=>hac k.symm) (fun k=>hbc k.symm)
   refine ⟨k1,fun r=>(k2 r).trans ?_⟩
   simp only [List.mem_cons,List.not_mem_nil,or_false]
theorem iso_tab {t M:List Rc} (ht:mayTab t) (hM:M.Pairwise fun r s=>r.p≠s.p) (hm:∀ r,r ∈ M↔r ∈ t):isoR M M.length=t:=by
 have h:=(mayTab_iff t).1 ht
 have hl:=three_of hM fun r hr=>⟨(h.1 r ((hm r).1 hr)).1.1,(h.1 r ((hm r).1 hr)).1.2.1⟩
 obtain ⟨s1,s2⟩:=iso_sorted hl hM
 have s3:=s1.imp (S:=fun r s:Rc=>r.p≠s.p) fun h=>by omega
 refine tab_ext s1 h.2 fun p=>?_
 have hmem:∀ r,r ∈ isoR M M.length↔r ∈ t:=fun r=>(s2 r).trans (hm r)
 cases e:fR t p with
 | none =>
  refine List.find?_eq_none.2 fun r hr k=>?_
  have hp:r.p=p:=by simpa using k
  have:=fR_mem (mayTab_ne ht) ((hmem r).1 hr)
  rw [hp,e] at this
  cases this
 | some r =>
  obtain ⟨h1,h2⟩:=fR_some e
  rw [← h2]
  exact fR_mem s3 ((hmem r).2 h1)
end Go.Proofs.YtifgcfepbenpjaaGreat
namespace Go.Proofs.YtifgcfepbenpjaaGreat
open Go.RowKit
def cmpI (a b:Int):Int:=if a < b then -1 else if b < a then 1 else 0
theorem cmpI_neg (a b:Int):decide (cmpI a b < 0)=decide (a < b):=by
 unfold cmpI
 by_cases h:a < b
 ·simp [h]
 ·by_cases k:b < a <;> simp [h,k]
theorem pnan_any (n:Int) (w:World):Calls Tryz.prog 178 #[.int .i64 n] w fun e w'=>e=.returned (.bool false)∧w'=w:=by
 have hb:(n != n)=false:=by simp
 go_enter Tryz.func178,Tryz.ntmps178
 go_wp2
 go_ret
 exact ⟨rfl,rfl⟩
theorem pcompare_any (a b:Int) (w:World):Calls Tryz.prog 153 #[.int .i64 a,.int .i64 b] w fun e w'=>e=.returned (.int .i64 (cmpI a b))∧w'=w:=by
 have N:=Lh (fun n wx=>pnan_any n wx)
 by_cases h:a < b
 ·rw [show cmpI a b=-1 from if_pos h]
  go_enter Tryz.func153,Tryz.ntmps153
  go_wp2_with fail
  refine (N.out _ _).mono ?_
  rintro e w1 ⟨rfl,rfl⟩
  go_wp2_with fail
  refine (N.out _ _).mono ?_
  rintro e w2 ⟨rfl,rfl⟩
  go_wp2
  go_ret
  exact ⟨rfl,rfl⟩
 ·by_cases k:b < a
  ·rw [show cmpI a b=1 from (if_neg h).trans (if_pos k)]
   go_enter Tryz.func153,Tryz.ntmps153
   go_wp2_with fail
   refine (N.out _ _).mono ?_
   rintro e w1 ⟨rfl,rfl⟩
   go_wp2_with fail
   refine (N.out _ _).mono ?_
   rintro e w2 ⟨rfl,rfl⟩
   go_wp2
   go_ret
   exact ⟨rfl,rfl⟩
  ·rw [show cmpI a b=0 from (if_neg h).trans (if_neg k)]
   go_enter Tryz.func153,Tryz.ntmps153
   go_wp2_with fail
   refine (N.out _ _).mono ?_
   rintro e w1 ⟨rfl,rfl⟩
   go_wp2_with fail
   refine (N.out _ _).mono ?_
   rintro e w2 ⟨rfl,rfl⟩
   go_wp2
   go_ret
   exact ⟨rfl,rfl⟩
theorem pclos_any (r s:Rc) (w:World):Calls Tryz.prog 152 #[recV r,recV s] w fun e w'=>e=.returned (.int .i64 (cmpI r.p s.p))∧Below w.heap.size w w':=by
 obtain ⟨x,hbx⟩:=rec_box w r
 obtain ⟨y,hby⟩:=rec_box (w.alloc (.cells (recL r).toArray 64)) s
 have x2:=x.below hby x.lt
 have B:=Lh (hbx.trans (hby.mono hbx.size))
 have C:=Lh (fun wx=>pcompare_any r.p s.p wx)
 obtain ⟨c0,c1,c2,c3,c4,c5,c6,c7⟩:=x2.rec
 obtain ⟨d0,d1,d2,d3,d4,d5,d6,d7⟩:=y.rec
 clear x y hbx hby x2 c1 c2 c3 c4 c5 c6 c7 d1 d2 d3 d4 d5 d6 d7
 go_enter Tryz.func152,Tryz.ntmps152
 go_wp2_with fail
 refine (C.out _).mono ?_
 rintro e w1 ⟨rfl,rfl⟩
 go_wp2
 go_ret
 exact ⟨rfl,B.out⟩
theorem plen64_0 (w:World):Calls Tryz.prog 201 #[.int .u64 0] w fun e w'=>(∃ k,e=.returned (.int .i64 k))∧w'=w:=by
 go_enter Tryz.func201,Tryz.ntmps201
 go_wp2
 go_ret
 exact ⟨⟨_,rfl⟩,rfl⟩
theorem plen64_1 (w:World):Calls Tryz.prog 201 #[.int .u64 1] w fun e w'=>(∃ k,e=.returned (.int .i64 k))∧w'=w:=by
 go_enter Tryz.func201,Tryz.ntmps201
 go_wp2
 go_ret
 exact ⟨⟨_,rfl⟩,rfl⟩
theorem plen64_2 (w:World):Calls Tryz.prog 201 #[.int .u64 2] w fun e w'=>(∃ k,e=.returned (.int .i64 k))∧w'=w:=by
 go_enter Tryz.func201,Tryz.ntmps201
 go_wp2
 go_ret
 exact ⟨⟨_,rfl⟩,rfl⟩
theorem plen64_3 (w:World):Calls Tryz.prog 201 #[.int .u64 3] w fun e w'=>(∃ k,e=.returned (.int .i64 k))∧w'=w:=by
 go_enter Tryz.func201,Tryz.ntmps201
 go_wp2
 go_ret
 exact ⟨⟨_,rfl⟩,rfl⟩
end Go.Proofs.YtifgcfepbenpjaaGreat
namespace Go.Proofs.YtifgcfepbenpjaaGreat
section
variable {P T A M W Q:Int} {S S':List Sec} {C C':List Pnd}
theorem rowsT_at (g:Int) (t:List Rc) {k:Nat} (hk:k < t.length):(rowsT g t).getD k []=jT g (k:Int) (recT (t.getD k zR)):=by
 unfold rowsT
 simp [List.getD_eq_getElem?_getD,hk]
end
section
variable {P T A M W Q:Int} {S:List Sec} {m:Mt} {b:Txt}
theorem three_of12 {t:List Rc} (h:mayTab t):t.length≤3:=by
 match t with
 | [] | [_] | [_,_] | [_,_,_]=>simp
 | a :: b :: c :: d :: l =>
  exfalso
  have h':=(mayTab_iff _).1 h
  have ha:=(h'.1 a (by simp)).1
  have hd:=(h'.1 d (by simp)).1
  obtain ⟨h1,h2⟩:=List.pairwise_cons.1 h'.2
  obtain ⟨h3,h4⟩:=List.pairwise_cons.1 h2
  obtain ⟨h5,_⟩:=List.pairwise_cons.1 h4
  have:=h1 b (by simp)
  have:=h3 c (by simp)
  have:=h5 d (by simp)
  omega
theorem note_len {t x:List Rc} (h:putR t b=some x):1≤b.length∧b.length≤20:=by
 unfold putR at h
 split at h
 ·unfold putN at h
  split at h
  ·rename_i hg
   have:=hg.1
   omega
  ·split at h
   ·rename_i hn
    have:=hn.1
    omega
   ·cases h
 ·cases h
end
end Go.Proofs.YtifgcfepbenpjaaGreat
namespace Go.Proofs.YtifgcfepbenpjaaGreat
section
variable {P T A M W Q:Int} {S S':List Sec}
end
section
variable {P T A M W Q:Int} {S:List Sec} {m:Mt} {b:Txt} {t':List Rc} {B V:Int}
end
theorem actsA_length (L:List Pnd):(actsA L).length=L.length + 1:=by simp [actsA,wrA]
theorem writesP_len (base:Int) (l:List Txt) (n:Nat):(writesP base l n).length=n:=by rw [writesP_eq];simp
section
variable {P T A M W Q:Int} {S:List Sec} {m:Mt} {b:Txt} {t':List Rc} {B V:Int}
def cmM (A:Int) (m:Mt) (t':List Rc):Mt:=if m.n < A then ⟨m.s,m.n + 1,m.u,t'⟩ else ⟨anewS m,(t'.length:Int),m.u + 1,t'⟩
def cmA (P T A M W Q:Int) (S:List Sec) (C:List Pnd) (m:Mt) (b:Txt) (t':List Rc):List Ac:=if m.n < A then actsA [(2 + m.s.2.1 * A + m.n,jT m.s.2.2 m.n b)] else actsA (rowsP A (1 - m.s.2.1) (nextM m) t') ++ actsA (spL P T A M W Q S C (anewS m))
end
end Go.Proofs.YtifgcfepbenpjaaGreat
