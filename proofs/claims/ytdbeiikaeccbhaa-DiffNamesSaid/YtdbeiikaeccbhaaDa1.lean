/- Texts of the layers below, joined. -/
import Derived.OrdersHeld
import Derived.Deep.RegionHeld
import Derived.Lib.Hide
set_option maxRecDepth 100000
set_option maxHeartbeats 12800000
set_option linter.unusedVariables false
namespace Go.Proofs.Ytdbeiikaeccbhaa
theorem Lh {p : Prop} (h : p) : Go.RowKit.Hid p := h
theorem gtD {α : Type _} {l : List α} {i : Nat} {a : α} : l.getD i a = l[i]?.getD a := List.getD_eq_getElem?_getD
theorem gcZ {α : Type _} {a : α} {l : List α} : (a :: l)[0]? = some a := List.getElem?_cons_zero
theorem gcS {α : Type _} {a : α} {l : List α} {i : Nat} : (a :: l)[i + 1]? = l[i]? := List.getElem?_cons_succ
theorem stA {α : Type _} (l : List α) (i : Nat) (a : α) : l.toArray.setIfInBounds i a = (l.set i a).toArray := List.setIfInBounds_toArray l i a
theorem scZ {α : Type _} {x : α} {xs : List α} {a : α} : (x :: xs).set 0 a = a :: xs := List.set_cons_zero
theorem scS {α : Type _} {x : α} {xs : List α} {n : Nat} {a : α} : (x :: xs).set (n + 1) a = x :: xs.set n a := List.set_cons_succ
theorem geE {α : Type _} {l : List α} {i : Nat} (h : i < l.length) : l[i]? = some (l[i]'h) := List.getElem?_eq_getElem h
end Go.Proofs.Ytdbeiikaeccbhaa
namespace Go.Proofs.Ytdbeiikaeccbhaa
def isByte (z:Int):Prop:=0≤z∧z < 256
end Go.Proofs.Ytdbeiikaeccbhaa
namespace Go.Proofs.Ytdbeiikaeccbhaa
def pg (s:List Int) (p:Nat):Nat:=(s.getD p 0).toNat
def hasT (s:List Int) (t:Nat):Bool:=(pg s (t / 8)).testBit (t % 8)
def pgs (m:Nat):Nat:=(m + 7) / 8
theorem pg_lt {s:List Int} (h:∀ z ∈ s,isByte z) (p:Nat):pg s p < 256:=by
 unfold pg
 rcases Nat.lt_or_ge p s.length with hp | hp
 ·have:=h (s.getD p 0) (by rw [gtD,geE hp];simp)
  unfold isByte at this
  omega
 ·simp [List.getD_eq_getElem?_getD,List.getElem?_eq_none hp]
theorem pg_cast {s:List Int} (h:∀ z ∈ s,isByte z) (p:Nat):s.getD p 0=(pg s p:Int):=by
 unfold pg
 rcases Nat.lt_or_ge p s.length with hp | hp
 ·have:=h (s.getD p 0) (by rw [gtD,geE hp];simp)
  unfold isByte at this
  omega
 ·simp [List.getD_eq_getElem?_getD,List.getElem?_eq_none hp]
theorem pg_set (s:List Int) (i p:Nat) (v:Int) (hi:i < s.length):pg (s.set i v) p=if p=i then v.toNat else pg s p:=by
 unfold pg
 simp only [gtD,List.getElem?_set]
 by_cases h:i=p
 ·subst h;simp [hi]
 ·rw [if_neg h,if_neg (fun e=>h e.symm)]
theorem bit_lt {x:Nat} (h:x < 256) {i:Nat} (hi:8≤i):x.testBit i=false :=
 Nat.testBit_lt_two_pow (Nat.lt_of_lt_of_le h (Nat.le_trans (by decide:256≤2 ^ 8) (Nat.pow_le_pow_right (by decide) hi)))
theorem hasT_beyond (s:List Int) {t:Nat} (h:8 * s.length≤t):hasT s t=false:=by
 have:pg s (t / 8)=0:=by simp [pg,List.getD_eq_getElem?_getD,List.getElem?_eq_none (by omega:s.length≤t / 8)]
 simp [hasT,this]
theorem set_ext {a b:List Int} (hl:a.length=b.length) (ha:∀ z ∈ a,isByte z) (hb:∀ z ∈ b,isByte z) (h:∀ t,t < 8 * a.length→hasT a t=hasT b t):a=b:=by
 refine List.ext_getElem hl fun p h1 h2=>?_
 have e:pg a p=pg b p:=by
  refine Nat.eq_of_testBit_eq fun i=>?_
  rcases Nat.lt_or_ge i 8 with hi | hi
  ·have:=h (8 * p + i) (by omega)
   unfold hasT at this
   rwa [show (8 * p + i) / 8=p from by omega,show (8 * p + i) % 8=i from by omega] at this
  ·rw [bit_lt (pg_lt ha p) hi,bit_lt (pg_lt hb p) hi]
 have e1:=pg_cast ha p
 have e2:=pg_cast hb p
 rw [e,← e2] at e1
 simpa [List.getD_eq_getElem?_getD,h1,h2] using e1
structure IsSet (m:Nat) (s:List Int):Prop where
 len:s.length=pgs m
 byte:∀ z ∈ s,isByte z
 out:∀ t,m≤t→hasT s t=false
theorem IsSet.ext {m:Nat} {a b:List Int} (ha:IsSet m a) (hb:IsSet m b) (h:∀ t,t < m→hasT a t=hasT b t):a=b :=
 set_ext (ha.len.trans hb.len.symm) ha.byte hb.byte fun t _=>by
  rcases Nat.lt_or_ge t m with ht | ht
  ·exact h t ht
  ·rw [ha.out t ht,hb.out t ht]
def markL (s:List Int) (t:Nat):List Int:=s.set (t / 8) ((pg s (t / 8) ||| 2 ^ (t % 8):Nat):Int)
theorem markL_length (s:List Int) (t:Nat):(markL s t).length=s.length:=by simp [markL]
theorem pow_lt (t:Nat):2 ^ (t % 8) < 256:=by
 have h:2 ^ (t % 8) < 2 ^ 8:=Nat.pow_lt_pow_right (by decide) (Nat.mod_lt _ (by decide))
 omega
theorem or_byteB {a b:Nat} (ha:a < 256) (hb:b < 256):a ||| b < 256:=Nat.or_lt_two_pow (n:=8) ha hb
theorem markL_byte {s:List Int} (h:∀ z ∈ s,isByte z) (t:Nat):∀ z ∈ markL s t,isByte z:=by
 intro z hz
 rcases List.mem_or_eq_of_mem_set hz with hz | rfl
 ·exact h z hz
 ·have:=or_byteB (pg_lt h (t / 8)) (pow_lt t)
  exact ⟨by omega,by omega⟩
theorem hasT_mark (s:List Int) (t u:Nat) (h:t / 8 < s.length):hasT (markL s t) u=(hasT s u || decide (u=t)):=by
 unfold hasT markL
 rw [pg_set _ _ _ _ h]
 by_cases e:u / 8=t / 8
 ·rw [if_pos e,Int.toNat_natCast,Nat.testBit_or,Nat.testBit_two_pow,e]
  congr 1
  rw [decide_eq_decide]
  omega
 ·rw [if_neg e]
  have:decide (u=t)=false:=by rw [decide_eq_false_iff_not];intro e2;exact e (by rw [e2])
  rw [this,Bool.or_false]
def none0 (m:Nat):List Int:=List.replicate (pgs m) 0
theorem none0_byte (m:Nat):∀ z ∈ none0 m,isByte z:=by
 intro z hz
 rw [List.eq_of_mem_replicate hz]
 exact ⟨by omega,by omega⟩
theorem hasT_none0 (m t:Nat):hasT (none0 m) t=false:=by
 have:pg (none0 m) (t / 8)=0:=by
  unfold pg none0
  rw [gtD,List.getElem?_replicate]
  split <;> rfl
 simp [hasT,this]
def madeTo (m:Nat) (f:Nat→Bool):Nat→List Int
 | 0=>none0 m
 | k + 1=>if f k then markL (madeTo m f k) k else madeTo m f k
def made (m:Nat) (f:Nat→Bool):List Int:=madeTo m f m
theorem madeTo_length (m:Nat) (f:Nat→Bool) (k:Nat):(madeTo m f k).length=pgs m:=by
 induction k with
 | zero=>simp [madeTo,none0]
 | succ k ih=>unfold madeTo;split <;> simp [markL_length,ih]
theorem madeTo_byte (m:Nat) (f:Nat→Bool) (k:Nat):∀ z ∈ madeTo m f k,isByte z:=by
 induction k with
 | zero=>exact none0_byte m
 | succ k ih=>unfold madeTo;split;exact markL_byte ih k;exact ih
theorem pgs_le {m t:Nat} (h:t < m):t / 8 < pgs m:=by unfold pgs;omega
theorem hasT_madeTo (m:Nat) (f:Nat→Bool) (k:Nat) (hk:k≤m) (t:Nat):hasT (madeTo m f k) t=(decide (t < k) && f t):=by
 induction k with
 | zero=>simp [madeTo,hasT_none0]
 | succ k ih =>
  have ih:=ih (by omega)
  unfold madeTo
  have hk2:k / 8 < (madeTo m f k).length:=by rw [madeTo_length];exact pgs_le (by omega)
  split
  ·rename_i hf
   rw [hasT_mark _ _ _ hk2,ih]
   rcases Nat.lt_trichotomy t k with h | h | h
   ·simp [h,show t < k + 1 by omega,show ¬ t=k by omega]
   ·subst h;simp [hf]
   ·simp [show ¬ t < k by omega,show ¬ t < k + 1 by omega,show ¬ t=k by omega]
  ·rename_i hf
   rw [ih]
   rcases Nat.lt_trichotomy t k with h | h | h
   ·simp [h,show t < k + 1 by omega]
   ·subst h;simp [hf]
   ·simp [show ¬ t < k by omega,show ¬ t < k + 1 by omega]
theorem hasT_made (m:Nat) (f:Nat→Bool) (t:Nat):hasT (made m f) t=(decide (t < m) && f t):=hasT_madeTo m f m (Nat.le_refl _) t
theorem made_isSet (m:Nat) (f:Nat→Bool):IsSet m (made m f) :=
 ⟨madeTo_length m f m,madeTo_byte m f m,fun t ht=>by rw [hasT_made];simp [show ¬ t < m by omega]⟩
theorem made_eq {m:Nat} {s:List Int} (h:IsSet m s) (f:Nat→Bool) (hf:∀ t,t < m→hasT s t=f t):made m f=s :=
 (made_isSet m f).ext h fun t ht=>by rw [hasT_made,hf t ht];simp [ht]
theorem made_congr {m:Nat} {f g:Nat→Bool} (h:∀ t,t < m→f t=g t):made m f=made m g :=
 made_eq (made_isSet m g) f fun t ht=>by rw [hasT_made,h t ht];simp [ht]
theorem mark_add {m:Nat} {f:Nat→Bool} {k:Nat} (hk:k < m):pg (madeTo m f k) (k / 8) ||| 2 ^ (k % 8)=pg (madeTo m f k) (k / 8) + 2 ^ (k % 8):=by
 have hlt:pg (madeTo m f k) (k / 8) < 2 ^ (k % 8):=by
  refine Nat.lt_pow_two_of_testBit _ fun i hi=>?_
  rcases Nat.lt_or_ge i 8 with h8 | h8
  ·have:=hasT_madeTo m f k (by omega) (8 * (k / 8) + i)
   unfold hasT at this
   rw [show (8 * (k / 8) + i) / 8=k / 8 from by omega,show (8 * (k / 8) + i) % 8=i from by omega] at this
   rw [this]
   simp [show ¬ 8 * (k / 8) + i < k by omega]
  ·exact bit_lt (pg_lt (madeTo_byte m f k) _) h8
 have:=Nat.two_pow_add_eq_or_of_lt hlt 1
 rw [Nat.mul_one] at this
 rw [Nat.or_comm,← this,Nat.add_comm]
def may (m:Nat) (s:List Int):Prop:=s.length=pgs m∧pg s (pgs m - 1) / 2 ^ (m - 8 * (pgs m - 1))=0
instance (m:Nat) (s:List Int):Decidable (may m s):=by unfold may;exact inferInstance
def chk (n:Int) (s:List Int):Int:=if 1≤n∧n≤16 then (if may n.toNat s then 0 else 8) else 2
theorem may_isSet {m:Nat} {s:List Int} (h1:1≤m) (hb:∀ z ∈ s,isByte z):may m s↔IsSet m s:=by
 have hp:pgs m=(m - 1) / 8 + 1:=by unfold pgs;omega
 constructor
 ·intro ⟨hl,hz⟩
  refine ⟨hl,hb,fun t ht=>?_⟩
  rcases Nat.lt_or_ge t (8 * s.length) with h | h
  ·have hpos:0 < 2 ^ (m - 8 * (pgs m - 1)):=Nat.two_pow_pos _
   have hlt:pg s (pgs m - 1) < 2 ^ (m - 8 * (pgs m - 1)):=by
    rcases Nat.lt_or_ge (pg s (pgs m - 1)) (2 ^ (m - 8 * (pgs m - 1))) with h' | h'
    ·exact h'
    ·have:=(Nat.one_le_div_iff hpos).2 h';omega
   unfold hasT
   rw [show t / 8=pgs m - 1 from by omega]
   exact Nat.testBit_lt_two_pow (Nat.lt_of_lt_of_le hlt (Nat.pow_le_pow_right (by decide) (by omega)))
  ·exact hasT_beyond s h
 ·intro h
  refine ⟨h.len,?_⟩
  apply Nat.div_eq_of_lt
  refine Nat.lt_pow_two_of_testBit _ fun i hi=>?_
  rcases Nat.lt_or_ge i 8 with h8 | h8
  ·have:=h.out (8 * (pgs m - 1) + i) (by omega)
   unfold hasT at this
   rwa [show (8 * (pgs m - 1) + i) / 8=pgs m - 1 from by omega,show (8 * (pgs m - 1) + i) % 8=i from by omega] at this
  ·exact bit_lt (pg_lt h.byte _) h8
theorem chk_zero {n:Int} {s:List Int} (hb:∀ z ∈ s,isByte z) (h:chk n s=0):∃ m:Nat,n=m∧1≤m∧m≤16∧IsSet m s:=by
 unfold chk at h
 split at h
 ·split at h
  ·rename_i h1 h2
   exact ⟨n.toNat,by omega,by omega,by omega,(may_isSet (by omega) hb).1 h2⟩
  ·omega
 ·omega
theorem chk_set {m:Nat} {s:List Int} (h1:1≤m) (h2:m≤16) (h:IsSet m s):chk (m:Int) s=0:=by
 unfold chk
 rw [if_pos (by omega),if_pos (by rw [Int.toNat_natCast];exact (may_isSet h1 h.byte).2 h)]
def trkE (n:Int) (s:List Int) (t:Int):Int:=if chk n s=0 then (if 0≤t∧t < n then 0 else 2) else chk n s
theorem trkE_zero {n:Int} {s:List Int} {t:Int} (hb:∀ z ∈ s,isByte z) (h:trkE n s t=0):∃ m k:Nat,n=m∧t=k∧1≤m∧m≤16∧k < m∧IsSet m s:=by
 unfold trkE at h
 split at h
 ·rename_i hc
  obtain ⟨m,rfl,h1,h2,h3⟩:=chk_zero hb hc
  split at h
  ·exact ⟨m,t.toNat,rfl,by omega,h1,h2,by omega,h3⟩
  ·omega
 ·contradiction
def manyE (n:Int):Int:=if 1≤n∧n≤16 then 0 else 2
def ofE (n:Int) (l:List Int):Int:=if (1≤n∧n≤16)∧∀ z ∈ l,0≤z∧z < n then 0 else 2
def ofB (n:Int) (l:List Int):List Int:=if ofE n l=0 then made n.toNat (fun t=>l.contains (t:Int)) else []
def allB (n:Int):List Int:=if manyE n=0 then made n.toNat (fun _=>true) else []
def hasV (n:Int) (s:List Int) (t:Int):Bool:=decide (trkE n s t=0) && hasT s t.toNat
end Go.Proofs.Ytdbeiikaeccbhaa
namespace Go.Proofs.Ytdbeiikaeccbhaa
section
variable {P:Program} {ops:Array Oper} {Q:Exit→Act→World→Prop} {md:Region.Mode} {S:World→Prop} {st:Nat}
def wpAnyG (P:Program) (md:Region.Mode) (ops:Array Oper) (Q:Exit→Act→World→Prop) (S:World→Prop) (st:Nat):Nat→Array Bool→Act→World→Prop
 | 0,listed,a,w=>Region.ready md ops listed=[]∧Q .normal a w
 | fuel + 1,listed,a,w =>
  (Region.ready md ops listed=[]→Q .normal a w) ∧
  ∀ i ∈ Region.ready md ops listed,wpOp P ops Q i (fun a' w'=>(i≠st→S w')∧wpAnyG P md ops Q S st fuel (listed.setIfInBounds i true) a' w') a w
theorem wpAny_of_to:∀ (fuel:Nat) (listed:Array Bool) (a:Act) (w:World),wpAnyG P md ops Q S st fuel listed a w→wpAny P md ops Q fuel listed a w
 | 0,_,_,_,h=>h
 | fuel + 1,_,_,_,h=>⟨h.1,fun i hi=>wpOp_mono (fun a' w' h'=>wpAny_of_to fuel _ a' w' h'.2) (h.2 i hi)⟩
def depB (md:Region.Mode) (ops:Array Oper) (i:Nat):Nat→Nat→Bool
 | 0,_=>false
 | f + 1,k=>match ops[k]? with
  | some o=>o.after.any fun e=>Region.binds md e && (e.on == i || depB md ops i f e.on)
  | none=>false
def closedB (md:Region.Mode) (ops:Array Oper) (listed:Array Bool):Bool :=
 (List.range ops.size).all fun k=>!listed.getD k false || match ops[k]? with
  | some o=>o.after.all fun e=>!Region.binds md e || listed.getD e.on false
  | none=>true
def Closed (md:Region.Mode) (ops:Array Oper) (listed:Array Bool):Prop :=
 ∀ k o,ops[k]?=some o→listed.getD k false=true→∀ e ∈ o.after,Region.binds md e=true→listed.getD e.on false=true
theorem closed_of {listed:Array Bool} (h:closedB md ops listed=true):Closed md ops listed:=fun k o hk hl e he hb=>by
 unfold closedB at h
 rw [List.all_eq_true] at h
 have hks:k < ops.size:=(Array.getElem?_eq_some_iff.1 hk).1
 have:=h k (List.mem_range.2 hks)
 rw [hk,hl] at this
 simp only [Bool.not_true,Bool.false_or,Array.all_eq_true',Bool.or_eq_true,Bool.not_eq_true'] at this
 rcases this e he with h1 | h1
 ·rw [hb] at h1;cases h1
 ·exact h1
theorem closed_set {listed:Array Bool} {j:Nat} (h:Closed md ops listed) (hj:j ∈ Region.ready md ops listed):Closed md ops (listed.setIfInBounds j true):=fun k o hk hl e he hb=>by
 by_cases hkj:j=k
 ·subst hkj
  obtain ⟨_,oj,hoj,hall⟩:=mem_ready.1 hj
  rw [hoj] at hk
  cases hk
  exact getD_set_true (hall e he hb)
 ·rw [getD_set_ne false hkj] at hl
  exact getD_set_true (h k o hk hl e he hb)
theorem dep_listed {listed:Array Bool} (h:Closed md ops listed) {i:Nat}:∀ (f k:Nat) (o:Oper),ops[k]?=some o→(∀ e ∈ o.after,Region.binds md e=true→listed.getD e.on false=true)→depB md ops i f k=true→listed.getD i false=true
 | 0,_,_,_,_,hd=>by cases hd
 | f + 1,k,o,hk,hall,hd=>by
  unfold depB at hd
  rw [hk] at hd
  simp only [Array.any_eq_true',Bool.and_eq_true,Bool.or_eq_true,beq_iff_eq] at hd
  obtain ⟨e,he,hb,hor⟩:=hd
  have hl:=hall e he hb
  rcases hor with rfl | hor
  ·exact hl
  ·cases hk':ops[e.on]? with
   | none =>
    exfalso
    cases f with
    | zero=>cases hor
    | succ f=>unfold depB at hor;rw [hk'] at hor;cases hor
   | some o'=>exact dep_listed h f e.on o' hk' (fun e' he' hb'=>h e.on o' hk' hl e' he' hb') hor
theorem wpAnyG_first {i:Nat} {oi:Oper} {v:Value} (hi:ops[i]?=some oi) (hsel:∀ (j:Nat) (o:Oper) cs b,ops[j]?=some o→o.op≠.select cs b) (f:Nat) (hwait:depB md ops i f st=true) (hist:i≠st)
  (hQ:∀ c a w,Q (.panic c) (a.put oi.dst v) w→Q (.panic c) a w) :
  ∀ (fuel:Nat) (listed:Array Bool) (a:Act) (w:World),Closed md ops listed →
   (∀ j oj,ops[j]?=some oj→j≠i→listed.getD j true=false→(∀ e ∈ oj.after,Region.binds md e=true→e.on≠i)→oi.apart ops oj=true) →
   i ∈ Region.ready md ops listed→YieldsIf P ops S oi v a→S w →
   wpAnyG P md ops Q S st fuel (listed.setIfInBounds i true) (a.put oi.dst v) w→wpAnyG P md ops Q S st (fuel + 1) listed a w:=by
 intro fuel
 induction fuel with
 | zero =>
  intro listed a w hcl _ hr hy hS H
  refine ⟨fun h=>(by rw [h] at hr;cases hr),fun j hj=>?_⟩
  by_cases hji:j=i
  ·subst hji;exact hy.wpOp hi hS ⟨fun _=>hS,H⟩
  ·have:=ready_mono hj hji
   rw [H.1] at this
   cases this
 | succ fuel ih =>
  intro listed a w hcl hfree hr hy hS H
  refine ⟨fun h=>(by rw [h] at hr;cases hr),fun j hj=>?_⟩
  by_cases hji:j=i
  ·subst hji;exact hy.wpOp hi hS ⟨fun _=>hS,H⟩
  ·have h1:=H.2 j (ready_mono hj hji)
   obtain ⟨hjun,oj,hoj,hall⟩:=mem_ready.1 hj
   have hnot:∀ e ∈ oj.after,Region.binds md e=true→e.on≠i:=fun e he hb heq=>by
    have h1:=hall e he hb
    have h0:=(mem_ready.1 hr).1
    rw [heq] at h1
    rcases Nat.lt_or_ge i listed.size with h' | h'
    ·simp [h'] at h0 h1;rw [h0] at h1;cases h1
    ·simp [Array.getElem?_eq_none h'] at h1
   have hjst:j≠st:=fun e=>by
    subst e
    have hli:=dep_listed hcl f j oj hoj hall hwait
    have h0:=(mem_ready.1 hr).1
    rcases Nat.lt_or_ge i listed.size with h' | h'
    ·simp [h'] at h0 hli;rw [h0] at hli;cases hli
    ·simp [Array.getElem?_eq_none h'] at hli
   have h2:=wpOp_putIf hoj (hfree j oj hoj hji hjun hnot) (fun cs b=>hsel i oi cs b hi) (fun cs b=>hsel j oj cs b hoj) hQ hy h1
   have hfree':∀ k ok,ops[k]?=some ok→k≠i→(listed.setIfInBounds j true).getD k true=false →
     (∀ e ∈ ok.after,Region.binds md e=true→e.on≠i)→oi.apart ops ok=true:=fun k ok hk hki hun hno=>by
    refine hfree k ok hk hki ?_ hno
    by_cases hjk:j=k
    ·subst hjk;exact hjun
    ·rw [getD_set_ne true hjk] at hun;exact hun
   refine wpOp_mono (fun a' w' h3=>⟨h3.2.1,ih (listed.setIfInBounds j true) a' w' (closed_set hcl hj) hfree' (ready_mono hr (Ne.symm hji)) h3.1 (h3.2.1 hjst) ?_⟩) h2
   rw [Array.setIfInBounds_comm _ _ hji]
   exact h3.2.2
theorem wpAnyG_take {i:Nat} {oi:Oper} {v:Value} {fuel:Nat} {listed:Array Bool} {a:Act} {w:World} (hi:ops[i]?=some oi)
  (hs:Region.noSelect ops=true) (hf:Region.free md ops listed i=true) (hr:(Region.ready md ops listed).contains i=true) (hw:depB md ops i ops.size st=true) (hcl:closedB md ops listed=true) (hist:(i != st)=true)
  (hQ:∀ c a w,Q (.panic c) (a.put oi.dst v) w→Q (.panic c) a w) (hy:YieldsIf P ops S oi v a) (hS:S w)
  (h:wpAnyG P md ops Q S st fuel (listed.setIfInBounds i true) (a.put oi.dst v) w):wpAnyG P md ops Q S st (fuel + 1) listed a w :=
 wpAnyG_first hi (Region.noSelect_spec hs) _ hw (bne_iff_ne.1 hist) hQ fuel listed a w (closed_of hcl) (Region.free_spec hi hf) (by simpa using hr) hy hS h
theorem wpAnyG_done {listed:Array Bool} {a:Act} {w:World} (hr:Region.ready md ops listed=[]) (h:Q .normal a w):∀ fuel,wpAnyG P md ops Q S st fuel listed a w
 | 0=>⟨hr,h⟩
 | _ + 1=>⟨fun _=>h,by rw [hr];simp⟩
theorem wpAnyG_one {i:Nat} {o:Oper} {fuel:Nat} {listed:Array Bool} {a:Act} {w:World} (hr:Region.ready md ops listed=[i]) (ho:ops[i]?=some o)
  (h:∀ K':Act→World→Prop,Shut (∀ a w,(i≠st→S w)→((i≠st→S w)→wpAnyG P md ops Q S st fuel (listed.setIfInBounds i true) a w)→K' a w)→if Region.wanted o (yielded ops a.tmps)=true then Oper.wp P o a w K' Q else K' (a.put o.dst undef) w) :
  wpAnyG P md ops Q S st (fuel + 1) listed a w:=by
 refine ⟨fun h0=>(by rw [hr] at h0;cases h0),fun j hj=>?_⟩
 rw [hr,List.mem_singleton] at hj
 subst hj
 exact wpOp_step ho (fun K' hK=>h K' (fun a w hS hW=>hK a w ⟨hS,hW hS⟩))
theorem wp_region_to {id:Nat} {a:Act} {w:World} (st:Nat) (S:World→Prop) (hm:P.follows .mixedOrders=true) (h:wpAnyG P .any ops Q S st ops.size (Array.replicate ops.size false) a w.drew):(Code.region id ops true).wp P Q a w :=
 wp_region_any hm (wpAny_of_to _ _ _ _ h)
end
end Go.Proofs.Ytdbeiikaeccbhaa
namespace Go.Proofs.Ytdbeiikaeccbhaa
section
variable {P:Program} {ops:Array Oper} {Q:Exit→Act→World→Prop} {md:Region.Mode} {S:World→Prop} {st:Nat}
theorem wpAnyG_two {i j:Nat} {oi oj:Oper} {fuel:Nat} {listed:Array Bool} {a:Act} {w:World} (hr:Region.ready md ops listed=[i,j]) (hi:ops[i]?=some oi) (hj:ops[j]?=some oj)
  (h1:∀ K':Act→World→Prop,Shut (∀ a w,(i≠st→S w)→((i≠st→S w)→wpAnyG P md ops Q S st fuel (listed.setIfInBounds i true) a w)→K' a w)→if Region.wanted oi (yielded ops a.tmps)=true then Oper.wp P oi a w K' Q else K' (a.put oi.dst undef) w)
  (h2:∀ K':Act→World→Prop,Shut (∀ a w,(j≠st→S w)→((j≠st→S w)→wpAnyG P md ops Q S st fuel (listed.setIfInBounds j true) a w)→K' a w)→if Region.wanted oj (yielded ops a.tmps)=true then Oper.wp P oj a w K' Q else K' (a.put oj.dst undef) w) :
  wpAnyG P md ops Q S st (fuel + 1) listed a w:=by
 refine ⟨fun h0=>(by rw [hr] at h0;cases h0),fun k hk=>?_⟩
 rw [hr] at hk
 rcases List.mem_cons.1 hk with rfl | hk
 ·exact wpOp_step hi (fun K' hK=>h1 K' (fun a w hS hW=>hK a w ⟨hS,hW hS⟩))
 ·rw [List.mem_singleton] at hk
  subst hk
  exact wpOp_step hj (fun K' hK=>h2 K' (fun a w hS hW=>hK a w ⟨hS,hW hS⟩))
end
end Go.Proofs.Ytdbeiikaeccbhaa
namespace Go.Proofs.Ytdbeiikaeccbhaa
section
variable {P:Program} {ops:Array Oper} {Q:Exit→Act→World→Prop} {md:Region.Mode} {S:World→Prop} {st:Nat}
theorem wpAnyG_take1 {i:Nat} {oi:Oper} {v:Value} {fuel:Nat} {listed:Array Bool} {a:Act} {w:World} (hi:ops[i]?=some oi)
  (hs:Region.noSelect ops=true) (hf:Region.free md ops listed i=true) (hr:(Region.ready md ops listed).contains i=true) (hw:depB md ops i 1 st=true) (hcl:closedB md ops listed=true) (hist:(i != st)=true)
  (hQ:∀ c a w,Q (.panic c) (a.put oi.dst v) w→Q (.panic c) a w) (hy:YieldsIf P ops S oi v a) (hS:S w)
  (h:wpAnyG P md ops Q S st fuel (listed.setIfInBounds i true) (a.put oi.dst v) w):wpAnyG P md ops Q S st (fuel + 1) listed a w :=
 wpAnyG_first hi (Region.noSelect_spec hs) 1 hw (bne_iff_ne.1 hist) hQ fuel listed a w (closed_of hcl) (Region.free_spec hi hf) (by simpa using hr) hy hS h
end
end Go.Proofs.Ytdbeiikaeccbhaa
