/- Texts of layers 1 to 12, joined. -/
import Derived.Test.YtifgcfepbenpjaaGreatNb20
import Derived.BigQuiet
set_option maxRecDepth 100000
set_option maxHeartbeats 12800000
set_option linter.unusedVariables false
namespace Go.Proofs.YtifgcfepbenpjaaGreat
def sz5:List Int:=[8,1,1,1,1]
def jrow (g n m:Int):Txt:=rowTo [g,1,n,m,0] sz5 5
def jT (g n:Int) (b:Txt):Txt:=jrow g n b.length ++ b ++ List.replicate (20 - b.length) 0
def isG (g:Int):Prop:=0≤g∧g < 18446744073709551616
def jtE (n:Int) (b:Txt):Int:=if 1≤b.length∧b.length≤20 then (if 0≤n∧n≤255 then 0 else 2) else 4
def jtB (g n:Int) (b:Txt):Txt:=if jtE n b=0 then jT g n b else []
def noteT (g n:Int) (t:Txt):Txt:=if (1≤t.getD 10 0∧t.getD 10 0≤20)∧jT g n ((t.drop 12).take (t.getD 10 0).toNat)=t then (t.drop 12).take (t.getD 10 0).toNat else []
def noteO (g n:Int):Option Txt→Txt
 | none=>[]
 | some t=>noteT g n t
def jM (f:Nat→Txt):Nat→Nat
 | 0=>0
 | k + 1=>if jM f k=k∧f k≠[] then k + 1 else jM f k
def jN (f:Nat→Txt) (k:Nat):List Txt:=(List.range (jM f k)).map f
def jf (S:List Sec) (C:List Pnd) (A a g:Int) (n:Nat):Txt:=noteO g n (optAt S C (2 + a * A + (n:Int)))
def arJ (a:Int):Prop:=0≤a∧a≤1
instance (a:Int):Decidable (arJ a):=by unfold arJ;infer_instance
def jaE (P T A M W Q:Int) (S:List Sec) (C:List Pnd) (a:Int):Int:=if mayT P T A M W Q S C then (if arJ a then 0 else 2) else 8
def jsL (P T A M W Q:Int) (S:List Sec) (C:List Pnd) (a g:Int):List Txt:=if jaE P T A M W Q S C a=0 then jN (jf S C A a g) A.toNat else []
def jpE (P T A M W Q:Int) (S:List Sec) (C:List Pnd) (a n:Int) (b:Txt):Int :=
 if jaE P T A M W Q S C a=0 then (if 0≤n then (if n < A then jtE n b else 9) else 2) else jaE P T A M W Q S C a
def jpN (P T A M W Q:Int) (S:List Sec) (C:List Pnd) (a n:Int) (b:Txt):Int:=if jpE P T A M W Q S C a n b=0 then 2 + a * A + n else 0
def jpB (P T A M W Q:Int) (S:List Sec) (C:List Pnd) (a g n:Int) (b:Txt):Txt:=if jpE P T A M W Q S C a n b=0 then jT g n b else []
theorem okB_sz5:okB sz5=true:=by decide
theorem at_sz5:atTo sz5 5=12:=by decide
theorem jrow_eq (g n m:Int):jrow g n m=digs 8 g ++ [1,n % 256,m % 256,0]:=by
 have h:jrow g n m=(((([] ++ digs 8 g) ++ digs 1 1) ++ digs 1 n) ++ digs 1 m) ++ digs 1 0:=rfl
 rw [h]
 simp [digs]
theorem jrow_length (g n m:Int):(jrow g n m).length=12:=by rw [jrow_eq];simp [digs_length]
theorem jrow_byte (g n m:Int):∀ z ∈ jrow g n m,isByte z:=rowTo_byte _ _ _
theorem jT_length (g n:Int) {b:Txt} (h:b.length≤20):(jT g n b).length=32:=by
 unfold jT
 rw [List.length_append,List.length_append,jrow_length,List.length_replicate]
 omega
theorem jT_byte (g n:Int) {b:Txt} (h:∀ z ∈ b,isByte z):∀ z ∈ jT g n b,isByte z:=fun z hz=>by
 unfold jT at hz
 rcases List.mem_append.1 hz with hz | hz
 ·rcases List.mem_append.1 hz with hz | hz
  ·exact jrow_byte _ _ _ z hz
  ·exact h z hz
 ·rw [(List.mem_replicate.1 hz).2];exact ⟨by decide,by decide⟩
theorem fits5 {g n m:Int} (hg:isG g) (hn:0≤n∧n < 256) (hm:0≤m∧m < 256):fitsTo [g,1,n,m,0] sz5 5=true:=by
 have h1:g / 256 ^ 8=0:=Int.ediv_eq_zero_of_lt hg.1 (by rw [show (256:Int) ^ 8=18446744073709551616 by decide];exact hg.2)
 have h2:n / 256 ^ 1=0:=Int.ediv_eq_zero_of_lt hn.1 (by omega)
 have h3:m / 256 ^ 1=0:=Int.ediv_eq_zero_of_lt hm.1 (by omega)
 show (((((true && decide (g / 256 ^ 8=0)) && decide ((1:Int) / 256 ^ 1=0)) && decide (n / 256 ^ 1=0)) && decide (m / 256 ^ 1=0)) && decide ((0:Int) / 256 ^ 1=0))=true
 rw [h1,h2,h3]
 decide
theorem jT_tells {g n:Int} {b:Txt} (hg:isG g) (hn:0≤n∧n≤255) (hb:b.length≤20) :
  val ((jT g n b).take 8)=g∧(jT g n b).getD 9 0=n∧(jT g n b).getD 10 0=(b.length:Int)∧((jT g n b).drop 12).take b.length=b:=by
 have e8:(digs 8 g).length=8:=digs_length _ _
 have v8:val (digs 8 g)=g:=val_digs _ _ hg.1 (Int.ediv_eq_zero_of_lt hg.1 (by rw [show (256:Int) ^ 8=18446744073709551616 by decide];exact hg.2))
 have hT:jT g n b=digs 8 g ++ ([1,n % 256,(b.length:Int) % 256,0] ++ (b ++ List.replicate (20 - b.length) 0)):=by
  unfold jT
  rw [jrow_eq]
  simp only [List.append_assoc]
 refine ⟨?_,?_,?_,?_⟩
 ·rw [hT,List.take_append_of_le_length (by omega),List.take_of_length_le (by omega),v8]
 ·rw [hT,gtD,List.getElem?_append_right (by omega),e8]
  simp
  omega
 ·rw [hT,gtD,List.getElem?_append_right (by omega),e8]
  simp
  omega
 ·unfold jT
  rw [List.append_assoc,List.drop_append,jrow_length,List.drop_of_length_le (by rw [jrow_length];exact Nat.le_refl _)]
  simp
theorem jT_inj {g n g' n':Int} {b b':Txt} (hg:isG g) (hn:0≤n∧n≤255) (hb:b.length≤20) (hg':isG g') (hn':0≤n'∧n'≤255) (hb':b'.length≤20) (h:jT g n b=jT g' n' b'):g=g'∧n=n'∧b=b':=by
 obtain ⟨a1,a2,a3,a4⟩:=jT_tells hg hn hb
 obtain ⟨c1,c2,c3,c4⟩:=jT_tells hg' hn' hb'
 rw [h] at a1 a2 a3 a4
 have e:b.length=b'.length:=by have:=a3.symm.trans c3;omega
 rw [e] at a4
 exact ⟨a1.symm.trans c1,a2.symm.trans c2,a4.symm.trans c4⟩
theorem noteT_few (g n:Int) (t:Txt):(noteT g n t).length≤20:=by
 unfold noteT
 split
 ·rename_i h
  rw [List.length_take]
  have:=Nat.min_le_left (t.getD 10 0).toNat (t.drop 12).length
  omega
 ·exact Nat.zero_le _
theorem noteT_new {g n:Int} {b:Txt} (hg:isG g) (hn:0≤n∧n≤255) (h1:1≤b.length) (hb:b.length≤20):noteT g n (jT g n b)=b:=by
 obtain ⟨a1,a2,a3,a4⟩:=jT_tells hg hn hb
 unfold noteT
 rw [a3,Int.toNat_natCast,a4,if_pos ⟨⟨by omega,by omega⟩,rfl⟩]
theorem noteT_other {g g' n:Int} {b:Txt} (hg:isG g) (hg':isG g') (hn:0≤n∧n≤255) (hb:b.length≤20) (hne:g'≠g):noteT g' n (jT g n b)=[]:=by
 unfold noteT
 rw [if_neg]
 rintro ⟨⟨h1,h2⟩,h3⟩
 refine hne (jT_inj hg' hn ?_ hg hn hb h3).1
 rw [List.length_take]
 have:=Nat.min_le_left ((jT g n b).getD 10 0).toNat ((jT g n b).drop 12).length
 omega
theorem jM_le (f:Nat→Txt) (k:Nat):jM f k≤k:=by
 induction k with
 | zero=>exact Nat.le_refl _
 | succ k ih=>unfold jM;split <;> omega
theorem jM_have (f:Nat→Txt) (k:Nat):∀ j,j < jM f k→f j≠[]:=by
 induction k with
 | zero=>intro j h;exact absurd h (Nat.not_lt_zero _)
 | succ k ih =>
  intro j h
  unfold jM at h
  split at h
  ·rename_i h1
   rcases Nat.lt_or_ge j k with h2 | h2
   ·exact ih j (by omega)
   ·obtain rfl:j=k:=by omega
    exact h1.2
  ·exact ih j h
theorem jM_end (f:Nat→Txt) (k:Nat):jM f k=k∨f (jM f k)=[]:=by
 induction k with
 | zero=>exact .inl rfl
 | succ k ih =>
  by_cases h:jM f k=k∧f k≠[]
  ·left;unfold jM;rw [if_pos h]
  ·have e:jM f (k + 1)=jM f k:=by rw [jM,if_neg h]
   rw [e]
   right
   rcases ih with h1 | h1
   ·rw [h1]
    exact Classical.byContradiction fun h2=>h ⟨h1,h2⟩
   ·exact h1
theorem jM_is {f:Nat→Txt} {k m:Nat} (h1:m≤k) (h2:∀ j,j < m→f j≠[]) (h3:m=k∨f m=[]):jM f k=m:=by
 have a1:=jM_le f k
 have a2:=jM_have f k
 have a3:=jM_end f k
 rcases Nat.lt_trichotomy (jM f k) m with h | h | h
 ·rcases a3 with a | a
  ·omega
  ·exact absurd a (h2 _ h)
 ·exact h
 ·rcases h3 with b | b
  ·omega
  ·exact absurd b (a2 _ h)
theorem jN_length (f:Nat→Txt) (k:Nat):(jN f k).length=jM f k:=by unfold jN;rw [List.length_map,List.length_range]
theorem jN_get (f:Nat→Txt) (k:Nat) {j:Nat} (h:j < jM f k):(jN f k)[j]?=some (f j):=by
 unfold jN
 rw [List.getElem?_map,List.getElem?_range h]
 rfl
theorem jN_one {f f':Nat→Txt} {k n:Nat} (hn:n < k) (hm:jM f k=n) (hj:∀ j,j≠n→f' j=f j) :
  (f' n=[]→jN f' k=jN f k)∧(f' n≠[]→n < (jN f' k).length∧(jN f' k).take n=jN f k∧(jN f' k)[n]?=some (f' n)):=by
 have h2:=jM_have f k
 rw [hm] at h2
 have hpre:∀ j,j < n→f' j≠[]:=fun j h=>by rw [hj j (by omega)];exact h2 j h
 have hmap:(List.range n).map f'=(List.range n).map f:=List.map_congr_left fun j h=>hj j (by have:=List.mem_range.1 h;omega)
 refine ⟨fun h=>?_,fun h=>?_⟩
 ·have e:=jM_is (Nat.le_of_lt hn) hpre (.inr h)
  unfold jN
  rw [e,hm]
  exact hmap
 ·have hlt:n < jM f' k:=by
   rcases Nat.lt_or_ge n (jM f' k) with h3 | h3
   ·exact h3
   ·rcases jM_end f' k with h4 | h4
    ·omega
    ·rcases Nat.lt_or_ge (jM f' k) n with h5 | h5
     ·exact absurd h4 (hpre _ h5)
     ·have e:jM f' k=n:=by omega
      rw [e] at h4
      exact absurd h4 h
  refine ⟨by rw [jN_length];exact hlt,?_,jN_get f' k hlt⟩
  unfold jN
  rw [← List.map_take,List.take_range,Nat.min_eq_left (Nat.le_of_lt hlt),hm]
  exact hmap
theorem jN_cut {f f':Nat→Txt} {k n:Nat} (hn:n < k) (h0:f' n=[]) (hj:∀ j,j≠n→f' j=f j) :
  jN f' k=jN f k∨(n < (jN f k).length∧n≤(jN f' k).length∧(jN f k).take n=(jN f' k).take n):=by
 have h2:=jM_have f k
 have h3:=jM_end f k
 have h1:=jM_le f k
 have hpre:∀ j,j < jM f k→j < n→f' j≠[]:=fun j h h'=>by rw [hj j (by omega)];exact h2 j h
 rcases Nat.lt_or_ge n (jM f k) with h | h
 ·right
  have e:=jM_is (Nat.le_of_lt hn) (fun j h'=>hpre j (by omega) h') (.inr h0)
  refine ⟨by rw [jN_length];exact h,by rw [jN_length,e];exact Nat.le_refl _,?_⟩
  unfold jN
  rw [e,← List.map_take,← List.map_take,List.take_range,List.take_range,Nat.min_eq_left (Nat.le_of_lt h),Nat.min_eq_left (Nat.le_refl _)]
  exact List.map_congr_left fun j h=>(hj j (by have:=List.mem_range.1 h;omega)).symm
 ·left
  have e:jM f' k=jM f k:=jM_is h1 (fun j h'=>hpre j h' (by omega)) (by
   rcases h3 with h4 | h4
   ·omega
   ·right
    rcases Nat.lt_or_ge (jM f k) n with h5 | h5
    ·rw [hj _ (by omega)];exact h4
    ·rw [show jM f k=n by omega];exact h0)
  unfold jN
  rw [e]
  exact List.map_congr_left fun j h'=>hj j (by have:=List.mem_range.1 h';omega)
theorem jN_same {f f':Nat→Txt} {k:Nat} (hj:∀ j,j < k→f' j=f j):jN f' k=jN f k:=by
 have e:jM f' k=jM f k:=jM_is (jM_le f k) (fun j h=>by rw [hj j (by have:=jM_le f k;omega)];exact jM_have f k j h) (by
  rcases jM_end f k with h | h
  ·exact .inl h
  ·rcases Nat.lt_or_ge (jM f k) k with h1 | h1
   ·right;rw [hj _ h1];exact h
   ·left;have:=jM_le f k;omega)
 unfold jN
 rw [e]
 exact List.map_congr_left fun j h=>hj j (by have:=List.mem_range.1 h;have:=jM_le f k;omega)
theorem optAt_flush {S:List Sec} {C:List Pnd} (h:mayD S C=true) (a:Int):optAt (flS S C) [] a=optAt S C a:=by
 obtain ⟨r1,r2⟩:=rd_flush h a
 unfold optAt
 rw [r1,r2]
theorem one_write (x:Int) (t:Txt):writesP x [t] 1=[(x,t)]:=by
 unfold writesP someP
 simp
theorem may_one {S:List Sec} (h:mayD S []=true) {x:Int} {t:Txt} (h0:0≤x) (h1:x < (S.length:Int)) (ht:t.length=32):mayD S [(x,t)]=true:=by
 rw [mayD_iff] at h ⊢
 refine ⟨⟨h.1.1,h.1.2.1,by simp⟩,h.2.1,fun p hp=>?_⟩
 rw [List.mem_singleton] at hp
 subst hp
 exact ⟨h0,h1,ht⟩
theorem opt_out {S:List Sec} {C:List Pnd} {x:Int} (h:mayD S C=true) (hx:¬ (0≤x∧x < (S.length:Int))):optAt S C x=none:=by
 have e:askE S C x=2:=by
  unfold askE
  rw [if_pos h]
  exact if_pos (by omega)
 have e2:rdE S C x=2:=by
  unfold rdE
  rw [e]
  rfl
 unfold optAt
 rw [e2]
 rfl
theorem crash_one {S:List Sec} {x:Int} {t:Txt} (h:mayD S []=true) (h':mayD S [(x,t)]=true) (F:List Int) :
  (∀ y,y≠x→optAt (crS S [(x,t)] F) [] y=optAt S [] y)∧(optAt (crS S [(x,t)] F) [] x=optAt S [] x∨optAt (crS S [(x,t)] F) [] x=some t∨optAt (crS S [(x,t)] F) [] x=none):=by
 obtain ⟨hcm,hcl⟩:=cr_may h' F
 have key:∀ y,0≤y→y < (S.length:Int)→optAt (crS S [(x,t)] F) [] y=optAt S [] y∨(x≤y∧y < x + 1∧(optAt (crS S [(x,t)] F) [] y=some ([t].getD (y - x).toNat [])∨optAt (crS S [(x,t)] F) [] y=none)):=fun y h0 h1=>by
  have:=optAt_crash (C:=[]) (base:=x) (l:=[t]) (k:=1) h (by rw [one_write];exact h') F h0 h1 rfl
  rwa [one_write,List.nil_append] at this
 refine ⟨fun y hy=>?_,?_⟩
 ·by_cases hr:0≤y∧y < (S.length:Int)
  ·rcases key y hr.1 hr.2 with k | ⟨k1,k2,_⟩
   ·exact k
   ·omega
  ·rw [opt_out hcm (by rw [hcl];exact hr),opt_out h hr]
 ·by_cases hr:0≤x∧x < (S.length:Int)
  ·rcases key x hr.1 hr.2 with k | ⟨_,_,k⟩
   ·exact .inl k
   ·rw [show (x - x).toNat=0 by omega] at k
    exact .inr k
  ·rw [opt_out hcm (by rw [hcl];exact hr)]
   exact .inr (.inr rfl)
theorem flush_one {S:List Sec} {x:Int} {t:Txt} (h:mayD S []=true) (h':mayD S [(x,t)]=true) (y:Int) :
  optAt (flS S [(x,t)]) [] y=if y=x then (if 0≤x∧x < (S.length:Int) then some t else none) else optAt S [] y:=by
 rw [optAt_flush h']
 by_cases hr:0≤y∧y < (S.length:Int)
 ·have k:=optAt_writes (C:=[]) (base:=x) (l:=[t]) (m:=1) h (by rw [one_write];exact h') hr.1 hr.2
  rw [one_write,List.nil_append] at k
  rw [k]
  by_cases e:y=x
  ·subst e
   rw [if_pos ⟨by omega,by omega⟩,if_pos rfl,if_pos hr,show (y - y).toNat=0 by omega]
   rfl
  ·rw [if_neg (by omega),if_neg e]
 ·rw [opt_out h' hr]
  by_cases e:y=x
  ·subst e
   rw [if_pos rfl,if_neg hr]
  ·rw [if_neg e,opt_out h hr]
theorem at_area {P T A M W Q:Int} {S:List Sec} {C:List Pnd} (h:mayT P T A M W Q S C) {a:Int} (ha:arJ a) {n:Nat} (hn:(n:Int) < A):0≤2 + a * A + (n:Int)∧2 + a * A + (n:Int) < (S.length:Int):=by
 obtain ⟨h1,h2,h3⟩:=h
 obtain ⟨b1,b2,b3,b4,b5,b6,b7⟩:=bounds_may h1
 obtain ⟨c1,c2,c3,c4,c5,c6,c7⟩:=h1
 unfold fE at h3
 have e:a * A=0∨a * A=A:=by
  unfold arJ at ha
  rcases (show a=0∨a=1 by omega) with r | r
  ·rw [r];left;simp
  ·rw [r];right;simp
 rcases e with e | e <;> rw [e] <;> omega
def begL (l m:List Txt) (t:Txt):Prop:=m.length < l.length∧l.take m.length=m∧l[m.length]?=some t
theorem jrn_tells {P T A M W Q:Int} {S:List Sec} {a g:Int} {b:Txt} {n:Nat} (hm:mayT P T A M W Q S []) (ha:arJ a) (hg:isG g) (h1:1≤b.length) (h20:b.length≤20)
  (hn:n=(jN (jf S [] A a g) A.toNat).length) (hA:(n:Int) < A) (F:List Int) :
  mayD S [(2 + a * A + (n:Int),jT g n b)]=true ∧
  (jN (jf (crS S [(2 + a * A + (n:Int),jT g n b)] F) [] A a g) A.toNat=jN (jf S [] A a g) A.toNat∨begL (jN (jf (crS S [(2 + a * A + (n:Int),jT g n b)] F) [] A a g) A.toNat) (jN (jf S [] A a g) A.toNat) b) ∧
  begL (jN (jf (flS S [(2 + a * A + (n:Int),jT g n b)]) [] A a g) A.toNat) (jN (jf S [] A a g) A.toNat) b ∧
  (∀ g',isG g'→g'≠g→jN (jf (crS S [(2 + a * A + (n:Int),jT g n b)] F) [] A a g') A.toNat=jN (jf S [] A a g') A.toNat ∨
   (n < (jN (jf S [] A a g') A.toNat).length∧n≤(jN (jf (crS S [(2 + a * A + (n:Int),jT g n b)] F) [] A a g') A.toNat).length∧(jN (jf S [] A a g') A.toNat).take n=(jN (jf (crS S [(2 + a * A + (n:Int),jT g n b)] F) [] A a g') A.toNat).take n)) ∧
  (∀ g',jN (jf (crS S [(2 + a * A + (n:Int),jT g n b)] F) [] A (1 - a) g') A.toNat=jN (jf S [] A (1 - a) g') A.toNat):=by
 obtain ⟨r0,r1⟩:=at_area hm ha hA
 have hA32:A≤32:=hm.1.2.2.2.2.2.1
 have hn255:(0:Int)≤(n:Int)∧(n:Int)≤255:=by omega
 have ht:=jT_length g (n:Int) h20
 have hmay:=may_one hm.2.1 r0 r1 ht
 obtain ⟨cr1,cr2⟩:=crash_one hm.2.1 hmay F
 have fl:=flush_one hm.2.1 hmay
 rw [jN_length] at hn
 have hnk:n < A.toNat:=by omega
 have hnew:=noteT_new hg hn255 h1 h20
 have hne:b≠[]:=fun e=>by rw [e] at h1;exact absurd h1 (by decide)
 have hoff:∀ (g':Int) (j:Nat),j≠n→(2 + a * A + (j:Int))≠2 + a * A + (n:Int):=fun g' j h=>by omega
 have hone:=fun (f':Nat→Txt)=>jN_one (f:=jf S [] A a g) (f':=f') hnk hn.symm
 obtain ⟨t,hT⟩:∃ t,t=jT g (n:Int) b:=⟨_,rfl⟩
 obtain ⟨x,hX⟩:∃ x,x=2 + a * A + (n:Int):=⟨_,rfl⟩
 rw [← hT] at hmay cr1 cr2 fl hnew ⊢
 rw [← hX] at hmay cr1 cr2 fl ⊢
 have old0:jf S [] A a g n=[]:=by
  rcases jM_end (jf S [] A a g) A.toNat with h | h
  ·omega
  ·rw [hn];exact h
 refine ⟨hmay,?_,?_,fun g' hg' hgg=>?_,fun g'=>?_⟩
 ·obtain ⟨o1,o2⟩:=hone (jf (crS S [(x,t)] F) [] A a g) (fun j h=>by unfold jf;rw [cr1 _ (by rw [hX];exact hoff g j h)])
  have hv:jf (crS S [(x,t)] F) [] A a g n=[]∨jf (crS S [(x,t)] F) [] A a g n=b:=by
   unfold jf
   rw [← hX]
   rcases cr2 with k | k | k
   ·rw [k];left;have:=old0;unfold jf at this;rw [← hX] at this;exact this
   ·rw [k];right;exact hnew
   ·rw [k];left;rfl
  rcases hv with hv | hv
  ·exact .inl (o1 hv)
  ·obtain ⟨p1,p2,p3⟩:=o2 (by rw [hv];exact hne)
   right
   unfold begL
   rw [show (jN (jf S [] A a g) A.toNat).length=n by rw [jN_length];exact hn.symm]
   exact ⟨p1,p2,by rw [p3,hv]⟩
 ·have hv:jf (flS S [(x,t)]) [] A a g n=b:=by
   unfold jf
   rw [← hX,fl,if_pos rfl,if_pos ⟨by omega,by omega⟩]
   exact hnew
  obtain ⟨p1,p2,p3⟩:=(hone (jf (flS S [(x,t)]) [] A a g) (fun j h=>by unfold jf;rw [fl,if_neg (by rw [hX];exact hoff g j h)])).2 (by rw [hv];exact hne)
  unfold begL
  rw [show (jN (jf S [] A a g) A.toNat).length=n by rw [jN_length];exact hn.symm]
  exact ⟨p1,p2,by rw [p3,hv]⟩
 ·have hj:∀ j,j≠n→jf (crS S [(x,t)] F) [] A a g' j=jf S [] A a g' j:=fun j h=>by unfold jf;rw [cr1 _ (by rw [hX];exact hoff g' j h)]
  have hoth:noteT g' (n:Int) t=[]:=by rw [hT];exact noteT_other hg hg' hn255 h20 hgg
  have hv:jf (crS S [(x,t)] F) [] A a g' n=jf S [] A a g' n∨jf (crS S [(x,t)] F) [] A a g' n=[]:=by
   unfold jf
   rw [← hX]
   rcases cr2 with k | k | k
   ·rw [k];exact .inl rfl
   ·rw [k];exact .inr hoth
   ·rw [k];exact .inr rfl
  rcases hv with hv | hv
  ·left
   refine jN_same fun j _=>?_
   by_cases e:j=n
   ·rw [e];exact hv
   ·exact hj j e
  ·exact jN_cut hnk hv hj
 ·refine jN_same fun j hj=>?_
  unfold jf
  rw [cr1 _ ?_]
  have e2:(1 - a) * A=A - a * A:=by rw [Int.sub_mul,Int.one_mul]
  have e:a * A=0∨a * A=A:=by
   unfold arJ at ha
   rcases (show a=0∨a=1 by omega) with r | r
   ·rw [r];left;simp
   ·rw [r];right;simp
  rw [e2,hX]
  rcases e with e | e <;> rw [e] <;> omega
end Go.Proofs.YtifgcfepbenpjaaGreat
namespace Go.Proofs.YtifgcfepbenpjaaGreat
structure Rc where
 p:Int
 b:Int
 e:Int
 l:Int
 h:Int
 f:Int
 q:Bool
 a:Bool
theorem Rc.eq_iff (r s:Rc):r=s↔r.p=s.p∧r.b=s.b∧r.e=s.e∧r.l=s.l∧r.h=s.h∧r.f=s.f∧r.q=s.q∧r.a=s.a:=by
 cases r;cases s
 simp
instance:DecidableEq Rc:=fun r s=>decidable_of_iff _ (Rc.eq_iff r s).symm
def zR:Rc:=⟨0,0,0,0,0,0,false,false⟩
instance:Inhabited Rc:=⟨zR⟩
def isR (r:Rc):Prop:=(0≤r.b∧r.b < 4294967296)∧(0≤r.e∧r.e < 4294967296)∧(0≤r.h∧r.h < 256)
def mayR (r:Rc):Prop:=(0≤r.p∧r.p < 3∧1≤r.b∧1≤r.e∧0≤r.l∧r.l≤1∧0≤r.f∧r.f≤1)∧(1≤r.h∧r.h≤3)∧(r.h=1∨r.f=r.l)∧(r.q=false∨(r.h=1∧r.f≠r.l))
instance (r:Rc):Decidable (mayR r):=by unfold mayR;infer_instance
def rcE (r:Rc):Int:=if mayR r then 0 else 110
def flagR (r:Rc):Int:=(if r.q then 2 else 0) + (if r.a then 1 else 0)
def sz8R:List Int:=[1,1,4,4,1,1,1,1]
def numsR (r:Rc):List Int:=[1,r.p,r.b,r.e,r.l,r.h,r.f,flagR r]
def recT (r:Rc):Txt:=rowTo (numsR r) sz8R 8
def ntB (r:Rc):Txt:=if mayR r then recT r else []
def goneT (p:Int):Txt:=[2,p]
def goE (p:Int):Int:=if 0≤p∧p < 3 then 0 else 2
def goB (p:Int):Txt:=if goE p=0 then goneT p else []
def rawR (t:Txt):Rc:=⟨t.getD 1 0,val ((t.drop 2).take 4),val ((t.drop 6).take 4),t.getD 10 0,t.getD 11 0,t.getD 12 0,decide (2≤t.getD 13 0),decide (t.getD 13 0 % 2=1)⟩
def isN (t:Txt):Prop:=t.length=14∧t.getD 0 0=1∧t.getD 13 0≤3∧mayR (rawR t)
instance (t:Txt):Decidable (isN t):=by unfold isN;infer_instance
def isGo (t:Txt):Prop:=t.length=2∧t.getD 0 0=2∧t.getD 1 0 < 3
instance (t:Txt):Decidable (isGo t):=by unfold isGo;infer_instance
def mayTab:List Rc→Prop
 | []=>True
 | [r]=>mayR r
 | r :: s :: l=>mayR r∧r.p < s.p∧mayTab (s :: l)
instance decTab:(l:List Rc)→Decidable (mayTab l)
 | []=>isTrue trivial
 | [r]=>by unfold mayTab;infer_instance
 | r :: s :: l=>by
  unfold mayTab
  have:=decTab (s :: l)
  infer_instance
def outR (t:List Rc) (p:Int):List Rc:=t.filter fun r=>r.p != p
def atR (t:List Rc) (r:Rc) (p:Int):List Rc:=if p=r.p then [r] else (t.find? fun s=>s.p == p).toList
def withR (t:List Rc) (r:Rc):List Rc:=atR t r 0 ++ (atR t r 1 ++ atR t r 2)
def putN (t:List Rc) (b:Txt):Option (List Rc):=if isGo b then some (outR t (b.getD 1 0)) else if isN b then some (withR t (rawR b)) else none
def putR (t:List Rc) (b:Txt):Option (List Rc):=if mayTab t then putN t b else none
def tabTo (t:List Rc):List Txt→Option (List Rc)
 | []=>some t
 | b :: l=>(putR t b).bind fun x=>tabTo x l
def tabR (l:List Txt):Option (List Rc):=tabTo [] l
def ansL:Option (List Rc)→List Rc
 | none=>[]
 | some t=>t
def ansE:Option (List Rc)→Int
 | none=>110
 | some _=>0
def rnE (t:List Rc):Int:=if mayTab t then 0 else 110
def rnL (t:List Rc):List Txt:=if mayTab t then t.map recT else []
theorem okB_sz8R:okB sz8R=true:=by decide
theorem at_sz8R:atTo sz8R 8=14:=by decide
theorem recT_eq (r:Rc):recT r=[1,r.p % 256] ++ (digs 4 r.b ++ (digs 4 r.e ++ [r.l % 256,r.h % 256,r.f % 256,flagR r % 256])):=by
 have h:recT r=((((((([] ++ digs 1 1) ++ digs 1 r.p) ++ digs 4 r.b) ++ digs 4 r.e) ++ digs 1 r.l) ++ digs 1 r.h) ++ digs 1 r.f) ++ digs 1 (flagR r):=rfl
 rw [h]
 simp [digs]
theorem recT_length (r:Rc):(recT r).length=14:=by rw [recT_eq];simp [digs_length]
theorem recT_byte (r:Rc):∀ z ∈ recT r,isByte z:=rowTo_byte _ _ _
theorem flagR_le (r:Rc):0≤flagR r∧flagR r≤3:=by unfold flagR;split <;> split <;> omega
theorem val_of4 {v:Int} (h:0≤v∧v < 4294967296):val (digs 4 v)=v:=val_digs _ _ h.1 (Int.ediv_eq_zero_of_lt h.1 (by rw [show (256:Int) ^ 4=4294967296 by decide];exact h.2))
theorem fits8R {r:Rc} (hi:isR r) (hm:mayR r):fitsTo (numsR r) sz8R 8=true:=by
 obtain ⟨hb,he,hh⟩:=hi
 obtain ⟨⟨m1,m2,m3,m4,m5,m6,m7,m8⟩,_⟩:=hm
 have hfl:=flagR_le r
 have d1:r.p / 256 ^ 1=0:=Int.ediv_eq_zero_of_lt m1 (by omega)
 have d2:r.b / 256 ^ 4=0:=Int.ediv_eq_zero_of_lt hb.1 (by rw [show (256:Int) ^ 4=4294967296 by decide];exact hb.2)
 have d3:r.e / 256 ^ 4=0:=Int.ediv_eq_zero_of_lt he.1 (by rw [show (256:Int) ^ 4=4294967296 by decide];exact he.2)
 have d4:r.l / 256 ^ 1=0:=Int.ediv_eq_zero_of_lt m5 (by omega)
 have d5:r.h / 256 ^ 1=0:=Int.ediv_eq_zero_of_lt hh.1 (by omega)
 have d6:r.f / 256 ^ 1=0:=Int.ediv_eq_zero_of_lt m7 (by omega)
 have d7:flagR r / 256 ^ 1=0:=Int.ediv_eq_zero_of_lt hfl.1 (by omega)
 show ((((((((true && decide ((1:Int) / 256 ^ 1=0)) && decide (r.p / 256 ^ 1=0)) && decide (r.b / 256 ^ 4=0)) && decide (r.e / 256 ^ 4=0)) && decide (r.l / 256 ^ 1=0)) && decide (r.h / 256 ^ 1=0)) && decide (r.f / 256 ^ 1=0)) && decide (flagR r / 256 ^ 1=0))=true
 rw [d1,d2,d3,d4,d5,d6,d7]
 decide
theorem raw_recT {r:Rc} (hi:isR r) (hm:mayR r):rawR (recT r)=r∧isN (recT r):=by
 obtain ⟨hb,he,hh⟩:=hi
 have hm':=hm
 obtain ⟨⟨m1,m2,m3,m4,m5,m6,m7,m8⟩,_⟩:=hm
 have hfl:=flagR_le r
 have l4:∀ v:Int,(digs 4 v).length=4:=fun v=>digs_length _ _
 have hT:=recT_eq r
 obtain ⟨x,hx⟩:∃ x,x=digs 4 r.b:=⟨_,rfl⟩
 obtain ⟨y,hy⟩:∃ y,y=digs 4 r.e:=⟨_,rfl⟩
 have lx:x.length=4:=by rw [hx];exact l4 _
 have ly:y.length=4:=by rw [hy];exact l4 _
 have vx:val x=r.b:=by rw [hx];exact val_of4 hb
 have vy:val y=r.e:=by rw [hy];exact val_of4 he
 rw [← hx,← hy] at hT
 match x,lx with
 | [x0,x1,x2,x3],_ =>
  match y,ly with
  | [y0,y1,y2,y3],_ =>
   have hr:rawR (recT r)=r:=by
    rw [hT]
    rw [Rc.eq_iff]
    refine ⟨?_,vx,vy,?_,?_,?_,?_,?_⟩
    ·show r.p % 256=r.p;omega
    ·show r.l % 256=r.l;omega
    ·show r.h % 256=r.h;omega
    ·show r.f % 256=r.f;omega
    ·show decide (2≤flagR r % 256)=r.q
     unfold flagR
     cases r.q <;> cases r.a <;> decide
    ·show decide (flagR r % 256 % 2=1)=r.a
     unfold flagR
     cases r.q <;> cases r.a <;> decide
   refine ⟨hr,recT_length r,?_,?_,by rw [hr];exact hm'⟩
   ·rw [hT];rfl
   ·rw [hT]
    show flagR r % 256≤3
    omega
theorem not_go {b:Txt} (h:isN b):¬ isGo b:=fun k=>by have:=h.1;have:=k.1;omega
theorem raw_is {t:Txt} (ht:t.length=14) (hb:∀ z ∈ t,isByte z):isR (rawR t):=by
 have h1:=val_bounds ((t.drop 2).take 4) fun z hz=>hb z (List.mem_of_mem_drop (List.mem_of_mem_take hz))
 have h2:=val_bounds ((t.drop 6).take 4) fun z hz=>hb z (List.mem_of_mem_drop (List.mem_of_mem_take hz))
 rw [List.length_take,List.length_drop,ht] at h1 h2
 have p1:(256:Int) ^ (min 4 (14 - 2))=4294967296:=by decide
 have p2:(256:Int) ^ (min 4 (14 - 6))=4294967296:=by decide
 rw [p1] at h1
 rw [p2] at h2
 have h3:isByte (t.getD 11 0):=by
  rw [gtD,geE (show 11 < t.length by omega)]
  exact hb _ (List.getElem_mem _)
 exact ⟨h1,h2,h3⟩
abbrev fR (t:List Rc) (p:Int):Option Rc:=t.find? fun s=>s.p == p
theorem mayTab_iff (t:List Rc):mayTab t↔(∀ r ∈ t,mayR r)∧t.Pairwise fun r s=>r.p < s.p:=by
 induction t with
 | nil=>simp [mayTab]
 | cons r t ih =>
  cases t with
  | nil=>simp [mayTab]
  | cons s l =>
   show (mayR r∧r.p < s.p∧mayTab (s :: l))↔_
   rw [ih,List.pairwise_cons (a:=r)]
   constructor
   ·rintro ⟨h1,h2,h3,h4⟩
    refine ⟨fun x hx=>?_,fun x hx=>?_,h4⟩
    ·rcases List.mem_cons.1 hx with rfl | hx
     ·exact h1
     ·exact h3 x hx
    ·rcases List.mem_cons.1 hx with rfl | hx
     ·exact h2
     ·have:=(List.pairwise_cons.1 h4).1 x hx
      omega
   ·rintro ⟨h1,h2,h3⟩
    exact ⟨h1 r (List.mem_cons_self ..),h2 s (List.mem_cons_self ..),fun x hx=>h1 x (List.mem_cons_of_mem _ hx),h3⟩
theorem fR_some {t:List Rc} {p:Int} {r:Rc} (h:fR t p=some r):r ∈ t∧r.p=p:=⟨List.mem_of_find?_eq_some h,by simpa using List.find?_some h⟩
theorem tab_ext {t s:List Rc} (ht:t.Pairwise fun r s=>r.p < s.p) (hs:s.Pairwise fun r s=>r.p < s.p) (h:∀ p,fR t p=fR s p):t=s:=by
 induction t generalizing s with
 | nil =>
  cases s with
  | nil=>rfl
  | cons u s =>
   have:=h u.p
   simp at this
 | cons r t ih =>
  cases s with
  | nil =>
   have:=h r.p
   simp at this
  | cons u s =>
   obtain ⟨t1,t2⟩:=List.pairwise_cons.1 ht
   obtain ⟨s1,s2⟩:=List.pairwise_cons.1 hs
   have e1:fR (r :: t) r.p=some r:=by simp
   have e2:fR (u :: s) u.p=some u:=by simp
   have hp:r.p=u.p:=by
    rw [h] at e1
    rw [← h] at e2
    rcases List.mem_cons.1 (fR_some e1).1 with k | k
    ·rw [k]
    ·rcases List.mem_cons.1 (fR_some e2).1 with k' | k'
     ·rw [k']
     ·have a:=s1 _ k
      have b:=t1 _ k'
      omega
   have hru:r=u:=by
    have:=h r.p
    rw [e1,hp,e2] at this
    injection this
   subst hru
   congr 1
   refine ih t2 s2 fun p=>?_
   by_cases hpp:p=r.p
   ·have n1:fR t p=none:=List.find?_eq_none.2 fun x hx=>by have:=t1 x hx;simp;omega
    have n2:fR s p=none:=List.find?_eq_none.2 fun x hx=>by have:=s1 x hx;simp;omega
    rw [n1,n2]
   ·have:=h p
    simpa [Ne.symm hpp] using this
def ofF (g:Int→Option Rc):List Rc:=(g 0).toList ++ ((g 1).toList ++ (g 2).toList)
def good (g:Int→Option Rc):Prop:=∀ p r,g p=some r→r.p=p∧mayR r
theorem ofF_may {g:Int→Option Rc} (hg:good g):mayTab (ofF g):=by
 have h0:=hg 0
 have h1:=hg 1
 have h2:=hg 2
 unfold ofF
 cases e0:g 0 <;> cases e1:g 1 <;> cases e2:g 2 <;> simp [e0,e1,e2] at h0 h1 h2 <;> simp [mayTab,h0,h1,h2]
theorem ofF_find {g:Int→Option Rc} (hg:good g) (p:Int):fR (ofF g) p=g p:=by
 have h0:=hg 0
 have h1:=hg 1
 have h2:=hg 2
 by_cases k:p=0∨p=1∨p=2
 ·unfold ofF fR
  rcases k with rfl | rfl | rfl <;> cases e0:g 0 <;> cases e1:g 1 <;> cases e2:g 2 <;> simp [e0,e1,e2] at h0 h1 h2 <;> simp [h0,h1,h2]
 ·have hn:g p=none:=by
   cases e:g p with
   | none=>rfl
   | some r =>
    obtain ⟨a,b⟩:=hg p r e
    obtain ⟨⟨b1,b2,_⟩,_⟩:=b
    omega
  rw [hn]
  refine List.find?_eq_none.2 fun x hx=>?_
  have hx':x.p=0∨x.p=1∨x.p=2:=by
   unfold ofF at hx
   rcases List.mem_append.1 hx with hx | hx
   ·exact .inl (h0 x (by simpa using hx)).1
   ·rcases List.mem_append.1 hx with hx | hx
    ·exact .inr (.inl (h1 x (by simpa using hx)).1)
    ·exact .inr (.inr (h2 x (by simpa using hx)).1)
  simp
  omega
theorem find_good {t:List Rc} (ht:mayTab t):good (fR t):=fun p r h=>⟨(fR_some h).2,((mayTab_iff t).1 ht).1 r (fR_some h).1⟩
theorem with_is (t:List Rc) (r:Rc):withR t r=ofF fun p=>if p=r.p then some r else fR t p:=by
 have h:∀ p,atR t r p=(if p=r.p then some r else fR t p).toList:=fun p=>by unfold atR;split <;> rfl
 unfold withR ofF
 rw [h,h,h]
theorem with_good {t:List Rc} (ht:mayTab t) {r:Rc} (hr:mayR r):good fun p=>if p=r.p then some r else fR t p:=fun p s h=>by
 dsimp only at h
 split at h
 ·injection h with h
  subst h
  exact ⟨by omega,hr⟩
 ·exact find_good ht p s h
theorem with_may {t:List Rc} (ht:mayTab t) {r:Rc} (hr:mayR r):mayTab (withR t r):=by rw [with_is];exact ofF_may (with_good ht hr)
theorem with_find {t:List Rc} (ht:mayTab t) {r:Rc} (hr:mayR r) (p:Int):fR (withR t r) p=if p=r.p then some r else fR t p:=by rw [with_is];exact ofF_find (with_good ht hr) p
theorem out_may {t:List Rc} (ht:mayTab t) (p:Int):mayTab (outR t p):=by
 rw [mayTab_iff] at ht ⊢
 exact ⟨fun r hr=>ht.1 r ((List.mem_filter.1 hr).1),ht.2.filter _⟩
theorem out_find (t:List Rc) (p k:Int):fR (outR t p) k=if k=p then none else fR t k:=by
 unfold outR fR
 rw [List.find?_filter]
 split
 ·rename_i h
  subst h
  refine List.find?_eq_none.2 fun x _=>?_
  simp
 ·rename_i h
  congr 1
  funext x
  by_cases hx:x.p=k
  ·simp [hx,h]
  ·simp [hx]
theorem with_snoc {t:List Rc} {r:Rc} (h:mayTab (t ++ [r])):withR t r=t ++ [r]:=by
 have h':=(mayTab_iff _).1 h
 obtain ⟨h1,h2⟩:=h'
 obtain ⟨p1,p2,p3⟩:=List.pairwise_append.1 h2
 have ht:mayTab t:=(mayTab_iff _).2 ⟨fun x hx=>h1 x (List.mem_append_left _ hx),p1⟩
 have hr:mayR r:=h1 r (List.mem_append_right _ (List.mem_singleton.2 rfl))
 refine tab_ext ((mayTab_iff _).1 (with_may ht hr)).2 h2 fun p=>?_
 rw [with_find ht hr]
 unfold fR
 rw [List.find?_append]
 split
 ·rename_i e
  subst e
  have n1:t.find? (fun s=>s.p == r.p)=none:=List.find?_eq_none.2 fun x hx=>by
   have:=p3 x hx r (List.mem_singleton.2 rfl)
   simp
   omega
  rw [n1]
  simp
 ·rename_i e
  have n2:[r].find? (fun s=>s.p == p)=none:=by simp [Ne.symm e]
  rw [n2,Option.or_none]
theorem put_may {t x:List Rc} {b:Txt} (h:putR t b=some x):mayTab t∧mayTab x:=by
 unfold putR at h
 split at h
 ·rename_i ht
  refine ⟨ht,?_⟩
  unfold putN at h
  split at h
  ·injection h with h
   subst h
   exact out_may ht _
  ·split at h
   ·rename_i hn
    injection h with h
    subst h
    exact with_may ht hn.2.2.2
   ·cases h
 ·cases h
theorem tabTo_app (t:List Rc) (l m:List Txt):tabTo t (l ++ m)=(tabTo t l).bind fun x=>tabTo x m:=by
 induction l generalizing t with
 | nil=>rfl
 | cons b l ih =>
  show (putR t b).bind _=((putR t b).bind _).bind _
  cases putR t b with
  | none=>rfl
  | some x=>exact ih x
def allR (t:List Rc):Prop:=∀ r ∈ t,isR r
theorem put_all {t x:List Rc} {b:Txt} (h:putR t b=some x) (ha:allR t) (hb:∀ z ∈ b,isByte z):allR x:=by
 unfold putR at h
 split at h
 ·unfold putN at h
  split at h
  ·injection h with h
   subst h
   exact fun r hr=>ha r ((List.mem_filter.1 hr).1)
  ·split at h
   ·rename_i hn
    injection h with h
    subst h
    intro s hs
    rw [with_is] at hs
    have hs':∃ p,(if p=(rawR b).p then some (rawR b) else fR t p)=some s:=by
     unfold ofF at hs
     rcases List.mem_append.1 hs with hs | hs
     ·exact ⟨0,by simpa using hs⟩
     ·rcases List.mem_append.1 hs with hs | hs
      ·exact ⟨1,by simpa using hs⟩
      ·exact ⟨2,by simpa using hs⟩
    obtain ⟨p,hp⟩:=hs'
    split at hp
    ·injection hp with hp
     subst hp
     exact raw_is hn.1 hb
    ·exact ha s (fR_some hp).1
   ·cases h
 ·cases h
theorem tabTo_may {t x:List Rc} {l:List Txt} (ht:mayTab t) (h:tabTo t l=some x):mayTab x:=by
 induction l generalizing t with
 | nil=>injection h with h;subst h;exact ht
 | cons b l ih =>
  have h':(putR t b).bind (fun x=>tabTo x l)=some x:=h
  cases hp:putR t b with
  | none=>rw [hp] at h';cases h'
  | some y =>
   rw [hp] at h'
   exact ih (put_may hp).2 h'
theorem put_rec {t:List Rc} (ht:mayTab t) {r:Rc} (hi:isR r) (hm:mayR r):putR t (recT r)=some (withR t r):=by
 obtain ⟨h1,h2⟩:=raw_recT hi hm
 unfold putR putN
 rw [if_pos ht,if_neg (not_go h2),if_pos h2,h1]
theorem tab_notes (s:List Rc):∀ t:List Rc,mayTab (t ++ s)→allR s→tabTo t (s.map recT)=some (t ++ s):=by
 induction s with
 | nil=>intro t _ _;rw [List.append_nil];rfl
 | cons r s ih =>
  intro t h ha
  have e:t ++ r :: s=(t ++ [r]) ++ s:=by simp
  rw [e] at h ⊢
  have hh:=(mayTab_iff _).1 h
  have h1:mayTab (t ++ [r]):=(mayTab_iff _).2 ⟨fun x hx=>hh.1 x (List.mem_append_left _ hx),(List.pairwise_append.1 hh.2).1⟩
  have h2:=(mayTab_iff _).1 h1
  have h3:mayTab t:=(mayTab_iff _).2 ⟨fun x hx=>h2.1 x (List.mem_append_left _ hx),(List.pairwise_append.1 h2.2).1⟩
  show (putR t (recT r)).bind (fun x=>tabTo x (s.map recT))=_
  rw [put_rec h3 (ha r (List.mem_cons_self ..)) (h2.1 r (List.mem_append_right _ (List.mem_singleton.2 rfl))),with_snoc h1]
  exact ih _ h fun x hx=>ha x (List.mem_cons_of_mem _ hx)
theorem tab_back {x:List Rc} (hx:mayTab x) (ha:allR x):tabR (x.map recT)=some x:=tab_notes x [] (by simpa using hx) ha
end Go.Proofs.YtifgcfepbenpjaaGreat
namespace Go.Proofs.YtifgcfepbenpjaaGreat
structure Mt where
 s:Sup
 n:Int
 u:Int
 t:List Rc
def zM:Mt:=⟨(0,0,0),0,0,[]⟩
def nextM (m:Mt):Int:=65536 * m.s.1 + m.u + 1
def mayM (P T A M W Q:Int) (m:Mt):Prop:=mayC P T A M W Q∧arS m.s.2.1∧(0≤m.n∧m.n≤A)∧(0≤m.u∧m.u≤65535)∧mayTab m.t
instance (P T A M W Q:Int) (m:Mt):Decidable (mayM P T A M W Q m):=by unfold mayM;infer_instance
def kmE (P T A M W Q:Int) (m:Mt):Int:=if mayM P T A M W Q m then 0 else 8
def opL (P T A M W Q:Int) (S:List Sec) (C:List Pnd):List Txt:=jN (jf S C A (srV P T A M W Q S C).2.1 (srV P T A M W Q S C).2.2) A.toNat
def moE (P T A M W Q:Int) (S:List Sec) (C:List Pnd):Int:=if srE P T A M W Q S C=0 then ansE (tabR (opL P T A M W Q S C)) else srE P T A M W Q S C
def moV (P T A M W Q:Int) (S:List Sec) (C:List Pnd):Mt:=if moE P T A M W Q S C=0 then ⟨srV P T A M W Q S C,((opL P T A M W Q S C).length:Int),0,ansL (tabR (opL P T A M W Q S C))⟩ else zM
abbrev Ac:=Int × Int × Txt
def wrA (l:List Pnd):List Ac:=l.map fun p=>(1,p.1,p.2)
def actsA (l:List Pnd):List Ac:=wrA l ++ [(2,0,[])]
def bootS (m:Mt):Sup:=(m.s.1 + 1,m.s.2.1,m.s.2.2)
def anewS (m:Mt):Sup:=(m.s.1,1 - m.s.2.1,nextM m)
def rowsT (g:Int) (t:List Rc):List Txt:=(List.range t.length).map fun k:Nat=>jT g (k:Int) (recT (t.getD k zR))
def rowsP (A a g:Int) (t:List Rc):List Pnd:=writesP (2 + a * A) (rowsT g t) t.length
def begT (g:Int) (t:Txt):Prop:=t.getD 8 0=1∧val (t.take 8)=g
def fineM (A:Int) (S:List Sec) (C:List Pnd) (m:Mt):Prop:=∀ (a:Int) (k:Nat),arJ a→(k:Int) < A→¬ (a=m.s.2.1∧(k:Int) < m.n)→∀ x,optAt S C (2 + a * A + (k:Int))=some x→¬ begT m.s.2.2 x∧¬ begT (nextM m) x
theorem ans_zero {x:Option (List Rc)} (h:ansE x=0):∃ t,x=some t:=by
 cases x with
 | none=>cases h
 | some t=>exact ⟨t,rfl⟩
theorem beg_note {g n:Int} {t:Txt} (hg:isG g) (h:noteT g n t≠[]):begT g t:=by
 unfold noteT at h
 split at h
 ·rename_i hc
  have e:=hc.2
  have hl:t=digs 8 g ++ ([1,n % 256,(((t.drop 12).take (t.getD 10 0).toNat).length:Int) % 256,0] ++ ((t.drop 12).take (t.getD 10 0).toNat ++ List.replicate (20 - ((t.drop 12).take (t.getD 10 0).toNat).length) 0)):=by
   conv=>lhs;rw [← e]
   unfold jT
   rw [jrow_eq]
   simp
  have l8:(digs 8 g).length=8:=digs_length 8 g
  constructor
  ·rw [hl,gtD,List.getElem?_append_right (by omega),l8]
   rfl
  ·rw [hl,List.take_append_of_le_length (by omega),List.take_of_length_le (by omega)]
   exact val_digs 8 g hg.1 (Int.ediv_eq_zero_of_lt hg.1 (by rw [show (256:Int) ^ 8=18446744073709551616 by decide];exact hg.2))
 ·exact absurd rfl h
theorem jT_beg {g n:Int} {b:Txt} (hg:isG g):begT g (jT g n b):=by
 have hl:jT g n b=digs 8 g ++ ([1,n % 256,(b.length:Int) % 256,0] ++ (b ++ List.replicate (20 - b.length) 0)):=by
  unfold jT
  rw [jrow_eq]
  simp
 have l8:(digs 8 g).length=8:=digs_length 8 g
 constructor
 ·rw [hl,gtD,List.getElem?_append_right (by omega),l8]
  rfl
 ·rw [hl,List.take_append_of_le_length (by omega),List.take_of_length_le (by omega)]
  exact val_digs 8 g hg.1 (Int.ediv_eq_zero_of_lt hg.1 (by rw [show (256:Int) ^ 8=18446744073709551616 by decide];exact hg.2))
section
variable {P T A M W Q:Int} {S S':List Sec} {C C':List Pnd}
theorem sr_view (hm:mayT P T A M W Q S C) (hm':mayT P T A M W Q S' C') (h0:optAt S' C' 0=optAt S C 0) (h1:optAt S' C' 1=optAt S C 1):srE P T A M W Q S' C'=srE P T A M W Q S C∧srV P T A M W Q S' C'=srV P T A M W Q S C:=by
 have e:optsOf S' C' ((0:Nat):Int) (2 * 1)=optsOf S C ((0:Nat):Int) (2 * 1):=by
  show [optAt S' C' 0,optAt S' C' 1]=[optAt S C 0,optAt S C 1]
  rw [h0,h1]
 have c:=cr_same (S:=S) (S':=S') (C:=C) (C':=C') (a:=0) (m:=1) (cell_zero hm) (cell_zero hm') (by rw [e]) (by rw [e])
 rw [show ((0:Nat):Int)=0 from rfl,show ((1:Nat):Int)=1 from rfl] at c
 unfold srE srV
 rw [if_pos hm,if_pos hm,if_pos hm',if_pos hm']
 exact sm_like c.1 c.2.2
theorem jl_view {a g:Int} (h:∀ k:Nat,(k:Int) < A→optAt S' C' (2 + a * A + (k:Int))=optAt S C (2 + a * A + (k:Int))):jN (jf S' C' A a g) A.toNat=jN (jf S C A a g) A.toNat :=
 jN_same fun j hj=>by
  unfold jf
  rw [h j (by omega)]
def Tells (P T A M W Q:Int) (S:List Sec) (s:Sup) (t:List Rc) (n:Int):Prop:=moE P T A M W Q S []=0∧(moV P T A M W Q S []).s=s∧(moV P T A M W Q S []).t=t∧(moV P T A M W Q S []).n=n
theorem tells_of {s:Sup} {l:List Txt} {t:List Rc} (h1:srE P T A M W Q S []=0) (h2:srV P T A M W Q S []=s) (h3:jN (jf S [] A s.2.1 s.2.2) A.toNat=l) (h4:tabR l=some t):Tells P T A M W Q S s t (l.length:Int):=by
 have e:opL P T A M W Q S []=l:=by unfold opL;rw [h2];exact h3
 have e0:moE P T A M W Q S []=0:=by unfold moE;rw [if_pos h1,e,h4];rfl
 unfold Tells moV
 rw [if_pos e0,e,h4,h2]
 exact ⟨e0,rfl,rfl,rfl⟩
theorem tells_is {m:Mt} (h:moE P T A M W Q S []=0) (hm:m=moV P T A M W Q S []) :
  srE P T A M W Q S []=0∧srV P T A M W Q S []=m.s∧tabR (jN (jf S [] A m.s.2.1 m.s.2.2) A.toNat)=some m.t∧m.n=((jN (jf S [] A m.s.2.1 m.s.2.2) A.toNat).length:Int)∧m.u=0:=by
 have h0:srE P T A M W Q S []=0:=by
  unfold moE at h
  split at h
  ·assumption
  ·exact h
 have e:moV P T A M W Q S []=⟨srV P T A M W Q S [],((opL P T A M W Q S []).length:Int),0,ansL (tabR (opL P T A M W Q S []))⟩:=if_pos h
 rw [e] at hm
 subst hm
 have h1:ansE (tabR (opL P T A M W Q S []))=0:=by unfold moE at h;rw [if_pos h0] at h;exact h
 obtain ⟨t,ht⟩:=ans_zero h1
 refine ⟨h0,rfl,?_,rfl,rfl⟩
 show tabR (opL P T A M W Q S [])=some (ansL (tabR (opL P T A M W Q S [])))
 rw [ht]
 rfl
theorem tells_out {s:Sup} {t:List Rc} {n:Int} (h:Tells P T A M W Q S s t n):srE P T A M W Q S []=0∧srV P T A M W Q S []=s∧tabR (jN (jf S [] A s.2.1 s.2.2) A.toNat)=some t∧n=((jN (jf S [] A s.2.1 s.2.2) A.toNat).length:Int):=by
 obtain ⟨h1,h2,h3,h4⟩:=h
 obtain ⟨o1,o2,o3,o4,_⟩:=tells_is h1 rfl
 subst h2;subst h3;subst h4
 exact ⟨o1,o2,o3,o4⟩
theorem may_len (hm:mayT P T A M W Q S C) (h:mayD S' C'=true) (hl:S'.length=S.length):mayT P T A M W Q S' C':=⟨hm.1,h,by rw [hl];exact hm.2.2⟩
theorem begL_eq {l l':List Txt} {b:Txt} (h:begL l' l b) (hl:l'.length≤l.length + 1):l'=l ++ [b]:=by
 obtain ⟨h1,h2,h3⟩:=h
 have e:l'=l'.take l.length ++ l'.drop l.length:=(List.take_append_drop _ _).symm
 rw [e,h2]
 congr 1
 have hd:(l'.drop l.length).length=1:=by rw [List.length_drop];omega
 match hq:l'.drop l.length,hd with
 | [c],_ =>
  have:(l'.drop l.length)[0]?=some c:=by rw [hq];rfl
  rw [List.getElem?_drop,Nat.add_zero,h3] at this
  rw [Option.some.inj this]
end
end Go.Proofs.YtifgcfepbenpjaaGreat
namespace Go.Proofs.YtifgcfepbenpjaaGreat
open Go.RowKit Go.OpenShut Go.ChangeShapes Go.WideShapes Go.Deep
def OwnTxs (w:World) (base:Nat) (A:Option Addr) (n c:Nat) (zss:List Txt):Prop :=
 ∃ vs:List Value,w.ownsRow base 42 1 (.slice A n c) n vs∧zss.length=n∧(∀ zs ∈ zss,∀ z ∈ zs,isByte z) ∧
  ∀ i,i < n→∃ Ai ni ci,vs[i]?=some (.slice Ai ni ci)∧OwnTxt w base Ai ni ci (zss.getD i [])
theorem OwnTxs.nil (w:World) (base:Nat):OwnTxs w base none 0 0 []:=⟨[],World.ownsRow_nil _ _ _ _,rfl,by simp,fun i hi=>absurd hi (Nat.not_lt_zero _)⟩
theorem OwnTxs.lower {w:World} {base base':Nat} {A:Option Addr} {n c:Nat} {zss:List Txt} (h:OwnTxs w base A n c zss) (hb:base'≤base):OwnTxs w base' A n c zss:=by
 obtain ⟨vs,h1,h2,h3,h4⟩:=h
 exact ⟨vs,owns_base h1 hb,h2,h3,fun i hi=>by obtain ⟨a,b,c,e,o⟩:=h4 i hi;exact ⟨a,b,c,e,o.lower hb⟩⟩
theorem OwnTxs.texts {w:World} {base:Nat} {A:Option Addr} {n c:Nat} {zss:List Txt} (h:OwnTxs w base A n c zss):Texts w A n c zss:=by
 obtain ⟨vs,hown,hl,hb,hin⟩:=h
 refine ⟨hl,?_,?_,hb,fun i hi=>?_⟩
 ·rcases hown.2 with ⟨e,h0⟩ | ⟨g,cap,cur,e,_,_,h1,h2,_⟩ <;> cases e
  ·exact Nat.le_refl _
  ·exact h1
 ·rcases hown.2 with ⟨e,h0⟩ | ⟨g,cap,cur,e,_,_,h1,h2,_⟩ <;> cases e
  ·decide
  ·exact h2
 ·obtain ⟨Ai,ni,ci,hv,ho⟩:=hin i hi
  obtain ⟨b,e,hlt,hcc⟩:=owns_cell hown hv
  exact ⟨b,0,Ai,ni,ci,e,hlt,by rw [Nat.zero_add];exact hcc,ho.arg⟩
theorem OwnTxs.snoc {w w':World} {base:Nat} {A A' Ai:Option Addr} {n c c' ni ci:Nat} {zss:List Txt} {zs:Txt} {vs:List Value} (hown0:w.ownsRow base 42 1 (.slice A n c) n vs) (hl:zss.length=n) (hby:∀ zs ∈ zss,∀ z ∈ zs,isByte z)
  (hin:∀ i,i < n→∃ Ai ni ci,vs[i]?=some (.slice Ai ni ci)∧OwnTxt w base Ai ni ci (zss.getD i [])) (hz:∀ z ∈ zs,isByte z)
  (ho:OwnTxt w base Ai ni ci zs) (hg:w.grownBy w' (Value.slice A n c).ownBlock)
  (hown:w'.ownsRow base 42 1 (.slice A' (n + 1) c') (n + 1) (vs ++ [.slice Ai ni ci])):OwnTxs w' base A' (n + 1) c' (zss ++ [zs]):=by
 have hvl:vs.length=n:=by have:=hown0.1;omega
 have hkeep:∀ {A':Option Addr} {n' c':Nat} {xs:List Int},OwnTxt w base A' n' c' xs→OwnTxt w' base A' n' c' xs:=fun hx =>
  hx.keep fun g' _ hu=>hg.block g' (by obtain ⟨cs,hc⟩:=hu;exact (Array.getElem?_eq_some_iff.1 hc).1) (fun e=>u8_row (by decide) hu hown0 e.symm)
 refine ⟨_,hown,by simp [hl],?_,fun j hj=>?_⟩
 ·intro y hy z hzz
  rcases List.mem_append.1 hy with hy | hy
  ·exact hby y hy z hzz
  ·rw [List.mem_singleton] at hy
   subst hy
   exact hz z hzz
 ·by_cases e:j=n
  ·subst e
   refine ⟨Ai,ni,ci,by rw [List.getElem?_append_right (by omega)];simp [hvl],?_⟩
   have e2:(zss ++ [zs]).getD j []=zs:=by simp [List.getD_eq_getElem?_getD,hl]
   rw [e2]
   exact hkeep ho
  ·obtain ⟨Aj,nj,cj,hv,hoj⟩:=hin j (by omega)
   refine ⟨Aj,nj,cj,by rw [List.getElem?_append_left (by omega)];exact hv,?_⟩
   have e2:(zss ++ [zs]).getD j []=zss.getD j []:=by simp [List.getD_eq_getElem?_getD,List.getElem?_append_left (show j < zss.length by omega)]
   rw [e2]
   exact hkeep hoj
theorem txts_info:(Tryz.prog.info? 42).map (fun i=>(i.zero,i.size,i.bytes))=some (some (.slice none 0 0),1,24):=by kernel_rfl
end Go.Proofs.YtifgcfepbenpjaaGreat
namespace Go.Proofs.YtifgcfepbenpjaaGreat
open Go.RowKit
end Go.Proofs.YtifgcfepbenpjaaGreat
namespace Go.Proofs.YtifgcfepbenpjaaGreat
instance (g:Int) (x:Txt):Decidable (begT g x):=by unfold begT;infer_instance
def strB (A:Int) (S:List Sec) (C:List Pnd) (m:Mt) (a k:Int):Bool :=
 match optAt S C (2 + a * A + k) with
 | some x=>decide (begT m.s.2.2 x) || decide (begT (nextM m) x)
 | none=>false
def okS (A:Int) (S:List Sec) (C:List Pnd) (m:Mt) (a k:Int):Bool:=decide (a=m.s.2.1∧k < m.n) || !strB A S C m a k
def fineB (A:Int) (S:List Sec) (C:List Pnd) (m:Mt):Bool:=(List.range 2).all fun a=>(List.range A.toNat).all fun k=>okS A S C m (a:Int) (k:Int)
section
variable {A:Int} {S:List Sec} {C:List Pnd} {m:Mt}
theorem fineB_true (h:∀ a k:Nat,a < 2→(k:Int) < A→okS A S C m (a:Int) (k:Int)=true):fineB A S C m=true:=by
 unfold fineB
 rw [List.all_eq_true]
 intro a ha
 rw [List.all_eq_true]
 intro k hk
 have h1:=List.mem_range.1 ha
 have h2:=List.mem_range.1 hk
 exact h a k h1 (by omega)
theorem fineB_false {a k:Nat} (ha:a < 2) (hk:(k:Int) < A) (h:okS A S C m (a:Int) (k:Int)=false):fineB A S C m=false:=by
 cases hf:fineB A S C m with
 | false=>rfl
 | true =>
  unfold fineB at hf
  rw [List.all_eq_true] at hf
  have h1:=hf a (List.mem_range.2 ha)
  rw [List.all_eq_true] at h1
  have h2:=h1 k (List.mem_range.2 (by omega))
  rw [h] at h2
  cases h2
theorem fineB_iff:fineB A S C m=true↔fineM A S C m:=by
 constructor
 ·intro h a k ha hk ho x hx
  obtain ⟨a',rfl⟩:∃ y:Nat,a=(y:Int):=⟨a.toNat,by have:=ha.1;omega⟩
  have h2:a' < 2:=by have:=ha.2;omega
  have hok:okS A S C m (a':Int) (k:Int)=true:=by
   cases hc:okS A S C m (a':Int) (k:Int) with
   | true=>rfl
   | false =>
    rw [fineB_false h2 hk hc] at h
    cases h
  unfold okS strB at hok
  rw [hx,decide_eq_false ho] at hok
  simp at hok
  exact hok
 ·intro h
  refine fineB_true fun a k ha hk=>?_
  unfold okS strB
  by_cases ho:(a:Int)=m.s.2.1∧(k:Int) < m.n
  ·rw [decide_eq_true ho];rfl
  ·rw [decide_eq_false ho]
   cases hx:optAt S C (2 + (a:Int) * A + (k:Int)) with
   | none=>rfl
   | some x =>
    have:=h (a:Int) k ⟨by omega,by omega⟩ hk ho x hx
    simp [this.1,this.2]
end
end Go.Proofs.YtifgcfepbenpjaaGreat
