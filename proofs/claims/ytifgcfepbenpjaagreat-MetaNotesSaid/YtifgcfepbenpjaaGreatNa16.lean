/- Texts of layers 1 to 12, joined. -/
import Derived.Test.YtifgcfepbenpjaaGreatNa13
import Derived.Test.YtifgcfepbenpjaaGreatNa15
import Derived.Deep.CutBlock
import Derived.Deep.RegionHeld3
import Derived.Deep.RegionWith
import Derived.Deep.Cut
import Derived.Deep.CutRange
import Derived.Lib.SlBytesConst
import Derived.Lib.QuoteBits
import Derived.Deep.AppendSrc
set_option maxRecDepth 100000
set_option maxHeartbeats 12800000
set_option linter.unusedVariables false
namespace Go.Proofs.YtifgcfepbenpjaaGreat
theorem partT_parts (v n:Int) (b:Txt):partT v n b=digs 4 v ++ ([n % 256,(b.length:Int) % 256,0,0] ++ (b ++ List.replicate (24 - b.length) 0)):=by
 unfold partT
 rw [rowT_eq]
 simp only [List.append_assoc]
theorem ver_part {v:Int} (n:Int) (b:Txt) (hv:0≤v∧v < 4294967296):verOf (partT v n b)=v:=by
 unfold verOf
 rw [partT_parts,List.take_append_of_le_length (by rw [digs_length];decide),List.take_of_length_le (by rw [digs_length];decide)]
 exact val_digs 4 v hv.1 (Int.ediv_eq_zero_of_lt hv.1 (by rw [show (256:Int) ^ 4=4294967296 by decide];exact hv.2))
theorem many_part (v n:Int) {b:Txt} (hb:b.length≤24):manyOf (partT v n b)=b.length:=by
 unfold manyOf
 rw [partT_parts,gtD,List.getElem?_append_right (by rw [digs_length];decide),digs_length]
 show ((b.length:Int) % 256)=_
 omega
theorem bytes_part (v n:Int) {b:Txt} (hb:b.length≤24):partB (partT v n b)=b:=by
 unfold partB
 rw [many_part v n hb,Int.toNat_natCast,partT_parts,List.drop_append,digs_length,List.drop_of_length_le (by rw [digs_length];decide),List.nil_append]
 show (b ++ List.replicate (24 - b.length) 0).take b.length=b
 rw [List.take_append_of_le_length (Nat.le_refl _),List.take_of_length_le (Nat.le_refl _)]
theorem partO_part {v:Int} (hv:0 < v∧v < 4294967296) (n:Nat) {b:Txt} (hb:b.length≤24):partO n (some (partT v n b))=some (v,b):=by
 have h1:=ver_part (v:=v) n b ⟨by omega,hv.2⟩
 have h2:=many_part v n hb
 have h3:=bytes_part v n hb
 have h:partOk n (partT v n b)=true:=by
  simp only [partOk,Bool.and_eq_true,decide_eq_true_eq]
  rw [h1,h2,h3]
  exact ⟨⟨by omega,by omega⟩,rfl⟩
 unfold partO
 dsimp only
 rw [if_pos h,h1,h3]
theorem chunk_len (b:Txt) (k:Nat):(chunk b k).length=min 24 (b.length - 24 * k):=by
 unfold chunk
 rw [List.length_take,List.length_drop]
theorem range_get {α:Type} (f:Nat→α) (d:α) {n k:Nat} (h:k < n):((List.range n).map f).getD k d=f k:=by
 rw [gtD,geE (by simpa using h)]
 simp
theorem held_new {l:List (Option Txt)} {v:Int} {b:Txt} {m:Nat} (hv:0 < v∧v < 4294967296) (hl:∀ i,i < m→l.getD i none=some (partT v i (chunk b i))):∀ k,k≤m→heldTo l k=some ((List.range k).map fun i=>(v,chunk b i)):=by
 intro k
 induction k with
 | zero=>intro _;rfl
 | succ k ih =>
  intro hk
  have h1:=ih (by omega)
  have h2:=partO_part hv k (b:=chunk b k) (by rw [chunk_len];omega)
  rw [← hl k (by omega)] at h2
  rw [heldTo_succ h1 h2 ?_,List.range_succ,List.map_append]
  ·rfl
  ·by_cases h0:k=0
   ·exact .inl h0
   ·refine .inr ?_
    rw [range_get (fun i=>((v,chunk b i):Prt)) _ (by omega)]
    refine ⟨rfl,?_⟩
    show (chunk b k).length=0∨24≤(chunk b (k - 1)).length
    rw [chunk_len,chunk_len]
    omega
theorem join_new (v:Int) (b:Txt) (m:Nat):joinB ((List.range m).map fun i=>((v,chunk b i):Prt))=b.take (24 * m):=by
 induction m with
 | zero=>simp [joinB]
 | succ m ih =>
  rw [List.range_succ,List.map_append]
  show joinB (_ ++ [((v,chunk b m):Prt)])=_
  rw [joinB_snoc,ih,Nat.mul_succ,List.take_add]
  rfl
theorem slot_new {l:List (Option Txt)} {v:Int} {b:Txt} {m:Nat} (hv:0 < v∧v < 4294967296) (hm:1≤m) (hlen:l.length=m) (hb:b.length≤24 * m) (hl:∀ i,i < m→l.getD i none=some (partT v i (chunk b i))):slotV l=v∧slotB l=b:=by
 have h:=held_new hv hl m (Nat.le_refl _)
 unfold slotV slotB
 rw [hlen,h]
 refine ⟨?_,?_⟩
 ·obtain ⟨k,rfl⟩:∃ k,m=k + 1:=⟨m - 1,by omega⟩
  dsimp only
  rw [List.range_succ,List.map_append]
  exact joinV_snoc _ _
 ·dsimp only
  rw [join_new,List.take_of_length_le hb]
theorem held_from {l:List (Option Txt)} {k:Nat} {ps:List Prt} (h:heldTo l k=some ps):∀ p ∈ ps,∃ i T,i < k∧l.getD i none=some T∧p.1=verOf T:=by
 induction k generalizing ps with
 | zero=>injection h with h;subst h;simp
 | succ k ih =>
  rw [heldTo] at h
  rcases h1:heldTo l k with _ | qs
  ·rw [h1] at h;cases h
  ·rw [h1] at h
   dsimp only at h
   rcases h2:partO k (l.getD k none) with _ | p
   ·rw [h2] at h;cases h
   ·rw [h2] at h
    dsimp only at h
    split at h
    ·injection h with h
     subst h
     intro q hq
     rcases List.mem_append.1 hq with hq | hq
     ·obtain ⟨i,T,hi,e1,e2⟩:=ih h1 q hq
      exact ⟨i,T,by omega,e1,e2⟩
     ·rw [List.mem_singleton] at hq
      subst hq
      rcases h3:l.getD k none with _ | T
      ·rw [h3] at h2;cases h2
      ·rw [h3] at h2
       unfold partO at h2
       dsimp only at h2
       split at h2
       ·injection h2 with h2
        subst h2
        exact ⟨k,T,by omega,h3,rfl⟩
       ·cases h2
    ·cases h
theorem joinV_mem {ps:List Prt} (h:ps≠[]):∃ p ∈ ps,joinV ps=p.1:=by
 refine ⟨ps.getLast h,List.getLast_mem h,?_⟩
 have e:=joinV_snoc ps.dropLast (ps.getLast h)
 rwa [List.dropLast_concat_getLast h] at e
theorem slotV_le {l:List (Option Txt)} {c:Int} (hc:0≤c) (h:∀ i T,i < l.length→l.getD i none=some T→verOf T≤c):slotV l≤c:=by
 unfold slotV
 rcases h1:heldTo l l.length with _ | ps
 ·exact hc
 ·dsimp only
  by_cases hp:ps=[]
  ·subst hp;exact hc
  ·obtain ⟨p,hp,e⟩:=joinV_mem hp
   obtain ⟨i,T,hi,e1,e2⟩:=held_from h1 p hp
   rw [e,e2]
   exact h i T hi e1
theorem count_ge {l:List (Option Txt)}:∀ n i T,i < n→l.getD i none=some T→verOf T≤countTo l n:=by
 intro n
 induction n with
 | zero=>intro i T hi;omega
 | succ n ih =>
  intro i T hi h
  rw [countTo]
  rcases Nat.lt_or_ge i n with h1 | h1
  ·have h2:=ih i T h1 h
   rcases h3:l.getD n none with _ | U
   ·exact h2
   ·dsimp only;omega
  ·obtain rfl:i=n:=by omega
   rw [h]
   dsimp only
   omega
theorem getD_drop {α:Type} {l:List α} {d:α} {m i:Nat}:(l.drop m).getD i d=l.getD (m + i) d:=by
 rw [gtD,gtD,List.getElem?_drop]
theorem list_eq {α:Type} {l k:List α} {d:α} {n:Nat} (h1:l.length=n) (h2:k.length=n) (h:∀ i,i < n→l.getD i d=k.getD i d):l=k:=by
 apply List.ext_getElem (by rw [h1,h2])
 intro i hi hi2
 have:=h i (by omega)
 rw [gtD,gtD,geE hi,geE hi2] at this
 exact this
end Go.Proofs.YtifgcfepbenpjaaGreat
namespace Go.Proofs.YtifgcfepbenpjaaGreat
theorem writesP_eq (base:Int) (l:List Txt) (m:Nat):writesP base l m=(List.range m).map fun i:Nat=>((base + (i:Int),l.getD i []):Pnd):=by
 unfold writesP someP
 apply List.map_congr_left
 intro i hi
 rw [if_pos (List.mem_range.1 hi)]
theorem ver_opts {S:List Sec} {C:List Pnd} {at_:Int} (hS:∀ s ∈ S,∀ z ∈ s.2,isByte z) (hC:∀ p ∈ C,∀ z ∈ p.2,isByte z) (n:Nat):0≤countTo (optsOf S C at_ n) n∧countTo (optsOf S C at_ n) n < 4294967296 :=
 count_bounds (fun i hi T hT=>by
  rw [optsOf_get S C at_ hi] at hT
  unfold optAt at hT
  split at hT
  ·rename_i h0
   injection hT with hT
   subst hT
   obtain ⟨h32,hbb⟩:=rd_good h0 hS hC
   exact ver_bounds (by omega) hbb
  ·cases hT) _ (Nat.le_refl _)
end Go.Proofs.YtifgcfepbenpjaaGreat
namespace Go.Proofs.YtifgcfepbenpjaaGreat
theorem joinV_last {ps:List Prt} {k:Nat} (h:ps.length=k + 1):joinV ps=(ps.getD k (0,[])).1:=by
 have hne:ps≠[]:=by intro e;subst e;cases h
 have e:=joinV_snoc ps.dropLast (ps.getLast hne)
 rw [List.dropLast_concat_getLast hne] at e
 rw [e,List.getLast_eq_getElem,gtD,geE (by omega)]
 simp [h]
theorem held_one {l:List (Option Txt)}:∀ (k:Nat) (ps:List Prt),heldTo l k=some ps→∀ i,i < k→∃ T,l.getD i none=some T∧verOf T=joinV ps:=by
 intro k
 induction k with
 | zero=>intro ps _ i hi;omega
 | succ k ih =>
  intro ps h
  have hsm:=heldTo_small h
  rw [heldTo] at h
  rcases h1:heldTo l k with _ | qs
  ·rw [h1] at h;cases h
  ·rw [h1] at h
   dsimp only at h
   rcases h2:partO k (l.getD k none) with _ | p
   ·rw [h2] at h;cases h
   ·rw [h2] at h
    dsimp only at h
    split at h
    ·rename_i hf
     injection h with h
     subst h
     rw [joinV_snoc]
     obtain ⟨T,hT,hv⟩:∃ T,l.getD k none=some T∧verOf T=p.1:=by
      rcases h3:l.getD k none with _ | T
      ·rw [h3] at h2;cases h2
      ·rw [h3] at h2
       unfold partO at h2
       dsimp only at h2
       split at h2
       ·injection h2 with h2
        subst h2
        exact ⟨T,rfl,rfl⟩
       ·cases h2
     intro i hi
     rcases Nat.lt_or_ge i k with hik | hik
     ·obtain ⟨U,hU,hu⟩:=ih qs h1 i hik
      refine ⟨U,hU,?_⟩
      obtain ⟨j,rfl⟩:∃ j,k=j + 1:=⟨k - 1,by omega⟩
      have hl:=(heldTo_small h1).1
      rcases hf with hf | hf
      ·omega
      ·rw [hu,joinV_last hl]
       exact hf.1.symm
     ·obtain rfl:i=k:=by omega
      exact ⟨T,hT,hv⟩
    ·cases h
theorem slotV_pos {l:List (Option Txt)} (h:∀ i T,i < l.length→l.getD i none=some T→0≤verOf T):0≤slotV l:=by
 unfold slotV
 rcases h1:heldTo l l.length with _ | ps
 ·exact Int.le_refl 0
 ·dsimp only
  by_cases hp:ps=[]
  ·subst hp;exact Int.le_refl 0
  ·obtain ⟨p,hp,e⟩:=joinV_mem hp
   obtain ⟨i,T,hi,e1,e2⟩:=held_from h1 p hp
   rw [e,e2]
   exact h i T hi e1
end Go.Proofs.YtifgcfepbenpjaaGreat
namespace Go.Proofs.YtifgcfepbenpjaaGreat
end Go.Proofs.YtifgcfepbenpjaaGreat
namespace Go.Proofs.YtifgcfepbenpjaaGreat
def mayT (P T A M W Q:Int) (S:List Sec) (C:List Pnd):Prop:=mayC P T A M W Q∧mayD S C=true∧(S.length:Int)=fE P T A
instance (P T A M W Q:Int) (S:List Sec) (C:List Pnd):Decidable (mayT P T A M W Q S C):=by unfold mayT;infer_instance
def tcE (P T A M W Q:Int) (S:List Sec) (C:List Pnd):Int:=if mayT P T A M W Q S C then 0 else 8
end Go.Proofs.YtifgcfepbenpjaaGreat
namespace Go.Proofs.YtifgcfepbenpjaaGreat
abbrev Sup:=Int × Int × Int
def isS (s:Sup):Prop:=(0≤s.1∧s.1 < 4294967296)∧(0≤s.2.2∧s.2.2 < 18446744073709551616)
def arS (a:Int):Prop:=a=0∨a=1
instance (a:Int):Decidable (arS a):=by unfold arS;infer_instance
def sz3:List Int:=[4,1,8]
def suT (s:Sup):Txt:=rowTo [s.1,s.2.1,s.2.2] sz3 3
def spE (P T A M W Q:Int) (S:List Sec) (C:List Pnd) (s:Sup):Int:=if mayT P T A M W Q S C then (if arS s.2.1 then cpE S C 0 1 (suT s) else 2) else 8
def spL (P T A M W Q:Int) (S:List Sec) (C:List Pnd) (s:Sup):List Pnd:=if spE P T A M W Q S C s=0 then cpL S C 0 1 (suT s) else []
theorem okB_sz3:okB sz3=true:=by decide
theorem suT_length (s:Sup):(suT s).length=13:=by unfold suT;rw [rowTo_length];rfl
theorem suT_byte (s:Sup):∀ z ∈ suT s,isByte z:=rowTo_byte _ _ _
theorem fits3 {s:Sup} (h:isS s) (ha:0≤s.2.1∧s.2.1 < 256):fitsTo [s.1,s.2.1,s.2.2] sz3 3=true:=by
 obtain ⟨hv,hg⟩:=h
 have h1:s.1 / 256 ^ 4=0:=Int.ediv_eq_zero_of_lt hv.1 (by rw [show (256:Int) ^ 4=4294967296 by decide];exact hv.2)
 have h2:s.2.1 / 256 ^ 1=0:=Int.ediv_eq_zero_of_lt ha.1 (by omega)
 have h3:s.2.2 / 256 ^ 8=0:=Int.ediv_eq_zero_of_lt hg.1 (by rw [show (256:Int) ^ 8=18446744073709551616 by decide];exact hg.2)
 show (((true && decide (s.1 / 256 ^ 4=0)) && decide (s.2.1 / 256 ^ 1=0)) && decide (s.2.2 / 256 ^ 8=0))=true
 rw [h1,h2,h3]
 decide
theorem cell_zero {P T A M W Q:Int} {S:List Sec} {C:List Pnd} (h:mayT P T A M W Q S C):cellE S C 0 1=0:=by
 obtain ⟨h1,h2,h3⟩:=h
 obtain ⟨b1,b2,b3,b4,b5,b6,b7⟩:=bounds_may h1
 have hle:=fE_le h1
 obtain ⟨c1,c2,c3,c4,c5,c6,c7⟩:=h1
 have m1:=mul3 (a:=P) (by omega) (by omega) T
 unfold cellE
 unfold fE at h3 hle
 rw [if_pos h2,if_pos (by omega)]
theorem spE_zero {P T A M W Q:Int} {S:List Sec} {C:List Pnd} {s:Sup} (h:spE P T A M W Q S C s=0):mayT P T A M W Q S C∧arS s.2.1∧cpE S C 0 1 (suT s)=0:=by
 unfold spE at h
 split at h
 ·rename_i h1
  split at h
  ·rename_i h2;exact ⟨h1,h2,h⟩
  ·cases h
 ·cases h
theorem spL_good {P T A M W Q:Int} {S:List Sec} {C:List Pnd} {s:Sup} (h:spE P T A M W Q S C s=0):(cpL S C 0 1 (suT s)).length=1 ∧
  ∀ p ∈ cpL S C 0 1 (suT s),(0≤p.1∧p.1 < (S.length:Int)∧p.2.length=32)∧∀ z ∈ p.2,isByte z:=by
 obtain ⟨_,_,h3⟩:=spE_zero h
 obtain ⟨k1,_,_,_,k5⟩:=cpL_good h3 (suT_byte s)
 exact ⟨k1,k5⟩
end Go.Proofs.YtifgcfepbenpjaaGreat
namespace Go.Proofs.YtifgcfepbenpjaaGreat
def sz5:List Int:=[8,1,1,1,1]
def jrow (g n m:Int):Txt:=rowTo [g,1,n,m,0] sz5 5
def jT (g n:Int) (b:Txt):Txt:=jrow g n b.length ++ b ++ List.replicate (20 - b.length) 0
def isG (g:Int):Prop:=0≤g∧g < 18446744073709551616
def jtE (n:Int) (b:Txt):Int:=if 1≤b.length∧b.length≤20 then (if 0≤n∧n≤255 then 0 else 2) else 4
def jtB (g n:Int) (b:Txt):Txt:=if jtE n b=0 then jT g n b else []
def arJ (a:Int):Prop:=0≤a∧a≤1
instance (a:Int):Decidable (arJ a):=by unfold arJ;infer_instance
def jaE (P T A M W Q:Int) (S:List Sec) (C:List Pnd) (a:Int):Int:=if mayT P T A M W Q S C then (if arJ a then 0 else 2) else 8
def jpE (P T A M W Q:Int) (S:List Sec) (C:List Pnd) (a n:Int) (b:Txt):Int :=
 if jaE P T A M W Q S C a=0 then (if 0≤n then (if n < A then jtE n b else 9) else 2) else jaE P T A M W Q S C a
def jpN (P T A M W Q:Int) (S:List Sec) (C:List Pnd) (a n:Int) (b:Txt):Int:=if jpE P T A M W Q S C a n b=0 then 2 + a * A + n else 0
def jpB (P T A M W Q:Int) (S:List Sec) (C:List Pnd) (a g n:Int) (b:Txt):Txt:=if jpE P T A M W Q S C a n b=0 then jT g n b else []
theorem okB_sz5:okB sz5=true:=by decide
theorem jrow_eq (g n m:Int):jrow g n m=digs 8 g ++ [1,n % 256,m % 256,0]:=by
 have h:jrow g n m=(((([] ++ digs 8 g) ++ digs 1 1) ++ digs 1 n) ++ digs 1 m) ++ digs 1 0:=rfl
 rw [h]
 simp [digs]
theorem jrow_length (g n m:Int):(jrow g n m).length=12:=by rw [jrow_eq];simp [digs_length]
theorem jrow_byte (g n m:Int):∀ z ∈ jrow g n m,isByte z:=rowTo_byte _ _ _
theorem jT_length (g n:Int) {b:Txt} (h:b.length≤20):(jT g n b).length=32:=by
 unfold jT
 rw [List.length_append,List.length_append,jrow_length,List.length_replicate]
 omega
theorem jT_byte (g n:Int) {b:Txt} (h:∀ z ∈ b,isByte z):∀ z ∈ jT g n b,isByte z:=fun z hz=>by
 unfold jT at hz
 rcases List.mem_append.1 hz with hz | hz
 ·rcases List.mem_append.1 hz with hz | hz
  ·exact jrow_byte _ _ _ z hz
  ·exact h z hz
 ·rw [(List.mem_replicate.1 hz).2];exact ⟨by decide,by decide⟩
theorem fits5 {g n m:Int} (hg:isG g) (hn:0≤n∧n < 256) (hm:0≤m∧m < 256):fitsTo [g,1,n,m,0] sz5 5=true:=by
 have h1:g / 256 ^ 8=0:=Int.ediv_eq_zero_of_lt hg.1 (by rw [show (256:Int) ^ 8=18446744073709551616 by decide];exact hg.2)
 have h2:n / 256 ^ 1=0:=Int.ediv_eq_zero_of_lt hn.1 (by omega)
 have h3:m / 256 ^ 1=0:=Int.ediv_eq_zero_of_lt hm.1 (by omega)
 show (((((true && decide (g / 256 ^ 8=0)) && decide ((1:Int) / 256 ^ 1=0)) && decide (n / 256 ^ 1=0)) && decide (m / 256 ^ 1=0)) && decide ((0:Int) / 256 ^ 1=0))=true
 rw [h1,h2,h3]
 decide
theorem at_area {P T A M W Q:Int} {S:List Sec} {C:List Pnd} (h:mayT P T A M W Q S C) {a:Int} (ha:arJ a) {n:Nat} (hn:(n:Int) < A):0≤2 + a * A + (n:Int)∧2 + a * A + (n:Int) < (S.length:Int):=by
 obtain ⟨h1,h2,h3⟩:=h
 obtain ⟨b1,b2,b3,b4,b5,b6,b7⟩:=bounds_may h1
 obtain ⟨c1,c2,c3,c4,c5,c6,c7⟩:=h1
 unfold fE at h3
 have e:a * A=0∨a * A=A:=by
  unfold arJ at ha
  rcases (show a=0∨a=1 by omega) with r | r
  ·rw [r];left;simp
  ·rw [r];right;simp
 rcases e with e | e <;> rw [e] <;> omega
end Go.Proofs.YtifgcfepbenpjaaGreat
namespace Go.Proofs.YtifgcfepbenpjaaGreat
structure Rc where
 p:Int
 b:Int
 e:Int
 l:Int
 h:Int
 f:Int
 q:Bool
 a:Bool
theorem Rc.eq_iff (r s:Rc):r=s↔r.p=s.p∧r.b=s.b∧r.e=s.e∧r.l=s.l∧r.h=s.h∧r.f=s.f∧r.q=s.q∧r.a=s.a:=by
 cases r;cases s
 simp
instance:DecidableEq Rc:=fun r s=>decidable_of_iff _ (Rc.eq_iff r s).symm
def zR:Rc:=⟨0,0,0,0,0,0,false,false⟩
instance:Inhabited Rc:=⟨zR⟩
def isR (r:Rc):Prop:=(0≤r.b∧r.b < 4294967296)∧(0≤r.e∧r.e < 4294967296)∧(0≤r.h∧r.h < 256)
def mayR (r:Rc):Prop:=(0≤r.p∧r.p < 3∧1≤r.b∧1≤r.e∧0≤r.l∧r.l≤1∧0≤r.f∧r.f≤1)∧(1≤r.h∧r.h≤3)∧(r.h=1∨r.f=r.l)∧(r.q=false∨(r.h=1∧r.f≠r.l))
instance (r:Rc):Decidable (mayR r):=by unfold mayR;infer_instance
def rcE (r:Rc):Int:=if mayR r then 0 else 110
def flagR (r:Rc):Int:=(if r.q then 2 else 0) + (if r.a then 1 else 0)
def sz8R:List Int:=[1,1,4,4,1,1,1,1]
def numsR (r:Rc):List Int:=[1,r.p,r.b,r.e,r.l,r.h,r.f,flagR r]
def recT (r:Rc):Txt:=rowTo (numsR r) sz8R 8
def ntB (r:Rc):Txt:=if mayR r then recT r else []
def goneT (p:Int):Txt:=[2,p]
def goE (p:Int):Int:=if 0≤p∧p < 3 then 0 else 2
def goB (p:Int):Txt:=if goE p=0 then goneT p else []
def rawR (t:Txt):Rc:=⟨t.getD 1 0,val ((t.drop 2).take 4),val ((t.drop 6).take 4),t.getD 10 0,t.getD 11 0,t.getD 12 0,decide (2≤t.getD 13 0),decide (t.getD 13 0 % 2=1)⟩
def isN (t:Txt):Prop:=t.length=14∧t.getD 0 0=1∧t.getD 13 0≤3∧mayR (rawR t)
instance (t:Txt):Decidable (isN t):=by unfold isN;infer_instance
def isGo (t:Txt):Prop:=t.length=2∧t.getD 0 0=2∧t.getD 1 0 < 3
instance (t:Txt):Decidable (isGo t):=by unfold isGo;infer_instance
def mayTab:List Rc→Prop
 | []=>True
 | [r]=>mayR r
 | r :: s :: l=>mayR r∧r.p < s.p∧mayTab (s :: l)
instance decTab:(l:List Rc)→Decidable (mayTab l)
 | []=>isTrue trivial
 | [r]=>by unfold mayTab;infer_instance
 | r :: s :: l=>by
  unfold mayTab
  have:=decTab (s :: l)
  infer_instance
def outR (t:List Rc) (p:Int):List Rc:=t.filter fun r=>r.p != p
def atR (t:List Rc) (r:Rc) (p:Int):List Rc:=if p=r.p then [r] else (t.find? fun s=>s.p == p).toList
def withR (t:List Rc) (r:Rc):List Rc:=atR t r 0 ++ (atR t r 1 ++ atR t r 2)
def putN (t:List Rc) (b:Txt):Option (List Rc):=if isGo b then some (outR t (b.getD 1 0)) else if isN b then some (withR t (rawR b)) else none
def putR (t:List Rc) (b:Txt):Option (List Rc):=if mayTab t then putN t b else none
def tabTo (t:List Rc):List Txt→Option (List Rc)
 | []=>some t
 | b :: l=>(putR t b).bind fun x=>tabTo x l
def ansL:Option (List Rc)→List Rc
 | none=>[]
 | some t=>t
def ansE:Option (List Rc)→Int
 | none=>110
 | some _=>0
def rnE (t:List Rc):Int:=if mayTab t then 0 else 110
def rnL (t:List Rc):List Txt:=if mayTab t then t.map recT else []
theorem okB_sz8R:okB sz8R=true:=by decide
theorem at_sz8R:atTo sz8R 8=14:=by decide
theorem recT_eq (r:Rc):recT r=[1,r.p % 256] ++ (digs 4 r.b ++ (digs 4 r.e ++ [r.l % 256,r.h % 256,r.f % 256,flagR r % 256])):=by
 have h:recT r=((((((([] ++ digs 1 1) ++ digs 1 r.p) ++ digs 4 r.b) ++ digs 4 r.e) ++ digs 1 r.l) ++ digs 1 r.h) ++ digs 1 r.f) ++ digs 1 (flagR r):=rfl
 rw [h]
 simp [digs]
theorem recT_length (r:Rc):(recT r).length=14:=by rw [recT_eq];simp [digs_length]
theorem recT_byte (r:Rc):∀ z ∈ recT r,isByte z:=rowTo_byte _ _ _
theorem flagR_le (r:Rc):0≤flagR r∧flagR r≤3:=by unfold flagR;split <;> split <;> omega
theorem val_of4 {v:Int} (h:0≤v∧v < 4294967296):val (digs 4 v)=v:=val_digs _ _ h.1 (Int.ediv_eq_zero_of_lt h.1 (by rw [show (256:Int) ^ 4=4294967296 by decide];exact h.2))
theorem fits8R {r:Rc} (hi:isR r) (hm:mayR r):fitsTo (numsR r) sz8R 8=true:=by
 obtain ⟨hb,he,hh⟩:=hi
 obtain ⟨⟨m1,m2,m3,m4,m5,m6,m7,m8⟩,_⟩:=hm
 have hfl:=flagR_le r
 have d1:r.p / 256 ^ 1=0:=Int.ediv_eq_zero_of_lt m1 (by omega)
 have d2:r.b / 256 ^ 4=0:=Int.ediv_eq_zero_of_lt hb.1 (by rw [show (256:Int) ^ 4=4294967296 by decide];exact hb.2)
 have d3:r.e / 256 ^ 4=0:=Int.ediv_eq_zero_of_lt he.1 (by rw [show (256:Int) ^ 4=4294967296 by decide];exact he.2)
 have d4:r.l / 256 ^ 1=0:=Int.ediv_eq_zero_of_lt m5 (by omega)
 have d5:r.h / 256 ^ 1=0:=Int.ediv_eq_zero_of_lt hh.1 (by omega)
 have d6:r.f / 256 ^ 1=0:=Int.ediv_eq_zero_of_lt m7 (by omega)
 have d7:flagR r / 256 ^ 1=0:=Int.ediv_eq_zero_of_lt hfl.1 (by omega)
 show ((((((((true && decide ((1:Int) / 256 ^ 1=0)) && decide (r.p / 256 ^ 1=0)) && decide (r.b / 256 ^ 4=0)) && decide (r.e / 256 ^ 4=0)) && decide (r.l / 256 ^ 1=0)) && decide (r.h / 256 ^ 1=0)) && decide (r.f / 256 ^ 1=0)) && decide (flagR r / 256 ^ 1=0))=true
 rw [d1,d2,d3,d4,d5,d6,d7]
 decide
theorem raw_recT {r:Rc} (hi:isR r) (hm:mayR r):rawR (recT r)=r∧isN (recT r):=by
 obtain ⟨hb,he,hh⟩:=hi
 have hm':=hm
 obtain ⟨⟨m1,m2,m3,m4,m5,m6,m7,m8⟩,_⟩:=hm
 have hfl:=flagR_le r
 have l4:∀ v:Int,(digs 4 v).length=4:=fun v=>digs_length _ _
 have hT:=recT_eq r
 obtain ⟨x,hx⟩:∃ x,x=digs 4 r.b:=⟨_,rfl⟩
 obtain ⟨y,hy⟩:∃ y,y=digs 4 r.e:=⟨_,rfl⟩
 have lx:x.length=4:=by rw [hx];exact l4 _
 have ly:y.length=4:=by rw [hy];exact l4 _
 have vx:val x=r.b:=by rw [hx];exact val_of4 hb
 have vy:val y=r.e:=by rw [hy];exact val_of4 he
 rw [← hx,← hy] at hT
 match x,lx with
 | [x0,x1,x2,x3],_ =>
  match y,ly with
  | [y0,y1,y2,y3],_ =>
   have hr:rawR (recT r)=r:=by
    rw [hT]
    rw [Rc.eq_iff]
    refine ⟨?_,vx,vy,?_,?_,?_,?_,?_⟩
    ·show r.p % 256=r.p;omega
    ·show r.l % 256=r.l;omega
    ·show r.h % 256=r.h;omega
    ·show r.f % 256=r.f;omega
    ·show decide (2≤flagR r % 256)=r.q
     unfold flagR
     cases r.q <;> cases r.a <;> decide
    ·show decide (flagR r % 256 % 2=1)=r.a
     unfold flagR
     cases r.q <;> cases r.a <;> decide
   refine ⟨hr,recT_length r,?_,?_,by rw [hr];exact hm'⟩
   ·rw [hT];rfl
   ·rw [hT]
    show flagR r % 256≤3
    omega
theorem not_go {b:Txt} (h:isN b):¬ isGo b:=fun k=>by have:=h.1;have:=k.1;omega
theorem raw_is {t:Txt} (ht:t.length=14) (hb:∀ z ∈ t,isByte z):isR (rawR t):=by
 have h1:=val_bounds ((t.drop 2).take 4) fun z hz=>hb z (List.mem_of_mem_drop (List.mem_of_mem_take hz))
 have h2:=val_bounds ((t.drop 6).take 4) fun z hz=>hb z (List.mem_of_mem_drop (List.mem_of_mem_take hz))
 rw [List.length_take,List.length_drop,ht] at h1 h2
 have p1:(256:Int) ^ (min 4 (14 - 2))=4294967296:=by decide
 have p2:(256:Int) ^ (min 4 (14 - 6))=4294967296:=by decide
 rw [p1] at h1
 rw [p2] at h2
 have h3:isByte (t.getD 11 0):=by
  rw [gtD,geE (show 11 < t.length by omega)]
  exact hb _ (List.getElem_mem _)
 exact ⟨h1,h2,h3⟩
abbrev fR (t:List Rc) (p:Int):Option Rc:=t.find? fun s=>s.p == p
theorem mayTab_iff (t:List Rc):mayTab t↔(∀ r ∈ t,mayR r)∧t.Pairwise fun r s=>r.p < s.p:=by
 induction t with
 | nil=>simp [mayTab]
 | cons r t ih =>
  cases t with
  | nil=>simp [mayTab]
  | cons s l =>
   show (mayR r∧r.p < s.p∧mayTab (s :: l))↔_
   rw [ih,List.pairwise_cons (a:=r)]
   constructor
   ·rintro ⟨h1,h2,h3,h4⟩
    refine ⟨fun x hx=>?_,fun x hx=>?_,h4⟩
    ·rcases List.mem_cons.1 hx with rfl | hx
     ·exact h1
     ·exact h3 x hx
    ·rcases List.mem_cons.1 hx with rfl | hx
     ·exact h2
     ·have:=(List.pairwise_cons.1 h4).1 x hx
      omega
   ·rintro ⟨h1,h2,h3⟩
    exact ⟨h1 r (List.mem_cons_self ..),h2 s (List.mem_cons_self ..),fun x hx=>h1 x (List.mem_cons_of_mem _ hx),h3⟩
theorem fR_some {t:List Rc} {p:Int} {r:Rc} (h:fR t p=some r):r ∈ t∧r.p=p:=⟨List.mem_of_find?_eq_some h,by simpa using List.find?_some h⟩
theorem tab_ext {t s:List Rc} (ht:t.Pairwise fun r s=>r.p < s.p) (hs:s.Pairwise fun r s=>r.p < s.p) (h:∀ p,fR t p=fR s p):t=s:=by
 induction t generalizing s with
 | nil =>
  cases s with
  | nil=>rfl
  | cons u s =>
   have:=h u.p
   simp at this
 | cons r t ih =>
  cases s with
  | nil =>
   have:=h r.p
   simp at this
  | cons u s =>
   obtain ⟨t1,t2⟩:=List.pairwise_cons.1 ht
   obtain ⟨s1,s2⟩:=List.pairwise_cons.1 hs
   have e1:fR (r :: t) r.p=some r:=by simp
   have e2:fR (u :: s) u.p=some u:=by simp
   have hp:r.p=u.p:=by
    rw [h] at e1
    rw [← h] at e2
    rcases List.mem_cons.1 (fR_some e1).1 with k | k
    ·rw [k]
    ·rcases List.mem_cons.1 (fR_some e2).1 with k' | k'
     ·rw [k']
     ·have a:=s1 _ k
      have b:=t1 _ k'
      omega
   have hru:r=u:=by
    have:=h r.p
    rw [e1,hp,e2] at this
    injection this
   subst hru
   congr 1
   refine ih t2 s2 fun p=>?_
   by_cases hpp:p=r.p
   ·have n1:fR t p=none:=List.find?_eq_none.2 fun x hx=>by have:=t1 x hx;simp;omega
    have n2:fR s p=none:=List.find?_eq_none.2 fun x hx=>by have:=s1 x hx;simp;omega
    rw [n1,n2]
   ·have:=h p
    simpa [Ne.symm hpp] using this
def ofF (g:Int→Option Rc):List Rc:=(g 0).toList ++ ((g 1).toList ++ (g 2).toList)
def good (g:Int→Option Rc):Prop:=∀ p r,g p=some r→r.p=p∧mayR r
theorem ofF_may {g:Int→Option Rc} (hg:good g):mayTab (ofF g):=by
 have h0:=hg 0
 have h1:=hg 1
 have h2:=hg 2
 unfold ofF
 cases e0:g 0 <;> cases e1:g 1 <;> cases e2:g 2 <;> simp [e0,e1,e2] at h0 h1 h2 <;> simp [mayTab,h0,h1,h2]
theorem ofF_find {g:Int→Option Rc} (hg:good g) (p:Int):fR (ofF g) p=g p:=by
 have h0:=hg 0
 have h1:=hg 1
 have h2:=hg 2
 by_cases k:p=0∨p=1∨p=2
 ·unfold ofF fR
  rcases k with rfl | rfl | rfl <;> cases e0:g 0 <;> cases e1:g 1 <;> cases e2:g 2 <;> simp [e0,e1,e2] at h0 h1 h2 <;> simp [h0,h1,h2]
 ·have hn:g p=none:=by
   cases e:g p with
   | none=>rfl
   | some r =>
    obtain ⟨a,b⟩:=hg p r e
    obtain ⟨⟨b1,b2,_⟩,_⟩:=b
    omega
  rw [hn]
  refine List.find?_eq_none.2 fun x hx=>?_
  have hx':x.p=0∨x.p=1∨x.p=2:=by
   unfold ofF at hx
   rcases List.mem_append.1 hx with hx | hx
   ·exact .inl (h0 x (by simpa using hx)).1
   ·rcases List.mem_append.1 hx with hx | hx
    ·exact .inr (.inl (h1 x (by simpa using hx)).1)
    ·exact .inr (.inr (h2 x (by simpa using hx)).1)
  simp
  omega
theorem find_good {t:List Rc} (ht:mayTab t):good (fR t):=fun p r h=>⟨(fR_some h).2,((mayTab_iff t).1 ht).1 r (fR_some h).1⟩
theorem with_is (t:List Rc) (r:Rc):withR t r=ofF fun p=>if p=r.p then some r else fR t p:=by
 have h:∀ p,atR t r p=(if p=r.p then some r else fR t p).toList:=fun p=>by unfold atR;split <;> rfl
 unfold withR ofF
 rw [h,h,h]
theorem with_good {t:List Rc} (ht:mayTab t) {r:Rc} (hr:mayR r):good fun p=>if p=r.p then some r else fR t p:=fun p s h=>by
 dsimp only at h
 split at h
 ·injection h with h
  subst h
  exact ⟨by omega,hr⟩
 ·exact find_good ht p s h
theorem with_may {t:List Rc} (ht:mayTab t) {r:Rc} (hr:mayR r):mayTab (withR t r):=by rw [with_is];exact ofF_may (with_good ht hr)
theorem with_find {t:List Rc} (ht:mayTab t) {r:Rc} (hr:mayR r) (p:Int):fR (withR t r) p=if p=r.p then some r else fR t p:=by rw [with_is];exact ofF_find (with_good ht hr) p
theorem out_may {t:List Rc} (ht:mayTab t) (p:Int):mayTab (outR t p):=by
 rw [mayTab_iff] at ht ⊢
 exact ⟨fun r hr=>ht.1 r ((List.mem_filter.1 hr).1),ht.2.filter _⟩
theorem out_find (t:List Rc) (p k:Int):fR (outR t p) k=if k=p then none else fR t k:=by
 unfold outR fR
 rw [List.find?_filter]
 split
 ·rename_i h
  subst h
  refine List.find?_eq_none.2 fun x _=>?_
  simp
 ·rename_i h
  congr 1
  funext x
  by_cases hx:x.p=k
  ·simp [hx,h]
  ·simp [hx]
theorem with_snoc {t:List Rc} {r:Rc} (h:mayTab (t ++ [r])):withR t r=t ++ [r]:=by
 have h':=(mayTab_iff _).1 h
 obtain ⟨h1,h2⟩:=h'
 obtain ⟨p1,p2,p3⟩:=List.pairwise_append.1 h2
 have ht:mayTab t:=(mayTab_iff _).2 ⟨fun x hx=>h1 x (List.mem_append_left _ hx),p1⟩
 have hr:mayR r:=h1 r (List.mem_append_right _ (List.mem_singleton.2 rfl))
 refine tab_ext ((mayTab_iff _).1 (with_may ht hr)).2 h2 fun p=>?_
 rw [with_find ht hr]
 unfold fR
 rw [List.find?_append]
 split
 ·rename_i e
  subst e
  have n1:t.find? (fun s=>s.p == r.p)=none:=List.find?_eq_none.2 fun x hx=>by
   have:=p3 x hx r (List.mem_singleton.2 rfl)
   simp
   omega
  rw [n1]
  simp
 ·rename_i e
  have n2:[r].find? (fun s=>s.p == p)=none:=by simp [Ne.symm e]
  rw [n2,Option.or_none]
theorem put_may {t x:List Rc} {b:Txt} (h:putR t b=some x):mayTab t∧mayTab x:=by
 unfold putR at h
 split at h
 ·rename_i ht
  refine ⟨ht,?_⟩
  unfold putN at h
  split at h
  ·injection h with h
   subst h
   exact out_may ht _
  ·split at h
   ·rename_i hn
    injection h with h
    subst h
    exact with_may ht hn.2.2.2
   ·cases h
 ·cases h
theorem tabTo_app (t:List Rc) (l m:List Txt):tabTo t (l ++ m)=(tabTo t l).bind fun x=>tabTo x m:=by
 induction l generalizing t with
 | nil=>rfl
 | cons b l ih =>
  show (putR t b).bind _=((putR t b).bind _).bind _
  cases putR t b with
  | none=>rfl
  | some x=>exact ih x
def allR (t:List Rc):Prop:=∀ r ∈ t,isR r
theorem tabTo_may {t x:List Rc} {l:List Txt} (ht:mayTab t) (h:tabTo t l=some x):mayTab x:=by
 induction l generalizing t with
 | nil=>injection h with h;subst h;exact ht
 | cons b l ih =>
  have h':(putR t b).bind (fun x=>tabTo x l)=some x:=h
  cases hp:putR t b with
  | none=>rw [hp] at h';cases h'
  | some y =>
   rw [hp] at h'
   exact ih (put_may hp).2 h'
end Go.Proofs.YtifgcfepbenpjaaGreat
namespace Go.Proofs.YtifgcfepbenpjaaGreat
structure Mt where
 s:Sup
 n:Int
 u:Int
 t:List Rc
def zM:Mt:=⟨(0,0,0),0,0,[]⟩
def nextM (m:Mt):Int:=65536 * m.s.1 + m.u + 1
def mayM (P T A M W Q:Int) (m:Mt):Prop:=mayC P T A M W Q∧arS m.s.2.1∧(0≤m.n∧m.n≤A)∧(0≤m.u∧m.u≤65535)∧mayTab m.t
instance (P T A M W Q:Int) (m:Mt):Decidable (mayM P T A M W Q m):=by unfold mayM;infer_instance
def kmE (P T A M W Q:Int) (m:Mt):Int:=if mayM P T A M W Q m then 0 else 8
abbrev Ac:=Int × Int × Txt
def wrA (l:List Pnd):List Ac:=l.map fun p=>(1,p.1,p.2)
def actsA (l:List Pnd):List Ac:=wrA l ++ [(2,0,[])]
def anewS (m:Mt):Sup:=(m.s.1,1 - m.s.2.1,nextM m)
def rowsT (g:Int) (t:List Rc):List Txt:=(List.range t.length).map fun k:Nat=>jT g (k:Int) (recT (t.getD k zR))
def rowsP (A a g:Int) (t:List Rc):List Pnd:=writesP (2 + a * A) (rowsT g t) t.length
def begT (g:Int) (t:Txt):Prop:=t.getD 8 0=1∧val (t.take 8)=g
theorem ans_zero {x:Option (List Rc)} (h:ansE x=0):∃ t,x=some t:=by
 cases x with
 | none=>cases h
 | some t=>exact ⟨t,rfl⟩
section
variable {P T A M W Q:Int} {S S':List Sec} {C C':List Pnd}
end
end Go.Proofs.YtifgcfepbenpjaaGreat
namespace Go.Proofs.YtifgcfepbenpjaaGreat
open Go.RowKit
structure TBox (w:World) (G:Nat) (P T A M W Q:Int) (D:Option Addr) (n c:Nat) (D':Option Addr) (n' c':Nat) (S:List Sec) (C:List Pnd):Prop where
 cfg:Blk w G 36 [.int .i64 P,.int .i64 T,.int .i64 A,.int .i64 M,.int .i64 W,.int .i64 Q]
 dsk:DBox w (G + 1) D n c D' n' c' S C
section
variable {w w':World} {G:Nat} {P T A M W Q:Int} {D D':Option Addr} {n c n' c':Nat} {S:List Sec} {C:List Pnd}
theorem TBox.below (x:TBox w G P T A M W Q D n c D' n' c' S C) (hb:Below w.heap.size w w'):TBox w' G P T A M W Q D n c D' n' c' S C:=⟨x.cfg.below hb x.cfg.lt,x.dsk.below hb⟩
theorem TBox.new (P T A M W Q:Int) (t:Dsk w D n c D' n' c' S C) :
  TBox ((w.alloc (.cells #[.int .i64 P,.int .i64 T,.int .i64 A,.int .i64 M,.int .i64 W,.int .i64 Q] 36)).alloc (.cells #[.slice D n c,.slice D' n' c'] 25)) w.heap.size P T A M W Q D n c D' n' c' S C ∧
  Below w.heap.size w ((w.alloc (.cells #[.int .i64 P,.int .i64 T,.int .i64 A,.int .i64 M,.int .i64 W,.int .i64 Q] 36)).alloc (.cells #[.slice D n c,.slice D' n' c'] 25)):=by
 obtain ⟨x,hb⟩:=box_cfg w P T A M W Q
 have y:=DBox.new (t.below hb)
 rw [World.size_alloc] at y
 exact ⟨⟨x.grown (World.grownBy_alloc _ _ none) (by simp),y⟩,hb.alloc hb.size _⟩
theorem TBox.cells (x:TBox w G P T A M W Q D n c D' n' c' S C):w.cell? ⟨G,0,none⟩=some (.int .i64 P)∧w.cell? ⟨G,1,none⟩=some (.int .i64 T)∧w.cell? ⟨G,2,none⟩=some (.int .i64 A)∧w.cell? ⟨G,3,none⟩=some (.int .i64 M)∧w.cell? ⟨G,4,none⟩=some (.int .i64 W)∧w.cell? ⟨G,5,none⟩=some (.int .i64 Q) ∧
  w.cell? ⟨G + 1,0,none⟩=some (.slice D n c)∧w.cell? ⟨G + 1,1,none⟩=some (.slice D' n' c') :=
 ⟨x.cfg.cell 0,x.cfg.cell 1,x.cfg.cell 2,x.cfg.cell 3,x.cfg.cell 4,x.cfg.cell 5,x.dsk.cells.1,x.dsk.cells.2⟩
end
theorem tcheck_any (P T A M W Q:Int) (D:Option Addr) (n c:Nat) (D':Option Addr) (n' c':Nat) (S:List Sec) (C:List Pnd) (w:World) (hq:Dsk w D n c D' n' c' S C) (hs:SmallD S C) :
  Calls Tryz.prog 66 #[cfgV P T A M W Q,diskV D n c D' n' c'] w fun e w'=>e=.returned (.int .i64 (tcE P T A M W Q S C))∧Below w.heap.size w w':=by
 obtain ⟨x,hbel⟩:=TBox.new P T A M W Q hq
 obtain ⟨w1,hw1⟩:∃ x:World,x=(w.alloc (.cells #[.int .i64 P,.int .i64 T,.int .i64 A,.int .i64 M,.int .i64 W,.int .i64 Q] 36)).alloc (.cells #[.slice D n c,.slice D' n' c'] 25):=⟨_,rfl⟩
 rw [← hw1] at x hbel
 have X:=Lh x
 have B:=Lh hbel
 have PS:=Lh (fun w':World=>psectors_any P T A M W Q w')
 have CK:=Lh (fun wx hx=>dsk_does.check D n c D' n' c' S C wx hx hs)
 have hsl:=hq.secs.len
 obtain ⟨c0,c1,c2,c3,c4,c5,d0,d1⟩:=x.cells
 clear hq hs x hbel
 unfold tcE
 by_cases h1:mayC P T A M W Q
 ·rw [show secN P T A M W Q=fE P T A from if_pos h1,show chkC P T A M W Q=0 from if_pos h1] at PS
  obtain ⟨m,hm⟩:∃ m,m=fE P T A:=⟨_,rfl⟩
  rw [← hm] at PS
  by_cases h2:mayD S C=true
  ·rw [show chkD S C=0 from if_pos h2] at CK
   by_cases h3:(n:Int)=m
   ·rw [if_pos (show mayT P T A M W Q S C from ⟨h1,h2,by rw [hsl,← hm];exact h3⟩)]
    have h4:((n:Int) == m)=true:=beq_iff_eq.2 h3
    have h5:((n:Int) != m)=false:=by rw [h3];exact bne_self_eq_false _
    clear h1 h2 h3 hm hsl
    go_enter Tryz.func66,Tryz.ntmps66
    go_wp2_with fail
    rw [← hw1]
    clear hw1
    refine (PS.out _).mono ?_
    rintro e w2 ⟨rfl,hb⟩
    have B:=Lh (B.out.trans (hb.mono B.out.size))
    have X:=Lh (X.out.below hb)
    clear hb c0 c1 c2 c3 c4 c5 d0 d1
    obtain ⟨c0,c1,c2,c3,c4,c5,d0,d1⟩:=X.out.cells
    go_wp2_with fail
    refine (CK.out _ X.out.dsk.dsk).mono ?_
    rintro e w3 ⟨rfl,hb⟩
    have B:=Lh (B.out.trans (hb.mono B.out.size))
    have X:=Lh (X.out.below hb)
    clear hb c0 c1 c2 c3 c4 c5 d0 d1
    obtain ⟨c0,c1,c2,c3,c4,c5,d0,d1⟩:=X.out.cells
    go_wp2
    go_ret
    exact ⟨rfl,B.out⟩
   ·rw [if_neg (fun h:mayT P T A M W Q S C=>h3 (by rw [← hsl,hm];exact h.2.2))]
    have h4:((n:Int) == m)=false:=beq_eq_false_iff_ne.2 h3
    have h5:((n:Int) != m)=true:=bne_iff_ne.2 h3
    clear h1 h2 h3 hm hsl
    go_enter Tryz.func66,Tryz.ntmps66
    go_wp2_with fail
    rw [← hw1]
    clear hw1
    refine (PS.out _).mono ?_
    rintro e w2 ⟨rfl,hb⟩
    have B:=Lh (B.out.trans (hb.mono B.out.size))
    have X:=Lh (X.out.below hb)
    clear hb c0 c1 c2 c3 c4 c5 d0 d1
    obtain ⟨c0,c1,c2,c3,c4,c5,d0,d1⟩:=X.out.cells
    go_wp2_with fail
    refine (CK.out _ X.out.dsk.dsk).mono ?_
    rintro e w3 ⟨rfl,hb⟩
    have B:=Lh (B.out.trans (hb.mono B.out.size))
    have X:=Lh (X.out.below hb)
    clear hb c0 c1 c2 c3 c4 c5 d0 d1
    obtain ⟨c0,c1,c2,c3,c4,c5,d0,d1⟩:=X.out.cells
    go_wp2
    go_ret
    exact ⟨rfl,B.out⟩
  ·rw [show chkD S C=8 from if_neg h2] at CK
   rw [if_neg (fun h:mayT P T A M W Q S C=>h2 h.2.1)]
   clear h1 h2 hm hsl
   go_enter Tryz.func66,Tryz.ntmps66
   go_wp2_with fail
   rw [← hw1]
   clear hw1
   refine (PS.out _).mono ?_
   rintro e w2 ⟨rfl,hb⟩
   have B:=Lh (B.out.trans (hb.mono B.out.size))
   have X:=Lh (X.out.below hb)
   clear hb c0 c1 c2 c3 c4 c5 d0 d1
   obtain ⟨c0,c1,c2,c3,c4,c5,d0,d1⟩:=X.out.cells
   go_wp2_with fail
   refine (CK.out _ X.out.dsk.dsk).mono ?_
   rintro e w3 ⟨rfl,hb⟩
   have B:=Lh (B.out.trans (hb.mono B.out.size))
   clear hb c0 c1 c2 c3 c4 c5 d0 d1
   go_wp2
   go_ret
   exact ⟨rfl,B.out⟩
 ·rw [show chkC P T A M W Q=8 from if_neg h1] at PS
  rw [if_neg (fun h:mayT P T A M W Q S C=>h1 h.1)]
  obtain ⟨m,hm⟩:∃ m,m=secN P T A M W Q:=⟨_,rfl⟩
  rw [← hm] at PS
  clear h1 hm hsl
  go_enter Tryz.func66,Tryz.ntmps66
  go_wp2_with fail
  rw [← hw1]
  clear hw1
  refine (PS.out _).mono ?_
  rintro e w2 ⟨rfl,hb⟩
  have B:=Lh (B.out.trans (hb.mono B.out.size))
  clear hb c0 c1 c2 c3 c4 c5 d0 d1
  go_wp2
  go_ret
  exact ⟨rfl,B.out⟩
theorem run_append_made {P:Program} (w:World) (t tx ty e:TypeId) (i:TypeInfo) (z:Value) (ht:P.underlying t=some (.slice e)) (htx:P.underlying tx=some (.int .i64)) (hi:P.info? e=some i) (hz:i.zero=some z) (base:Option Addr) (sLen sCap:Nat) (olds:List Value)
  (hold:(Builtin.firstCells i.size sLen (.slice base sLen sCap)).run P w.drew=.ok olds.toArray w.drew) (n:Nat) (hn0:0 < n) (hs0:0 < i.size) (hsz:n≤1000) (hb:i.bytes≤1000)
  (hg:sCap < sLen + n) (h63:((sLen + n:Nat):Int)≤9223372036854775807) (hfit:Builtin.nextslicecap (sLen + n) sCap * i.bytes≤281474976710656) :
  (Builtin.append_ #[t,tx] ty #[.slice base sLen sCap,.int .i64 (n:Int)]).run P w =
   .ok (.slice (some ⟨w.heap.size,0,none⟩) (sLen + n) (grownCap w (sLen + n) sCap e))
    (w.drew.alloc (.cells (olds.toArray ++ Builtin.zeroCells z.cells n ++ Builtin.zeroCells z.cells (grownCap w (sLen + n) sCap e - (sLen + n))) e)):=by
 have hn:¬ (sLen + n≤sCap):=by omega
 have h63':¬ (9223372036854775807 < ((sLen:Int) + (n:Int))):=by omega
 have h48':¬ (281474976710656 < Builtin.nextslicecap (sLen + n) sCap * i.bytes):=by omega
 have hw:IntKind.i64.wrap (n:Int)=(n:Int):=Lib.wrap_i64_small n (by omega)
 have hnn:¬ ((n:Int) < 0):=by omega
 have hmul:¬ ((281474976710656:Int) < (n:Int) * (i.bytes:Int)):=by
  have h1:n * i.bytes≤1000 * 1000:=Nat.mul_le_mul hsz hb
  have h2:((n * i.bytes:Nat):Int)=(n:Int) * (i.bytes:Int):=Int.natCast_mul n i.bytes
  omega
 have hne:n≠0:=by omega
 have hse:i.size≠0:=by omega
 simp [Builtin.append_,run_underlying ht,run_underlying htx,sizeOf,typeInfo,zeroValue,hi,hz,hn,h63',h48',Question.forced,hold,newRow,grownCap,hw,hnn,hmul,asInt,asIntOf]
 intro h
 exact absurd h (Nat.mul_ne_zero hne hse)
end Go.Proofs.YtifgcfepbenpjaaGreat
namespace Go.Proofs.YtifgcfepbenpjaaGreat
instance (g:Int) (x:Txt):Decidable (begT g x):=by unfold begT;infer_instance
def strB (A:Int) (S:List Sec) (C:List Pnd) (m:Mt) (a k:Int):Bool :=
 match optAt S C (2 + a * A + k) with
 | some x=>decide (begT m.s.2.2 x) || decide (begT (nextM m) x)
 | none=>false
def okS (A:Int) (S:List Sec) (C:List Pnd) (m:Mt) (a k:Int):Bool:=decide (a=m.s.2.1∧k < m.n) || !strB A S C m a k
def fineB (A:Int) (S:List Sec) (C:List Pnd) (m:Mt):Bool:=(List.range 2).all fun a=>(List.range A.toNat).all fun k=>okS A S C m (a:Int) (k:Int)
section
variable {A:Int} {S:List Sec} {C:List Pnd} {m:Mt}
theorem fineB_true (h:∀ a k:Nat,a < 2→(k:Int) < A→okS A S C m (a:Int) (k:Int)=true):fineB A S C m=true:=by
 unfold fineB
 rw [List.all_eq_true]
 intro a ha
 rw [List.all_eq_true]
 intro k hk
 have h1:=List.mem_range.1 ha
 have h2:=List.mem_range.1 hk
 exact h a k h1 (by omega)
theorem fineB_false {a k:Nat} (ha:a < 2) (hk:(k:Int) < A) (h:okS A S C m (a:Int) (k:Int)=false):fineB A S C m=false:=by
 cases hf:fineB A S C m with
 | false=>rfl
 | true =>
  unfold fineB at hf
  rw [List.all_eq_true] at hf
  have h1:=hf a (List.mem_range.2 ha)
  rw [List.all_eq_true] at h1
  have h2:=h1 k (List.mem_range.2 (by omega))
  rw [h] at h2
  cases h2
end
end Go.Proofs.YtifgcfepbenpjaaGreat
