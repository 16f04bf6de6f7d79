/- Texts of layers 1 to 12, joined. -/
import Derived.Test.YtifgcfepbenpjaaGreatNb3
import Derived.Test.YtifgcfepbenpjaaGreatNb13
import Derived.Deep.RegionHeld3
import Derived.Deep.Cut
set_option maxRecDepth 100000
set_option maxHeartbeats 12800000
set_option linter.unusedVariables false
namespace Go.Proofs.YtifgcfepbenpjaaGreat
theorem partT_parts (v n:Int) (b:Txt):partT v n b=digs 4 v ++ ([n % 256,(b.length:Int) % 256,0,0] ++ (b ++ List.replicate (24 - b.length) 0)):=by
 unfold partT
 rw [rowT_eq]
 simp only [List.append_assoc]
theorem ver_part {v:Int} (n:Int) (b:Txt) (hv:0≤v∧v < 4294967296):verOf (partT v n b)=v:=by
 unfold verOf
 rw [partT_parts,List.take_append_of_le_length (by rw [digs_length];decide),List.take_of_length_le (by rw [digs_length];decide)]
 exact val_digs 4 v hv.1 (Int.ediv_eq_zero_of_lt hv.1 (by rw [show (256:Int) ^ 4=4294967296 by decide];exact hv.2))
theorem many_part (v n:Int) {b:Txt} (hb:b.length≤24):manyOf (partT v n b)=b.length:=by
 unfold manyOf
 rw [partT_parts,gtD,List.getElem?_append_right (by rw [digs_length];decide),digs_length]
 show ((b.length:Int) % 256)=_
 omega
theorem bytes_part (v n:Int) {b:Txt} (hb:b.length≤24):partB (partT v n b)=b:=by
 unfold partB
 rw [many_part v n hb,Int.toNat_natCast,partT_parts,List.drop_append,digs_length,List.drop_of_length_le (by rw [digs_length];decide),List.nil_append]
 show (b ++ List.replicate (24 - b.length) 0).take b.length=b
 rw [List.take_append_of_le_length (Nat.le_refl _),List.take_of_length_le (Nat.le_refl _)]
theorem partO_part {v:Int} (hv:0 < v∧v < 4294967296) (n:Nat) {b:Txt} (hb:b.length≤24):partO n (some (partT v n b))=some (v,b):=by
 have h1:=ver_part (v:=v) n b ⟨by omega,hv.2⟩
 have h2:=many_part v n hb
 have h3:=bytes_part v n hb
 have h:partOk n (partT v n b)=true:=by
  simp only [partOk,Bool.and_eq_true,decide_eq_true_eq]
  rw [h1,h2,h3]
  exact ⟨⟨by omega,by omega⟩,rfl⟩
 unfold partO
 dsimp only
 rw [if_pos h,h1,h3]
theorem chunk_len (b:Txt) (k:Nat):(chunk b k).length=min 24 (b.length - 24 * k):=by
 unfold chunk
 rw [List.length_take,List.length_drop]
theorem range_get {α:Type} (f:Nat→α) (d:α) {n k:Nat} (h:k < n):((List.range n).map f).getD k d=f k:=by
 rw [gtD,geE (by simpa using h)]
 simp
theorem held_new {l:List (Option Txt)} {v:Int} {b:Txt} {m:Nat} (hv:0 < v∧v < 4294967296) (hl:∀ i,i < m→l.getD i none=some (partT v i (chunk b i))):∀ k,k≤m→heldTo l k=some ((List.range k).map fun i=>(v,chunk b i)):=by
 intro k
 induction k with
 | zero=>intro _;rfl
 | succ k ih =>
  intro hk
  have h1:=ih (by omega)
  have h2:=partO_part hv k (b:=chunk b k) (by rw [chunk_len];omega)
  rw [← hl k (by omega)] at h2
  rw [heldTo_succ h1 h2 ?_,List.range_succ,List.map_append]
  ·rfl
  ·by_cases h0:k=0
   ·exact .inl h0
   ·refine .inr ?_
    rw [range_get (fun i=>((v,chunk b i):Prt)) _ (by omega)]
    refine ⟨rfl,?_⟩
    show (chunk b k).length=0∨24≤(chunk b (k - 1)).length
    rw [chunk_len,chunk_len]
    omega
theorem join_new (v:Int) (b:Txt) (m:Nat):joinB ((List.range m).map fun i=>((v,chunk b i):Prt))=b.take (24 * m):=by
 induction m with
 | zero=>simp [joinB]
 | succ m ih =>
  rw [List.range_succ,List.map_append]
  show joinB (_ ++ [((v,chunk b m):Prt)])=_
  rw [joinB_snoc,ih,Nat.mul_succ,List.take_add]
  rfl
theorem slot_new {l:List (Option Txt)} {v:Int} {b:Txt} {m:Nat} (hv:0 < v∧v < 4294967296) (hm:1≤m) (hlen:l.length=m) (hb:b.length≤24 * m) (hl:∀ i,i < m→l.getD i none=some (partT v i (chunk b i))):slotV l=v∧slotB l=b:=by
 have h:=held_new hv hl m (Nat.le_refl _)
 unfold slotV slotB
 rw [hlen,h]
 refine ⟨?_,?_⟩
 ·obtain ⟨k,rfl⟩:∃ k,m=k + 1:=⟨m - 1,by omega⟩
  dsimp only
  rw [List.range_succ,List.map_append]
  exact joinV_snoc _ _
 ·dsimp only
  rw [join_new,List.take_of_length_le hb]
theorem held_from {l:List (Option Txt)} {k:Nat} {ps:List Prt} (h:heldTo l k=some ps):∀ p ∈ ps,∃ i T,i < k∧l.getD i none=some T∧p.1=verOf T:=by
 induction k generalizing ps with
 | zero=>injection h with h;subst h;simp
 | succ k ih =>
  rw [heldTo] at h
  rcases h1:heldTo l k with _ | qs
  ·rw [h1] at h;cases h
  ·rw [h1] at h
   dsimp only at h
   rcases h2:partO k (l.getD k none) with _ | p
   ·rw [h2] at h;cases h
   ·rw [h2] at h
    dsimp only at h
    split at h
    ·injection h with h
     subst h
     intro q hq
     rcases List.mem_append.1 hq with hq | hq
     ·obtain ⟨i,T,hi,e1,e2⟩:=ih h1 q hq
      exact ⟨i,T,by omega,e1,e2⟩
     ·rw [List.mem_singleton] at hq
      subst hq
      rcases h3:l.getD k none with _ | T
      ·rw [h3] at h2;cases h2
      ·rw [h3] at h2
       unfold partO at h2
       dsimp only at h2
       split at h2
       ·injection h2 with h2
        subst h2
        exact ⟨k,T,by omega,h3,rfl⟩
       ·cases h2
    ·cases h
theorem joinV_mem {ps:List Prt} (h:ps≠[]):∃ p ∈ ps,joinV ps=p.1:=by
 refine ⟨ps.getLast h,List.getLast_mem h,?_⟩
 have e:=joinV_snoc ps.dropLast (ps.getLast h)
 rwa [List.dropLast_concat_getLast h] at e
theorem slotV_le {l:List (Option Txt)} {c:Int} (hc:0≤c) (h:∀ i T,i < l.length→l.getD i none=some T→verOf T≤c):slotV l≤c:=by
 unfold slotV
 rcases h1:heldTo l l.length with _ | ps
 ·exact hc
 ·dsimp only
  by_cases hp:ps=[]
  ·subst hp;exact hc
  ·obtain ⟨p,hp,e⟩:=joinV_mem hp
   obtain ⟨i,T,hi,e1,e2⟩:=held_from h1 p hp
   rw [e,e2]
   exact h i T hi e1
theorem count_ge {l:List (Option Txt)}:∀ n i T,i < n→l.getD i none=some T→verOf T≤countTo l n:=by
 intro n
 induction n with
 | zero=>intro i T hi;omega
 | succ n ih =>
  intro i T hi h
  rw [countTo]
  rcases Nat.lt_or_ge i n with h1 | h1
  ·have h2:=ih i T h1 h
   rcases h3:l.getD n none with _ | U
   ·exact h2
   ·dsimp only;omega
  ·obtain rfl:i=n:=by omega
   rw [h]
   dsimp only
   omega
theorem count_pos {l:List (Option Txt)}:∀ n,0≤countTo l n:=by
 intro n
 induction n with
 | zero=>exact Int.le_refl 0
 | succ n ih =>
  rw [countTo]
  rcases l.getD n none with _ | U
  ·exact ih
  ·dsimp only;omega
theorem getD_take {α:Type} {l:List α} {d:α} {m i:Nat} (h:i < m):(l.take m).getD i d=l.getD i d:=by
 rw [gtD,gtD,List.getElem?_take_of_lt h]
theorem getD_drop {α:Type} {l:List α} {d:α} {m i:Nat}:(l.drop m).getD i d=l.getD (m + i) d:=by
 rw [gtD,gtD,List.getElem?_drop]
theorem list_eq {α:Type} {l k:List α} {d:α} {n:Nat} (h1:l.length=n) (h2:k.length=n) (h:∀ i,i < n→l.getD i d=k.getD i d):l=k:=by
 apply List.ext_getElem (by rw [h1,h2])
 intro i hi hi2
 have:=h i (by omega)
 rw [gtD,gtD,geE hi,geE hi2] at this
 exact this
theorem slots_le {l:List (Option Txt)} {m:Nat} (hl:l.length=2 * m):slotV (l.take m)≤countTo l (2 * m)∧slotV (l.drop m)≤countTo l (2 * m):=by
 refine ⟨slotV_le (count_pos _) fun i T hi h=>?_,slotV_le (count_pos _) fun i T hi h=>?_⟩
 ·rw [List.length_take] at hi
  rw [getD_take (by omega)] at h
  exact count_ge _ i T (by omega) h
 ·rw [List.length_drop] at hi
  rw [getD_drop] at h
  exact count_ge _ (m + i) T (by omega) h
theorem hV_le {l:List (Option Txt)} {m:Nat} (hl:l.length=2 * m):hV m l≤countTo l (2 * m):=by
 unfold hV
 split
 ·exact (slots_le hl).2
 ·exact (slots_le hl).1
theorem cell_new {l l2:List (Option Txt)} {m f:Nat} {v:Int} {b:Txt} (hm:1≤m) (hl:l.length=2 * m) (hl2:l2.length=2 * m) (hf:(f:Int)=hF m l) (hv:v=countTo l (2 * m) + 1) (hv2:v < 4294967296) (hb:b.length≤24 * m)
  (hnew:∀ i,i < m→l2.getD (f * m + i) none=some (partT v i (chunk b i))) (hold:∀ i,i < 2 * m→(i < f * m∨f * m + m≤i)→l2.getD i none=l.getD i none):hV m l2=v∧hB m l2=b:=by
 have hc:=count_pos (l:=l) (2 * m)
 have hs:=slots_le hl
 have hvv:0 < v∧v < 4294967296:=⟨by omega,hv2⟩
 rcases hF_two m l with h0 | h1
 ·obtain rfl:f=0:=by omega
  obtain ⟨e1,e2⟩:=slot_new (l:=l2.take m) hvv hm (by rw [List.length_take];omega) hb (fun i hi=>by rw [getD_take hi];have:=hnew i hi;rwa [Nat.zero_mul,Nat.zero_add] at this)
  have e3:l2.drop m=l.drop m:=list_eq (d:=none) (n:=m) (by rw [List.length_drop];omega) (by rw [List.length_drop];omega) (fun i hi=>by
   rw [getD_drop,getD_drop]
   exact hold (m + i) (by omega) (.inr (by omega)))
  unfold hV hB
  rw [e1,e2,e3]
  have hno:¬ (v=0∨v < slotV (l.drop m)):=by omega
  rw [if_neg hno,if_neg hno]
  exact ⟨rfl,rfl⟩
 ·obtain rfl:f=1:=by omega
  obtain ⟨e1,e2⟩:=slot_new (l:=l2.drop m) hvv hm (by rw [List.length_drop];omega) hb (fun i hi=>by rw [getD_drop];have:=hnew i hi;rwa [Nat.one_mul] at this)
  have e3:l2.take m=l.take m:=list_eq (d:=none) (n:=m) (by rw [List.length_take];omega) (by rw [List.length_take];omega) (fun i hi=>by
   rw [getD_take hi,getD_take hi]
   exact hold i (by omega) (.inl (by omega)))
  unfold hV hB
  rw [e1,e2,e3]
  have hyes:slotV (l.take m)=0∨slotV (l.take m) < v:=.inr (by omega)
  rw [if_pos hyes,if_pos hyes]
  exact ⟨rfl,rfl⟩
end Go.Proofs.YtifgcfepbenpjaaGreat
namespace Go.Proofs.YtifgcfepbenpjaaGreat
theorem writesP_eq (base:Int) (l:List Txt) (m:Nat):writesP base l m=(List.range m).map fun i:Nat=>((base + (i:Int),l.getD i []):Pnd):=by
 unfold writesP someP
 apply List.map_congr_left
 intro i hi
 rw [if_pos (List.mem_range.1 hi)]
theorem last_writes (C:List Pnd) (base:Int) (l:List Txt) (a:Int):∀ m:Nat,lastW (C ++ (List.range m).map fun i:Nat=>((base + (i:Int),l.getD i []):Pnd)) a=if base≤a∧a < base + (m:Int) then some (l.getD (a - base).toNat []) else lastW C a:=by
 intro m
 induction m with
 | zero=>rw [List.range_zero,List.map_nil,List.append_nil,if_neg (by omega)]
 | succ m ih =>
  rw [List.range_succ,List.map_append,← List.append_assoc]
  show lastW (_ ++ [((base + (m:Int),l.getD m []):Pnd)]) a=_
  rw [lastW_app,ih]
  dsimp only
  by_cases h:base + (m:Int)=a
  ·rw [if_pos h,if_pos (by omega),show (a - base).toNat=m by omega]
  ·rw [if_neg h]
   by_cases h2:base≤a∧a < base + (m:Int)
   ·rw [if_pos h2,if_pos (by omega)]
   ·rw [if_neg h2,if_neg (by omega)]
theorem optAt_may {S:List Sec} {C:List Pnd} (h:mayD S C=true) {a:Int} (h0:0≤a) (h1:a < (S.length:Int)):optAt S C a=match lastW C a with | some t=>some t | none=>(if (secAt S a).1=true then none else some (secAt S a).2):=by
 have ha:askE S C a=0:=by rw [ask_may h,if_neg (by omega)]
 unfold optAt rdB rdE gotB gotOk
 rw [if_pos ha]
 rcases hl:lastW C a with _ | t
 ·rcases hb:(secAt S a).1 with _ | _
  ·simp
  ·simp
 ·simp
theorem optAt_writes {S:List Sec} {C:List Pnd} {base:Int} {l:List Txt} {m:Nat} (h:mayD S C=true) (h':mayD S (C ++ writesP base l m)=true) {a:Int} (h0:0≤a) (h1:a < (S.length:Int)) :
  optAt S (C ++ writesP base l m) a=if base≤a∧a < base + (m:Int) then some (l.getD (a - base).toNat []) else optAt S C a:=by
 rw [optAt_may h' h0 h1,optAt_may h h0 h1,writesP_eq,last_writes]
 by_cases hr:base≤a∧a < base + (m:Int)
 ·rw [if_pos hr,if_pos hr]
 ·rw [if_neg hr,if_neg hr]
theorem ver_opts {S:List Sec} {C:List Pnd} {at_:Int} (hS:∀ s ∈ S,∀ z ∈ s.2,isByte z) (hC:∀ p ∈ C,∀ z ∈ p.2,isByte z) (n:Nat):0≤countTo (optsOf S C at_ n) n∧countTo (optsOf S C at_ n) n < 4294967296 :=
 count_bounds (fun i hi T hT=>by
  rw [optsOf_get S C at_ hi] at hT
  unfold optAt at hT
  split at hT
  ·rename_i h0
   injection hT with hT
   subst hT
   obtain ⟨h32,hbb⟩:=rd_good h0 hS hC
   exact ver_bounds (by omega) hbb
  ·cases hT) _ (Nat.le_refl _)
theorem cwE_zero {S:List Sec} {C:List Pnd} {at_ wd:Int} {b:Txt} (h:cwE S C at_ wd b=0):cpE S C at_ wd b=0∧C.length + (cpL S C at_ wd b).length≤64:=by
 unfold cwE at h
 split at h
 ·rename_i h1
  split at h
  ·cases h
  ·exact ⟨h1,by omega⟩
 ·rename_i h1;exact absurd h h1
theorem back {S:List Sec} {C:List Pnd} {at_ wd:Int} {b:Txt} (h:cwE S C at_ wd b=0) (hb:∀ z ∈ b,isByte z) (hS:∀ s ∈ S,∀ z ∈ s.2,isByte z) (hC:∀ p ∈ C,∀ z ∈ p.2,isByte z) :
  crE S (C ++ cpL S C at_ wd b) at_ wd=0∧crB S (C ++ cpL S C at_ wd b) at_ wd=b∧crV S C at_ wd < crV S (C ++ cpL S C at_ wd b) at_ wd:=by
 obtain ⟨hp,h64⟩:=cwE_zero h
 obtain ⟨hE,h24,_,hfull⟩:=cpE_zero hp
 obtain ⟨hLl,hm1,hm4,hmay,hgood⟩:=cpL_good hp hb
 have hmay':mayD S (C ++ cpL S C at_ wd b)=true:=by
  have:=may_more hmay hgood (Nat.le_refl _) h64
  rwa [List.take_length] at this
 obtain ⟨_,a,m,rfl,rfl,_,_,han⟩:=cellE_zero hE
 rw [Int.toNat_natCast] at hLl hm1 hm4 hfull
 have hE':cellE S (C ++ cpL S C a m b) a m=0:=by
  unfold cellE at hE ⊢
  rw [if_pos hmay']
  rwa [if_pos hmay] at hE
 have hct:=ver_opts (at_:=(a:Int)) hS hC (2 * m)
 obtain ⟨f,hf⟩:∃ f:Nat,(f:Int)=hF m (optsOf S C a (2 * m)):=by
  rcases hF_two m (optsOf S C a (2 * m)) with h | h
  ·exact ⟨0,h.symm⟩
  ·exact ⟨1,h.symm⟩
 have hf1:f≤1:=by
  rcases hF_two m (optsOf S C a (2 * m)) with h | h <;> omega
 have hfm:f * m≤m:=by
  rcases (show f=0∨f=1 by omega) with rfl | rfl
  ·omega
  ·omega
 have hL:cpL S C a m b=writesP ((a:Int) + ((f * m:Nat):Int)) (textsOf (countTo (optsOf S C a (2 * m)) (2 * m) + 1) b m) m:=by
  unfold cpL cpT
  rw [if_pos hp,Int.toNat_natCast,← hf,Int.natCast_mul]
 have hrd:∀ i,i < 2 * m→(optsOf S (C ++ cpL S C a m b) a (2 * m)).getD i none=if f * m≤i∧i < f * m + m then some (partT (countTo (optsOf S C a (2 * m)) (2 * m) + 1) ((i - f * m:Nat):Int) (chunk b (i - f * m))) else (optsOf S C a (2 * m)).getD i none:=by
  intro i hi
  rw [optsOf_get _ _ _ hi,optsOf_get _ _ _ hi]
  rw [hL] at hmay' ⊢
  rw [optAt_writes hmay hmay' (by omega) (by omega)]
  by_cases hr:f * m≤i∧i < f * m + m
  ·rw [if_pos hr,if_pos (by omega),show ((a:Int) + (i:Int) - ((a:Int) + ((f * m:Nat):Int))).toNat=i - f * m by omega,textsOf_get _ _ (by omega)]
  ·rw [if_neg hr,if_neg (by omega)]
 obtain ⟨eV,eB⟩:=cell_new (l:=optsOf S C a (2 * m)) (l2:=optsOf S (C ++ cpL S C a m b) a (2 * m)) (m:=m) (f:=f) (b:=b) hm1 (optsOf_length _ _ _ _) (optsOf_length _ _ _ _) hf rfl (by omega) (by omega)
  (fun i hi=>by
   rw [hrd _ (by omega),if_pos (by omega),show f * m + i - f * m=i by omega])
  (fun i hi ho=>by rw [hrd i hi,if_neg (by omega)])
 have hcr:crE S (C ++ cpL S C a m b) a m=0:=by
  unfold crE
  rw [if_pos hE',Int.toNat_natCast,eV,if_neg (by omega)]
 refine ⟨hcr,?_,?_⟩
 ·unfold crB
  rw [if_pos hcr,Int.toNat_natCast,eB]
 ·have h1:crV S (C ++ cpL S C a m b) a m=countTo (optsOf S C a (2 * m)) (2 * m) + 1:=by
   unfold crV
   rw [if_pos hcr,Int.toNat_natCast,eV]
  rw [h1]
  unfold crV
  split
  ·rw [Int.toNat_natCast]
   have:=hV_le (l:=optsOf S C a (2 * m)) (m:=m) (optsOf_length _ _ _ _)
   omega
  ·omega
end Go.Proofs.YtifgcfepbenpjaaGreat
namespace Go.Proofs.YtifgcfepbenpjaaGreat
theorem joinV_last {ps:List Prt} {k:Nat} (h:ps.length=k + 1):joinV ps=(ps.getD k (0,[])).1:=by
 have hne:ps≠[]:=by intro e;subst e;cases h
 have e:=joinV_snoc ps.dropLast (ps.getLast hne)
 rw [List.dropLast_concat_getLast hne] at e
 rw [e,List.getLast_eq_getElem,gtD,geE (by omega)]
 simp [h]
theorem held_one {l:List (Option Txt)}:∀ (k:Nat) (ps:List Prt),heldTo l k=some ps→∀ i,i < k→∃ T,l.getD i none=some T∧verOf T=joinV ps:=by
 intro k
 induction k with
 | zero=>intro ps _ i hi;omega
 | succ k ih =>
  intro ps h
  have hsm:=heldTo_small h
  rw [heldTo] at h
  rcases h1:heldTo l k with _ | qs
  ·rw [h1] at h;cases h
  ·rw [h1] at h
   dsimp only at h
   rcases h2:partO k (l.getD k none) with _ | p
   ·rw [h2] at h;cases h
   ·rw [h2] at h
    dsimp only at h
    split at h
    ·rename_i hf
     injection h with h
     subst h
     rw [joinV_snoc]
     obtain ⟨T,hT,hv⟩:∃ T,l.getD k none=some T∧verOf T=p.1:=by
      rcases h3:l.getD k none with _ | T
      ·rw [h3] at h2;cases h2
      ·rw [h3] at h2
       unfold partO at h2
       dsimp only at h2
       split at h2
       ·injection h2 with h2
        subst h2
        exact ⟨T,rfl,rfl⟩
       ·cases h2
     intro i hi
     rcases Nat.lt_or_ge i k with hik | hik
     ·obtain ⟨U,hU,hu⟩:=ih qs h1 i hik
      refine ⟨U,hU,?_⟩
      obtain ⟨j,rfl⟩:∃ j,k=j + 1:=⟨k - 1,by omega⟩
      have hl:=(heldTo_small h1).1
      rcases hf with hf | hf
      ·omega
      ·rw [hu,joinV_last hl]
       exact hf.1.symm
     ·obtain rfl:i=k:=by omega
      exact ⟨T,hT,hv⟩
    ·cases h
theorem slotV_pos {l:List (Option Txt)} (h:∀ i T,i < l.length→l.getD i none=some T→0≤verOf T):0≤slotV l:=by
 unfold slotV
 rcases h1:heldTo l l.length with _ | ps
 ·exact Int.le_refl 0
 ·dsimp only
  by_cases hp:ps=[]
  ·subst hp;exact Int.le_refl 0
  ·obtain ⟨p,hp,e⟩:=joinV_mem hp
   obtain ⟨i,T,hi,e1,e2⟩:=held_from h1 p hp
   rw [e,e2]
   exact h i T hi e1
theorem slot_mixed {l l2:List (Option Txt)} {v:Int} {b:Txt} {m:Nat} (hl:l.length=m) (hl2:l2.length=m) (hv:0≤v∧v < 4294967296) (hold:∀ i T,i < m→l.getD i none=some T→verOf T < v)
  (h:∀ i,i < m→l2.getD i none=l.getD i none∨l2.getD i none=some (partT v i (chunk b i))∨l2.getD i none=none) :
  (∀ i,i < m→l2.getD i none=some (partT v i (chunk b i)))∨l2=l∨(slotV l2=0∧slotB l2=[]):=by
 rcases h1:heldTo l2 m with _ | ps
 ·refine .inr (.inr ?_)
  unfold slotV slotB
  rw [hl2,h1]
  exact ⟨rfl,rfl⟩
 ·have hone:=held_one m ps h1
  by_cases hc:joinV ps=v
  ·refine .inl fun i hi=>?_
   obtain ⟨T,hT,hu⟩:=hone i hi
   rcases h i hi with h2 | h2 | h2
   ·have:=hold i T hi (by rw [← h2];exact hT)
    omega
   ·exact h2
   ·rw [h2] at hT;cases hT
  ·refine .inr (.inl (list_eq (d:=none) hl2 hl fun i hi=>?_))
   obtain ⟨T,hT,hu⟩:=hone i hi
   rcases h i hi with h2 | h2 | h2
   ·exact h2
   ·rw [h2] at hT
    injection hT with hT
    subst hT
    rw [ver_part _ _ hv] at hu
    exact absurd hu.symm hc
   ·rw [h2] at hT;cases hT
theorem hF_case {m:Nat} {l:List (Option Txt)}:(hF m l=0→slotV (l.take m)=0∨slotV (l.take m) < slotV (l.drop m))∧(hF m l=1→¬ (slotV (l.take m)=0∨slotV (l.take m) < slotV (l.drop m))):=by
 unfold hF
 by_cases h:slotV (l.take m)=0∨slotV (l.take m) < slotV (l.drop m)
 ·rw [if_pos h]
  exact ⟨fun _=>h,fun e=>absurd e (by decide)⟩
 ·rw [if_neg h]
  exact ⟨fun e=>absurd e (by decide),fun _=>h⟩
theorem cell_mixed {l l2:List (Option Txt)} {m f:Nat} {v:Int} {b:Txt} (hm:1≤m) (hl:l.length=2 * m) (hl2:l2.length=2 * m) (hf:(f:Int)=hF m l) (hv:v=countTo l (2 * m) + 1) (hv2:v < 4294967296) (hb:b.length≤24 * m)
  (hpos:∀ i T,i < 2 * m→l.getD i none=some T→0≤verOf T)
  (hnew:∀ i,i < m→l2.getD (f * m + i) none=l.getD (f * m + i) none∨l2.getD (f * m + i) none=some (partT v i (chunk b i))∨l2.getD (f * m + i) none=none)
  (hold:∀ i,i < 2 * m→(i < f * m∨f * m + m≤i)→l2.getD i none=l.getD i none) :
  (hV m l2=hV m l∧hB m l2=hB m l)∨((∀ i,i < m→l2.getD (f * m + i) none=some (partT v i (chunk b i)))∧hV m l2=v∧hB m l2=b):=by
 have hc:=count_pos (l:=l) (2 * m)
 have hver:∀ i T,i < 2 * m→l.getD i none=some T→verOf T < v:=fun i T hi h=>by
  have:=count_ge (2 * m) i T hi h
  omega
 rcases hF_two m l with h0 | h1
 ·obtain rfl:f=0:=by omega
  have hcase:=hF_case.1 h0
  have hn2:∀ i,i < m→(l2.take m).getD i none=(l.take m).getD i none∨(l2.take m).getD i none=some (partT v i (chunk b i))∨(l2.take m).getD i none=none:=fun i hi=>by
   rw [getD_take hi,getD_take hi]
   have:=hnew i hi
   rwa [Nat.zero_mul,Nat.zero_add] at this
  have e3:l2.drop m=l.drop m:=list_eq (d:=none) (n:=m) (by rw [List.length_drop];omega) (by rw [List.length_drop];omega) (fun i hi=>by
   rw [getD_drop,getD_drop]
   exact hold (m + i) (by omega) (.inr (by omega)))
  rcases slot_mixed (by rw [List.length_take];omega) (by rw [List.length_take];omega) ⟨by omega,hv2⟩ (fun i T hi h=>by rw [getD_take hi] at h;exact hver i T (by omega) h) hn2 with h | h | ⟨h,h'⟩
  ·have hall:∀ i,i < m→l2.getD (0 * m + i) none=some (partT v i (chunk b i)):=fun i hi=>by
    have:=h i hi
    rw [getD_take hi] at this
    rwa [Nat.zero_mul,Nat.zero_add]
   exact .inr ⟨hall,cell_new hm hl hl2 hf hv hv2 hb hall hold⟩
  ·left
   unfold hV hB
   rw [h,e3]
   exact ⟨rfl,rfl⟩
  ·left
   have hz:(0:Int)=0∨(0:Int) < slotV (l.drop m):=.inl rfl
   unfold hV hB
   rw [h,e3,if_pos hz,if_pos hz,if_pos hcase,if_pos hcase]
   exact ⟨rfl,rfl⟩
 ·obtain rfl:f=1:=by omega
  have hcase:=hF_case.2 h1
  have hn2:∀ i,i < m→(l2.drop m).getD i none=(l.drop m).getD i none∨(l2.drop m).getD i none=some (partT v i (chunk b i))∨(l2.drop m).getD i none=none:=fun i hi=>by
   rw [getD_drop,getD_drop]
   have:=hnew i hi
   rwa [Nat.one_mul] at this
  have e3:l2.take m=l.take m:=list_eq (d:=none) (n:=m) (by rw [List.length_take];omega) (by rw [List.length_take];omega) (fun i hi=>by
   rw [getD_take hi,getD_take hi]
   exact hold i (by omega) (.inl (by omega)))
  rcases slot_mixed (by rw [List.length_drop];omega) (by rw [List.length_drop];omega) ⟨by omega,hv2⟩ (fun i T hi h=>by rw [getD_drop] at h;exact hver (m + i) T (by omega) h) hn2 with h | h | ⟨h,h'⟩
  ·have hall:∀ i,i < m→l2.getD (1 * m + i) none=some (partT v i (chunk b i)):=fun i hi=>by
    have:=h i hi
    rw [getD_drop] at this
    rwa [Nat.one_mul]
   exact .inr ⟨hall,cell_new hm hl hl2 hf hv hv2 hb hall hold⟩
  ·left
   unfold hV hB
   rw [h,e3]
   exact ⟨rfl,rfl⟩
  ·left
   have hp:0≤slotV (l.take m):=slotV_pos fun i T hi h=>by
    rw [List.length_take] at hi
    rw [getD_take (by omega)] at h
    exact hpos i T (by omega) h
   have hno:¬ (slotV (l.take m)=0∨slotV (l.take m) < 0):=fun h=>by
    rcases h with h | h
    ·exact hcase (.inl h)
    ·omega
   unfold hV hB
   rw [h,e3,if_neg hno,if_neg hno,if_neg hcase,if_neg hcase]
   exact ⟨rfl,rfl⟩
end Go.Proofs.YtifgcfepbenpjaaGreat
namespace Go.Proofs.YtifgcfepbenpjaaGreat
theorem take_writes (base:Int) (l:List Txt) {k m:Nat} (hk:k≤m):(writesP base l m).take k=writesP base l k:=by
 rw [writesP_eq,writesP_eq,← List.map_take,List.take_range,Nat.min_eq_left hk]
theorem busy_none {S:List Sec} {C:List Pnd} {at_:Int} {n:Nat} (h:busyTo S C at_ n=false) {i:Nat} (hi:i < n) (ha:askE S C (at_ + (i:Int))=0):pendB C (at_ + (i:Int))=false:=by
 rcases hw:waB S C (at_ + (i:Int)) with _ | _
 ·unfold waB at hw
  rwa [if_pos ha] at hw
 ·rw [busy_yes hi hw] at h;cases h
theorem pend_lastW {C:List Pnd} {a:Int} (h:pendB C a=false):lastW C a=none:=lastW_none fun y hy e=>by
 rw [pend_hit hy e] at h
 cases h
theorem pend_writes (C:List Pnd) (base:Int) (l:List Txt) (k:Nat) {a:Int} (hp:pendB C a=false) {j:Nat} (hj:j < (C ++ writesP base l k).length) (e:((C ++ writesP base l k).getD j (0,[])).1=a) :
  base≤a∧a < base + (k:Int)∧((C ++ writesP base l k).getD j (0,[])).2=l.getD (a - base).toNat []:=by
 rcases Nat.lt_or_ge j C.length with h | h
 ·rw [gtD,List.getElem?_append_left h,← gtD] at e
  rw [pend_hit h e] at hp
  cases hp
 ·rw [List.length_append] at hj
  have hl:(writesP base l k).length=k:=someP_len _ _ _ _
  have e2:(C ++ writesP base l k).getD j (0,[])=(base + ((j - C.length:Nat):Int),l.getD (j - C.length) []):=by
   rw [gtD,List.getElem?_append_right h,← gtD,writesP_eq]
   exact range_get (fun i:Nat=>((base + (i:Int),l.getD i []):Pnd)) _ (by omega)
  rw [e2] at e ⊢
  dsimp only at e ⊢
  refine ⟨by omega,by omega,?_⟩
  rw [show (a - base).toNat=j - C.length by omega]
theorem optAt_crash {S:List Sec} {C:List Pnd} {base:Int} {l:List Txt} {k:Nat} (hm:mayD S C=true) (hm':mayD S (C ++ writesP base l k)=true) (F:List Int) {a:Int} (h0:0≤a) (h1:a < (S.length:Int)) (hp:pendB C a=false) :
  optAt (crS S (C ++ writesP base l k) F) [] a=optAt S C a∨(base≤a∧a < base + (k:Int)∧(optAt (crS S (C ++ writesP base l k) F) [] a=some (l.getD (a - base).toNat [])∨optAt (crS S (C ++ writesP base l k) F) [] a=none)):=by
 obtain ⟨hcm,hcl⟩:=cr_may hm' F
 have hx:=crash_at hm' F h0 (min (C ++ writesP base l k).length F.length) (Nat.min_le_left _ _)
 have hI:crS S (C ++ writesP base l k) F=behindK S (C ++ writesP base l k) F (min (C ++ writesP base l k).length F.length):=by unfold crS behindS;rw [if_pos hm']
 rw [← hI] at hx
 rw [optAt_may hcm h0 (by omega),optAt_may hm h0 h1,pend_lastW hp]
 have hl:lastW [] a=none:=rfl
 rw [hl]
 dsimp only
 rcases hx with h | ⟨h2,h3⟩ | ⟨j,hj,h2,h3⟩
 ·exact .inl (by rw [h])
 ·right
  rw [if_pos h2]
  unfold pendB at h3
  rw [List.any_eq_true] at h3
  obtain ⟨p,hpm,hpe⟩:=h3
  obtain ⟨j,hj,e⟩:=List.getElem_of_mem hpm
  have e2:((C ++ writesP base l k).getD j (0,[])).1=a:=by
   rw [gtD,geE hj,e]
   simpa using hpe
  obtain ⟨r1,r2,_⟩:=pend_writes C base l k hp hj e2
  exact ⟨r1,r2,.inr rfl⟩
 ·right
  obtain ⟨r1,r2,r3⟩:=pend_writes C base l k hp hj h2
  rw [h3,r3]
  exact ⟨r1,r2,.inl rfl⟩
theorem cr_same {S S':List Sec} {C C':List Pnd} {a m:Nat} (h:cellE S C a m=0) (h':cellE S' C' a m=0) (hv:hV m (optsOf S' C' a (2 * m))=hV m (optsOf S C a (2 * m))) (hb:hB m (optsOf S' C' a (2 * m))=hB m (optsOf S C a (2 * m))) :
  crE S' C' a m=crE S C a m∧crV S' C' a m=crV S C a m∧crB S' C' a m=crB S C a m:=by
 have e:crE S' C' a m=crE S C a m:=by
  unfold crE
  rw [if_pos h,if_pos h',Int.toNat_natCast,hv]
 refine ⟨e,?_,?_⟩
 ·unfold crV
  rw [e,Int.toNat_natCast,hv]
 ·unfold crB
  rw [e,Int.toNat_natCast,hb]
theorem cr_new {S S':List Sec} {C C':List Pnd} {a m:Nat} {v:Int} {b:Txt} (h':cellE S' C' a m=0) (hv:hV m (optsOf S' C' a (2 * m))=v) (hb:hB m (optsOf S' C' a (2 * m))=b) (hpos:0 < v) (hle:hV m (optsOf S C a (2 * m)) < v) :
  crE S' C' a m=0∧crB S' C' a m=b∧crV S C a m < crV S' C' a m:=by
 have e:crE S' C' a m=0:=by
  unfold crE
  rw [if_pos h',Int.toNat_natCast,hv,if_neg (by omega)]
 refine ⟨e,?_,?_⟩
 ·unfold crB
  rw [if_pos e,Int.toNat_natCast,hb]
 ·have e2:crV S' C' a m=v:=by
   unfold crV
   rw [if_pos e,Int.toNat_natCast,hv]
  rw [e2]
  unfold crV
  split
  ·rw [Int.toNat_natCast];exact hle
  ·exact hpos
theorem cellE_like {S S':List Sec} {C C':List Pnd} {a m:Nat} (h:cellE S C a m=0) (hm':mayD S' C'=true) (hl:S'.length=S.length):cellE S' C' a m=0:=by
 obtain ⟨hm,_⟩:=cellE_zero h
 unfold cellE at h ⊢
 rw [if_pos hm'] at *
 rw [if_pos hm] at h
 rwa [hl]
theorem crash_tells {S:List Sec} {C:List Pnd} {a m:Nat} {b:Txt} (h:cpE S C a m b=0) (hb:∀ z ∈ b,isByte z) (hS:∀ s ∈ S,∀ z ∈ s.2,isByte z) (hC:∀ p ∈ C,∀ z ∈ p.2,isByte z) {k:Nat} (hk:k≤m) (h64:C.length + k≤64) (F:List Int) :
  mayD S (C ++ (cpL S C a m b).take k)=true ∧
  ((crE S (C ++ (cpL S C a m b).take k) a m=crE S C a m∧crV S (C ++ (cpL S C a m b).take k) a m=crV S C a m∧crB S (C ++ (cpL S C a m b).take k) a m=crB S C a m) ∨
   (crE S (C ++ (cpL S C a m b).take k) a m=0∧crB S (C ++ (cpL S C a m b).take k) a m=b∧crV S C a m < crV S (C ++ (cpL S C a m b).take k) a m)) ∧
  ((crE (crS S (C ++ (cpL S C a m b).take k) F) [] a m=crE S C a m∧crV (crS S (C ++ (cpL S C a m b).take k) F) [] a m=crV S C a m∧crB (crS S (C ++ (cpL S C a m b).take k) F) [] a m=crB S C a m) ∨
   (crE (crS S (C ++ (cpL S C a m b).take k) F) [] a m=0∧crB (crS S (C ++ (cpL S C a m b).take k) F) [] a m=b∧crV S C a m < crV (crS S (C ++ (cpL S C a m b).take k) F) [] a m∧k=m)):=by
 obtain ⟨hE,h24,hbusy,hfull⟩:=cpE_zero h
 obtain ⟨hLl,hm1,hm4,hmay,hgood⟩:=cpL_good h hb
 rw [Int.toNat_natCast] at hLl hm1 hm4 hfull hbusy
 have hmay':=may_more hmay hgood (k:=k) (by omega) h64
 obtain ⟨_,a',m',ea,em,_,_,han⟩:=cellE_zero hE
 obtain rfl:a'=a:=by omega
 obtain rfl:m'=m:=by omega
 have hct:=ver_opts (at_:=(a':Int)) hS hC (2 * m')
 obtain ⟨f,hf⟩:∃ f:Nat,(f:Int)=hF m' (optsOf S C a' (2 * m')):=by
  rcases hF_two m' (optsOf S C a' (2 * m')) with h | h
  ·exact ⟨0,h.symm⟩
  ·exact ⟨1,h.symm⟩
 have hfm:f * m'≤m':=by
  rcases hF_two m' (optsOf S C a' (2 * m')) with h | h
  ·obtain rfl:f=0:=by omega
   omega
  ·obtain rfl:f=1:=by omega
   omega
 have hL:(cpL S C a' m' b).take k=writesP ((a':Int) + ((f * m':Nat):Int)) (textsOf (countTo (optsOf S C a' (2 * m')) (2 * m') + 1) b m') k:=by
  unfold cpL cpT
  rw [if_pos h,Int.toNat_natCast,← hf,Int.natCast_mul]
  exact take_writes _ _ hk
 rw [hL] at hmay' ⊢
 have hEm:=cellE_like hE hmay' rfl
 obtain ⟨hcm,hcl⟩:=cr_may hmay' F
 have hEc:=cellE_like hE hcm hcl
 have hpos:∀ i T,i < 2 * m'→(optsOf S C a' (2 * m')).getD i none=some T→0≤verOf T:=fun i T hi hT=>by
  rw [optsOf_get S C _ hi] at hT
  unfold optAt at hT
  split at hT
  ·rename_i h0
   injection hT with hT
   subst hT
   obtain ⟨h32,hbb⟩:=rd_good h0 hS hC
   exact (ver_bounds (by omega) hbb).1
  ·cases hT
 have hle:=hV_le (l:=optsOf S C a' (2 * m')) (m:=m') (optsOf_length _ _ _ _)
 refine ⟨hmay',?_,?_⟩
 ·have hrd:∀ i,i < 2 * m'→(optsOf S (C ++ writesP ((a':Int) + ((f * m':Nat):Int)) (textsOf (countTo (optsOf S C a' (2 * m')) (2 * m') + 1) b m') k) a' (2 * m')).getD i none=if f * m'≤i∧i < f * m' + k then some (partT (countTo (optsOf S C a' (2 * m')) (2 * m') + 1) ((i - f * m':Nat):Int) (chunk b (i - f * m'))) else (optsOf S C a' (2 * m')).getD i none:=by
   intro i hi
   rw [optsOf_get _ _ _ hi,optsOf_get _ _ _ hi,optAt_writes hmay hmay' (by omega) (by omega)]
   by_cases hr:f * m'≤i∧i < f * m' + k
   ·rw [if_pos hr,if_pos (by omega),show ((a':Int) + (i:Int) - ((a':Int) + ((f * m':Nat):Int))).toNat=i - f * m' by omega,textsOf_get _ _ (by omega)]
   ·rw [if_neg hr,if_neg (by omega)]
  rcases cell_mixed (b:=b) (v:=countTo (optsOf S C a' (2 * m')) (2 * m') + 1) hm1 (optsOf_length _ _ _ _) (optsOf_length _ _ _ _) hf rfl (by omega) (by omega) hpos (fun i hi=>by
   rw [hrd _ (by omega)]
   by_cases hik:i < k
   ·rw [if_pos (by omega),show f * m' + i - f * m'=i by omega]
    exact .inr (.inl rfl)
   ·rw [if_neg (by omega)]
    exact .inl rfl) (fun i hi ho=>by rw [hrd i hi,if_neg (by omega)]) with ⟨e1,e2⟩ | ⟨_,e1,e2⟩
  ·exact .inl (cr_same hE hEm e1 e2)
  ·exact .inr (cr_new hEm e1 e2 (by omega) (by omega))
 ·have hrd:∀ i,i < 2 * m'→(optsOf (crS S (C ++ writesP ((a':Int) + ((f * m':Nat):Int)) (textsOf (countTo (optsOf S C a' (2 * m')) (2 * m') + 1) b m') k) F) [] a' (2 * m')).getD i none=(optsOf S C a' (2 * m')).getD i none∨(f * m'≤i∧i < f * m' + k∧((optsOf (crS S (C ++ writesP ((a':Int) + ((f * m':Nat):Int)) (textsOf (countTo (optsOf S C a' (2 * m')) (2 * m') + 1) b m') k) F) [] a' (2 * m')).getD i none=some (partT (countTo (optsOf S C a' (2 * m')) (2 * m') + 1) ((i - f * m':Nat):Int) (chunk b (i - f * m')))∨(optsOf (crS S (C ++ writesP ((a':Int) + ((f * m':Nat):Int)) (textsOf (countTo (optsOf S C a' (2 * m')) (2 * m') + 1) b m') k) F) [] a' (2 * m')).getD i none=none)):=by
   intro i hi
   rw [optsOf_get _ _ _ hi,optsOf_get _ _ _ hi]
   have hask:askE S C ((a':Int) + (i:Int))=0:=by rw [ask_may hmay,if_neg (by omega)]
   rcases optAt_crash hmay hmay' F (a:=(a':Int) + (i:Int)) (by omega) (by omega) (busy_none hbusy hi hask) with h1 | ⟨h1,h2,h3⟩
   ·exact .inl h1
   ·refine .inr ⟨by omega,by omega,?_⟩
    rwa [show ((a':Int) + (i:Int) - ((a':Int) + ((f * m':Nat):Int))).toNat=i - f * m' by omega,textsOf_get _ _ (by omega)] at h3
  rcases cell_mixed (b:=b) (v:=countTo (optsOf S C a' (2 * m')) (2 * m') + 1) hm1 (optsOf_length _ _ _ _) (optsOf_length _ _ _ _) hf rfl (by omega) (by omega) hpos (fun i hi=>by
   rcases hrd (f * m' + i) (by omega) with h1 | ⟨_,_,h1⟩
   ·exact .inl h1
   ·rw [show f * m' + i - f * m'=i by omega] at h1
    exact .inr h1) (fun i hi ho=>by
   rcases hrd i hi with h1 | ⟨h1,h2,_⟩
   ·exact h1
   ·omega) with ⟨e1,e2⟩ | ⟨hall,e1,e2⟩
  ·exact .inl (cr_same hE hEc e1 e2)
  ·obtain ⟨r1,r2,r3⟩:=cr_new (S:=S) (C:=C) hEc e1 e2 (by omega) (by omega)
   refine .inr ⟨r1,r2,r3,?_⟩
   rcases Nat.lt_or_ge k m' with hkm | hkm
   ·exfalso
    have hlast:=hall (m' - 1) (by omega)
    rcases hrd (f * m' + (m' - 1)) (by omega) with h1 | ⟨_,h2,_⟩
    ·have h3:=count_ge (l:=optsOf S C a' (2 * m')) (2 * m') (f * m' + (m' - 1)) _ (by omega) (h1.symm.trans hlast)
     rw [ver_part _ _ ⟨by omega,by omega⟩] at h3
     omega
    ·omega
   ·omega
end Go.Proofs.YtifgcfepbenpjaaGreat
namespace Go.Proofs.YtifgcfepbenpjaaGreat
open Go.RowKit
abbrev Bnd:=Int × Int × Int
def okBnd (b:Bnd):Prop:=b.2.1≤b.1∧b.1≤b.2.2
def Bnds (w:World) (g n:Nat) (bs:List Bnd):Prop:=bs.length=n∧g < w.heap.size∧∀ j,j < n→w.cell? ⟨g,j * 3,none⟩=some (.int .i64 (bs.getD j (0,0,0)).1)∧w.cell? ⟨g,j * 3 + 1,none⟩=some (.int .i64 (bs.getD j (0,0,0)).2.1)∧w.cell? ⟨g,j * 3 + 2,none⟩=some (.int .i64 (bs.getD j (0,0,0)).2.2)
theorem Bnds.below {w w':World} {g n:Nat} {bs:List Bnd} (h:Bnds w g n bs) (hb:Below w.heap.size w w'):Bnds w' g n bs :=
 ⟨h.1,Nat.lt_of_lt_of_le h.2.1 hb.size,fun j hj=>by obtain ⟨a,b,c⟩:=h.2.2 j hj;exact ⟨(hb.cell h.2.1).trans a,(hb.cell h.2.1).trans b,(hb.cell h.2.1).trans c⟩⟩
theorem within_any (g n:Nat) (bs:List Bnd) (w:World) (h:Bnds w g n bs) (hn:n≤100) (r:Bool) (hy:(∀ j,j < n→okBnd (bs.getD j (0,0,0)))→r=true) (hno:∀ j,j < n→¬ okBnd (bs.getD j (0,0,0))→r=false) :
  Calls Tryz.prog 61 #[.slice (some ⟨g,0,none⟩) n n] w fun e w'=>e=.returned (.bool r)∧Below w.heap.size w w':=by
 have H:=Lh h
 have HY:=Lh hy
 have HN:=Lh hno
 clear h hy hno
 go_enter Tryz.func61,Tryz.ntmps61
 go_wp2
 go_loopw [7] (fun i wr=>∃ k:Nat,k≤n∧i=.int .i64 k∧(∀ y,y < k→okBnd (bs.getD y (0,0,0)))∧Below w.heap.size w wr) (fun i _=>n - (intOf i).toNat)
 case atStart=>exact ⟨0,Nat.zero_le _,rfl,fun y hy=>by omega,Below.refl _ _⟩
 case round =>
  obtain ⟨k,hk,rfl,hall,hbel⟩:=hrel
  have ALL:=Lh hall
  have BEL:=Lh hbel
  by_cases hkn:k < n
  ·obtain ⟨c0,c1,c2⟩:=(H.out.below hbel).2.2 k hkn
   clear hall hbel
   obtain ⟨b,hb⟩:∃ b,b=bs.getD k (0,0,0):=⟨_,rfl⟩
   rw [← hb] at c0 c1 c2
   obtain ⟨x,l,m⟩:=b
   simp only at c0 c1 c2
   have HB:=Lh hb
   clear hb
   have y:=Blk.new wr 133 [.int .i64 x,.int .i64 l,.int .i64 m]
   have d0:=y.cell 0
   have d1:=y.cell 1
   have d2:=y.cell 2
   simp only [gcZ,gcS] at d0 d1 d2
   have B2:=Lh (BEL.out.alloc BEL.out.size (.cells #[.int .i64 x,.int .i64 l,.int .i64 m] 133))
   clear y
   by_cases h1:x < l
   ·have HR:=Lh (HN.out k hkn (by rw [← HB.out];unfold okBnd;simp only;omega))
    go_wp2
    go_ret
    rw [HR.out]
    exact ⟨rfl,B2.out⟩
   ·by_cases h2:m < x
    ·have HR:=Lh (HN.out k hkn (by rw [← HB.out];unfold okBnd;simp only;omega))
     go_wp2
     go_ret
     rw [HR.out]
     exact ⟨rfl,B2.out⟩
    ·have HO:=Lh (show okBnd (bs.getD k (0,0,0)) by rw [← HB.out];unfold okBnd;simp only;omega)
     go_wp2
     go_roundw
     case rel =>
      refine ⟨k + 1,by omega,by go_num,fun y hy=>?_,B2.out⟩
      rcases Nat.lt_or_ge y k with h | h
      ·exact ALL.out y h
      ·obtain rfl:y=k:=by omega
       exact HO.out
     case measure=>simp [intOf];omega
  ·obtain rfl:k=n:=by omega
   have HR:=Lh (HY.out fun y hy=>ALL.out y hy)
   clear hall hbel
   go_wp2
   go_ret
   rw [HR.out]
   exact ⟨rfl,BEL.out⟩
theorem bnds6 (w:World) (g:Nat) (t:TypeId) (a0 a1 a2 b0 b1 b2 c0 c1 c2 d0 d1 d2 e0 e1 e2 f0 f1 f2:Int) (hg:g=w.heap.size) :
  Bnds (w.alloc (.cells #[.int .i64 a0,.int .i64 a1,.int .i64 a2,.int .i64 b0,.int .i64 b1,.int .i64 b2,.int .i64 c0,.int .i64 c1,.int .i64 c2,.int .i64 d0,.int .i64 d1,.int .i64 d2,.int .i64 e0,.int .i64 e1,.int .i64 e2,.int .i64 f0,.int .i64 f1,.int .i64 f2] t)) g 6 [(a0,a1,a2),(b0,b1,b2),(c0,c1,c2),(d0,d1,d2),(e0,e1,e2),(f0,f1,f2)]:=by
 subst hg
 have y:=Blk.new w t [.int .i64 a0,.int .i64 a1,.int .i64 a2,.int .i64 b0,.int .i64 b1,.int .i64 b2,.int .i64 c0,.int .i64 c1,.int .i64 c2,.int .i64 d0,.int .i64 d1,.int .i64 d2,.int .i64 e0,.int .i64 e1,.int .i64 e2,.int .i64 f0,.int .i64 f1,.int .i64 f2]
 refine ⟨rfl,y.lt,fun j hj=>?_⟩
 match j,hj with
 | 0,_=>exact ⟨y.cell 0,y.cell 1,y.cell 2⟩
 | 1,_=>exact ⟨y.cell 3,y.cell 4,y.cell 5⟩
 | 2,_=>exact ⟨y.cell 6,y.cell 7,y.cell 8⟩
 | 3,_=>exact ⟨y.cell 9,y.cell 10,y.cell 11⟩
 | 4,_=>exact ⟨y.cell 12,y.cell 13,y.cell 14⟩
 | 5,_=>exact ⟨y.cell 15,y.cell 16,y.cell 17⟩
theorem bnds2 (w:World) (g:Nat) (t:TypeId) (a0 a1 a2 b0 b1 b2:Int) (hg:g=w.heap.size) :
  Bnds (w.alloc (.cells #[.int .i64 a0,.int .i64 a1,.int .i64 a2,.int .i64 b0,.int .i64 b1,.int .i64 b2] t)) g 2 [(a0,a1,a2),(b0,b1,b2)]:=by
 subst hg
 have y:=Blk.new w t [.int .i64 a0,.int .i64 a1,.int .i64 a2,.int .i64 b0,.int .i64 b1,.int .i64 b2]
 refine ⟨rfl,y.lt,fun j hj=>?_⟩
 match j,hj with
 | 0,_=>exact ⟨y.cell 0,y.cell 1,y.cell 2⟩
 | 1,_=>exact ⟨y.cell 3,y.cell 4,y.cell 5⟩
theorem may_bnds (P T A M W Q L:Int) (hL:1≤P→P≤3→L=P + 2) :
  ((∀ j,j < 6→okBnd (([(P,1,3),(T,1,16),(A,L,32),(M,1,P),(W,1,4),(Q,4,64)]:List Bnd).getD j (0,0,0)))→decide (mayC P T A M W Q)=true) ∧
  (∀ j,j < 6→¬ okBnd (([(P,1,3),(T,1,16),(A,L,32),(M,1,P),(W,1,4),(Q,4,64)]:List Bnd).getD j (0,0,0))→decide (mayC P T A M W Q)=false):=by
 constructor
 ·intro h
  have h0:=h 0 (by omega)
  have h1:=h 1 (by omega)
  have h2:=h 2 (by omega)
  have h3:=h 3 (by omega)
  have h4:=h 4 (by omega)
  have h5:=h 5 (by omega)
  simp [okBnd] at h0 h1 h2 h3 h4 h5
  have:=hL h0.1 h0.2
  rw [decide_eq_true_eq]
  unfold mayC
  omega
 ·intro j hj h
  rw [decide_eq_false_iff_not]
  intro hm
  unfold mayC at hm
  have:=hL hm.1 hm.2.1
  match j,hj with
  | 0,_=>simp [okBnd] at h;omega
  | 1,_=>simp [okBnd] at h;omega
  | 2,_=>simp [okBnd] at h;omega
  | 3,_=>simp [okBnd] at h;omega
  | 4,_=>simp [okBnd] at h;omega
  | 5,_=>simp [okBnd] at h;omega
theorem pcheck_any (P T A M W Q:Int) (w:World):Calls Tryz.prog 31 #[cfgV P T A M W Q] w fun e w'=>e=.returned (.int .i64 (chkC P T A M W Q))∧Below w.heap.size w w':=by
 obtain ⟨x,hbel⟩:=box_cfg w P T A M W Q
 obtain ⟨c0,c1,c2,c3,c4,c5⟩:=x.cfg
 have BEL:=Lh hbel
 clear x hbel
 obtain ⟨L,hL⟩:∃ L,IntKind.i64.wrap (P + 2)=L:=⟨_,rfl⟩
 have hmb:=may_bnds P T A M W Q L (fun h1 h2=>by rw [← hL];exact wrap_sm (by omega) (by omega))
 have HY:=Lh hmb.1
 have HN:=Lh hmb.2
 have hck:chkC P T A M W Q=if decide (mayC P T A M W Q) then 0 else 8:=by unfold chkC;by_cases h:mayC P T A M W Q <;> simp [h]
 rw [hck]
 obtain ⟨r,hr⟩:∃ r,r=decide (mayC P T A M W Q):=⟨_,rfl⟩
 rw [← hr] at HY HN ⊢
 clear hck hmb hr
 obtain ⟨w1,hw1⟩:∃ x,x=w.alloc (.cells #[.int .i64 P,.int .i64 T,.int .i64 A,.int .i64 M,.int .i64 W,.int .i64 Q] 36):=⟨_,rfl⟩
 rw [← hw1] at BEL c0 c1 c2 c3 c4 c5
 go_enter Tryz.func31,Tryz.ntmps31
 go_upto_region 1 with fail
 rw [← hw1]
 clear hw1
 go_wp2_with fail
 refine (within_any _ 6 _ _ (bnds6 w1 _ _ P 1 3 T 1 16 A L 32 M 1 P W 1 4 Q 4 64 rfl) (by omega) r HY.out HN.out).mono ?_
 rintro e w2 ⟨rfl,hb⟩
 have B2:=Lh ((BEL.out.alloc BEL.out.size _).trans (hb.mono (by have:=BEL.out.size;simp;omega)))
 clear hb
 cases r with
 | true =>
  go_wp2
  go_ret
  exact ⟨rfl,B2.out⟩
 | false =>
  go_wp2
  go_ret
  exact ⟨rfl,B2.out⟩
theorem ppages_any (P T A M W Q:Int) (w:World) (h:1≤T) (h2:T≤16):Calls Tryz.prog 108 #[cfgV P T A M W Q] w fun e w'=>e=.returned (.int .i64 (pagC T))∧Below w.heap.size w w':=by
 obtain ⟨x,hbel⟩:=box_cfg w P T A M W Q
 obtain ⟨c0,c1,c2,c3,c4,c5⟩:=x.cfg
 have BEL:=Lh hbel
 clear x hbel
 have hq:(T + 8 - 1).tdiv 8=pagC T:=by
  rw [Int.tdiv_eq_ediv_of_nonneg (by omega)];unfold pagC;split <;> omega
 have hq2:(T + 8 - 1) / 8=pagC T:=by unfold pagC;split <;> omega
 have hq3:(T + 7) / 8=pagC T:=by unfold pagC;split <;> omega
 obtain ⟨g,hg⟩:∃ g,g=pagC T:=⟨_,rfl⟩
 have hg2:1≤g∧g≤2:=by rcases pagC_or T with p | p <;> omega
 rw [← hg] at hq hq2 hq3 ⊢
 clear hg
 go_enter Tryz.func108,Tryz.ntmps108
 go_wp2
 go_ret
 exact ⟨rfl,BEL.out⟩
abbrev partV (k f o t s:Int):Value:=.agg #[.int .u8 k,.int .i64 f,.int .i64 o,.int .i64 t,.int .i64 s]
theorem box_part (w:World) (k f o t s:Int) :
  Blk (w.alloc (.cells #[.int .u8 k,.int .i64 f,.int .i64 o,.int .i64 t,.int .i64 s] 135)) w.heap.size 135 [.int .u8 k,.int .i64 f,.int .i64 o,.int .i64 t,.int .i64 s] ∧
  Below w.heap.size w (w.alloc (.cells #[.int .u8 k,.int .i64 f,.int .i64 o,.int .i64 t,.int .i64 s] 135)) :=
 ⟨Blk.new w 135 [.int .u8 k,.int .i64 f,.int .i64 o,.int .i64 t,.int .i64 s],(Below.refl _ _).alloc (Nat.le_refl _) _⟩
theorem Blk.part {w:World} {g:Nat} {t:TypeId} {k f o th s:Int} (h:Blk w g t [.int .u8 k,.int .i64 f,.int .i64 o,.int .i64 th,.int .i64 s]) :
  w.cell? ⟨g,0,none⟩=some (.int .u8 k)∧w.cell? ⟨g,1,none⟩=some (.int .i64 f)∧w.cell? ⟨g,2,none⟩=some (.int .i64 o)∧w.cell? ⟨g,3,none⟩=some (.int .i64 th)∧w.cell? ⟨g,4,none⟩=some (.int .i64 s) :=
 ⟨h.cell 0,h.cell 1,h.cell 2,h.cell 3,h.cell 4⟩
def secP (f t s o n:Int):Int:=f + (o * t + n) * s
theorem sector_any (k f o t s a n:Int) (w:World) (h1:-10000≤a * t∧a * t≤10000) (h2:-10000≤n∧n≤10000) (h3:-50000≤(a * t + n) * s∧(a * t + n) * s≤50000) (h4:0≤f∧f≤1000):Calls Tryz.prog 109 #[partV k f o t s,.int .i64 a,.int .i64 n] w fun e w'=>e=.returned (.int .i64 (secP f t s a n))∧Below w.heap.size w w':=by
 obtain ⟨x,hbel⟩:=box_part w k f o t s
 obtain ⟨c0,c1,c2,c3,c4⟩:=x.part
 have BEL:=Lh hbel
 unfold secP
 have m1:IntKind.i64.wrap (a * t)=a * t:=wrap_sm (by omega) (by omega)
 have m2:IntKind.i64.wrap (a * t + n)=a * t + n:=wrap_sm (by omega) (by omega)
 have m3:IntKind.i64.wrap ((a * t + n) * s)=(a * t + n) * s:=wrap_sm (by omega) (by omega)
 have m4:IntKind.i64.wrap (f + (a * t + n) * s)=f + (a * t + n) * s:=wrap_sm (by omega) (by omega)
 clear x hbel h1 h2 h3 h4
 go_enter Tryz.func109,Tryz.ntmps109
 go_wp2
 go_ret
 exact ⟨rfl,BEL.out⟩
theorem end_any (k f o t s:Int) (w:World) (h1:-10000≤o * t∧o * t≤10000) (h3:-50000≤(o * t + 0) * s∧(o * t + 0) * s≤50000) (h4:0≤f∧f≤1000):Calls Tryz.prog 63 #[partV k f o t s] w fun e w'=>e=.returned (.int .i64 (secP f t s o 0))∧Below w.heap.size w w':=by
 obtain ⟨x,hbel⟩:=box_part w k f o t s
 obtain ⟨c0,c1,c2,c3,c4⟩:=x.part
 have BEL:=Lh hbel
 have SE:=Lh (fun w':World=>sector_any k f o t s o 0 w' h1 (by omega) h3 h4)
 obtain ⟨v,hv⟩:∃ v,v=secP f t s o 0:=⟨_,rfl⟩
 rw [← hv] at SE ⊢
 clear x hbel h1 h3 h4 hv
 go_enter Tryz.func63,Tryz.ntmps63
 go_wp2_with fail
 refine (SE.out _).mono ?_
 rintro e w2 ⟨rfl,hb⟩
 have B2:=Lh (BEL.out.trans (hb.mono BEL.out.size))
 clear hb c0 c1 c2 c3 c4
 go_wp2
 go_ret
 exact ⟨rfl,B2.out⟩
end Go.Proofs.YtifgcfepbenpjaaGreat
