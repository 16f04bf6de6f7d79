/- Texts of layers 1 to 12, joined. -/
import Derived.Test.YtifgcfepbenpjaaGreatNa1
import Derived.Lib.Bytes
import Derived.Deep.Matrix
import Derived.Lib.SmallJoins
import Derived.Deep.SlicePairs
import Derived.StillTailTactics
import Derived.Deep.RegionHeld3
set_option maxRecDepth 100000
set_option maxHeartbeats 12800000
set_option linter.unusedVariables false
namespace Go.Proofs.YtifgcfepbenpjaaGreat
open Go.RowKit
theorem bytes_inj:∀ (x y:List Int),(∀ z ∈ x,isByte z)→(∀ z ∈ y,isByte z)→(x.map fun n=>UInt8.ofNat n.toNat)=(y.map fun n=>UInt8.ofNat n.toNat)→x=y:=by
 intro x
 induction x with
 | nil=>intro y _ _ h;cases y with
  | nil=>rfl
  | cons b y=>cases h
 | cons a x ih =>
  intro y hx hy h
  cases y with
  | nil=>cases h
  | cons b y =>
   simp only [List.map_cons,List.cons.injEq] at h
   have ha:=hx a (by simp)
   have hb:=hy b (by simp)
   unfold isByte at ha hb
   have e:(UInt8.ofNat a.toNat).toNat=(UInt8.ofNat b.toNat).toNat:=by rw [h.1]
   rw [UInt8.toNat_ofNat',UInt8.toNat_ofNat'] at e
   have e2:a=b:=by omega
   rw [e2,ih y (fun z hz=>hx z (by simp [hz])) (fun z hz=>hy z (by simp [hz])) h.2]
theorem strs_eq {x y:List Int} (hx:∀ z ∈ x,isByte z) (hy:∀ z ∈ y,isByte z):((strOfNums x).toList == (strOfNums y).toList)=decide (x=y):=by
 by_cases h:x=y
 ·subst h;simp
 ·rw [decide_eq_false h,beq_eq_false_iff_ne]
  intro e
  rw [Lib.toList_data,Lib.toList_data,strOfNums_data,strOfNums_data] at e
  exact h (bytes_inj x y hx hy e)
end Go.Proofs.YtifgcfepbenpjaaGreat
namespace Go.Proofs.YtifgcfepbenpjaaGreat
open Go.RowKit Go.OpenShut
theorem owns_keep {w w':World} {base:Nat} {e:TypeId} {s:Nat} {v:Value} {n:Nat} {xs:List Value} (h:w.ownsRow base e s v n xs) (hk:∀ (g:Nat) (cs:Array Value),base≤g→w.heap[g]?=some (.cells cs e (0,0))→w'.heap[g]?=w.heap[g]?):w'.ownsRow base e s v n xs:=by
 refine ⟨h.1,?_⟩
 rcases h.2 with h2 | ⟨g,cap,cur,hv,hb,hg,r⟩
 ·exact .inl h2
 ·exact .inr ⟨g,cap,cur,hv,hb,(hk g cur hb hg).trans hg,r⟩
def U8 (w:World) (g:Nat):Prop:=∃ cs,w.heap[g]?=some (.cells cs 5 (0,0))
theorem U8.lt {w:World} {g:Nat} (h:U8 w g):g < w.heap.size:=by
 obtain ⟨cs,hc⟩:=h
 exact (Array.getElem?_eq_some_iff.1 hc).1
theorem u8_row {w:World} {g b:Nat} {e:TypeId} {s:Nat} {v:Value} {n:Nat} {xs:List Value} (he:5≠e) (h:U8 w g) (hr:w.ownsRow b e s v n xs):v.ownBlock≠some g:=fun e2=>by
 obtain ⟨cs,hc⟩:=h
 rcases hr.2 with ⟨rfl,_⟩ | ⟨g2,cap,cur,rfl,_,hg2,_⟩
 ·simp [Value.ownBlock] at e2
 ·have e3:g2=g:=by simpa [Value.ownBlock] using e2
  subst e3
  rw [hg2] at hc
  simp at hc
  exact he hc.2.symm
theorem u8_blk {w:World} {g:Nat} {t:TypeId} {cs:List Value} (he:t≠5) (h:U8 w g) (hb:Blk w g t cs):False:=by
 obtain ⟨cs',hc⟩:=h
 unfold Blk at hb
 rw [hb] at hc
 simp at hc
 exact he hc.2
theorem U8.of_owns {w:World} {base g n c:Nat} {o:Nat} {xs:List Value} (h:w.ownsRow base 5 1 (.slice (some ⟨g,o,none⟩) n c) n xs):U8 w g:=by
 rcases h.2 with ⟨e,h0⟩ | ⟨g',cap,cur,e,hb,hg,_⟩ <;> cases e
 exact ⟨cur,hg⟩
def OwnTxt (w:World) (base:Nat) (A:Option Addr) (n c:Nat) (zs:List Int):Prop :=
 zs.length=n∧n≤c∧c≤maxLen∧(n=0∨∃ g o cs,A=some ⟨g,o,none⟩∧base≤g∧w.heap[g]?=some (.cells cs 5 (0,0))∧∀ j,j < n→cs[o + j]?=some (.int .u8 (zs.getD j 0)))
section
variable {w w':World} {base base':Nat} {A:Option Addr} {n c:Nat} {zs:List Int}
theorem OwnTxt.of (h:w.ownsRow base 5 1 (.slice A n c) n (ints .u8 zs)):OwnTxt w base A n c zs:=by
 have ha:=Arg.own h
 refine ⟨ha.len,ha.cap,ha.max,?_⟩
 rcases h.2 with ⟨e,h0⟩ | ⟨g,cap,cur,e,hb,hg,h1,h2,h3,h4⟩
 ·exact .inl h0
 ·cases e
  refine .inr ⟨g,0,cur,rfl,hb,hg,fun j hj=>?_⟩
  have e2:=ints_getD .u8 zs j (by have:=ha.len;omega)
  rw [← h4,List.getElem?_take,if_pos (by omega)] at e2
  simpa using e2
theorem OwnTxt.nil (w:World) (base:Nat):OwnTxt w base none 0 0 []:=⟨rfl,Nat.le_refl _,by decide,.inl rfl⟩
theorem OwnTxt.at_ (h:OwnTxt w base A n c zs) {j:Nat} (hj:j < n):∃ g o,A=some ⟨g,o,none⟩∧base≤g∧U8 w g∧w.cell? ⟨g,o + j,none⟩=some (.int .u8 (zs.getD j 0))∧w.frozen? ⟨g,o + j,none⟩=false:=by
 obtain ⟨_,_,_,h0 | ⟨g,o,cs,e,hb,hg,hc⟩⟩:=h
 ·omega
 ·refine ⟨g,o,e,hb,⟨cs,hg⟩,?_,?_⟩
  ·have:=cell_of_row w g (o + j) cs 5 (0,0) hg
   rw [this]
   exact hc j hj
  ·simp [World.frozen?,hg]
theorem OwnTxt.arg (h:OwnTxt w base A n c zs):Arg w .u8 A n c zs:=by
 refine ⟨fun j v hv=>?_,h.1,h.2.1,h.2.2.1⟩
 have hj:j < zs.length:=by
  rcases Nat.lt_or_ge j zs.length with hj | hj
  ·exact hj
  ·rw [List.getElem?_eq_none (by rw [ints_length];exact hj)] at hv;cases hv
 rw [ints_getD .u8 zs j hj] at hv
 injection hv with hv
 subst hv
 obtain ⟨g,o,e,hb,hu,hc,_⟩:=h.at_ (j:=j) (by have:=h.1;omega)
 exact ⟨g,o,e,hu.lt,hc⟩
theorem OwnTxt.keep (h:OwnTxt w base A n c zs) (hk:∀ g,base≤g→U8 w g→w'.heap[g]?=w.heap[g]?):OwnTxt w' base A n c zs:=by
 obtain ⟨h1,h2,h3,h4⟩:=h
 refine ⟨h1,h2,h3,?_⟩
 rcases h4 with h0 | ⟨g,o,cs,e,hb,hg,hc⟩
 ·exact .inl h0
 ·exact .inr ⟨g,o,cs,e,hb,(hk g hb ⟨cs,hg⟩).trans hg,hc⟩
theorem OwnTxt.below (h:OwnTxt w base A n c zs) (hb:Below w.heap.size w w'):OwnTxt w' base A n c zs:=h.keep fun g _ hu=>hb.block g hu.lt
theorem OwnTxt.lower (h:OwnTxt w base A n c zs) (hb:base'≤base):OwnTxt w base' A n c zs:=by
 obtain ⟨h1,h2,h3,h4⟩:=h
 refine ⟨h1,h2,h3,?_⟩
 rcases h4 with h0 | ⟨g,o,cs,e,hg,r⟩
 ·exact .inl h0
 ·exact .inr ⟨g,o,cs,e,Nat.le_trans hb hg,r⟩
theorem OwnTxt.allocated (h:OwnTxt w base A n c zs) (o:Obj):OwnTxt (w.alloc o) base A n c zs:=h.below ((Below.refl _ _).alloc (Nat.le_refl _) o)
end
def touchL (A:Option Addr) (g k:Nat) (z:Int) (zs:List Int):List Int :=
 match A with
 | some a=>if a.block=g∧a.off≤k then zs.set (k - a.off) z else zs
 | none=>zs
theorem touchL_len (A:Option Addr) (g k:Nat) (z:Int) (zs:List Int):(touchL A g k z zs).length=zs.length:=by
 unfold touchL
 split
 ·split
  ·rw [List.length_set]
  ·rfl
 ·rfl
theorem touchL_byte (A:Option Addr) (g k:Nat) {z:Int} (hz:isByte z) {zs:List Int} (h:∀ y ∈ zs,isByte y):∀ y ∈ touchL A g k z zs,isByte y:=by
 unfold touchL
 split
 ·split
  ·intro y hy
   rcases List.mem_or_eq_of_mem_set hy with hy | rfl
   ·exact h y hy
   ·exact hz
  ·exact h
 ·exact h
theorem OwnTxt.touch {w:World} {base g k:Nat} {A:Option Addr} {n c:Nat} {zs:List Int} (h:OwnTxt w base A n c zs) (z:Int):OwnTxt (w.setCell ⟨g,k,none⟩ (.int .u8 z)) base A n c (touchL A g k z zs):=by
 obtain ⟨h1,h2,h3,h4⟩:=h
 refine ⟨(touchL_len ..).trans h1,h2,h3,?_⟩
 rcases h4 with h0 | ⟨g',o,cs,rfl,hb,hg,hc⟩
 ·exact .inl h0
 ·refine .inr ?_
  by_cases e:g'=g
  ·subst e
   refine ⟨g',o,cs.setIfInBounds k (.int .u8 z),rfl,hb,by simp [World.setCell,Array.getElem?_modify,hg],fun j hj=>?_⟩
   have hcj:=hc j hj
   by_cases ek:k=o + j
   ·subst ek
    have hlt:o + j < cs.size:=(Array.getElem?_eq_some_iff.1 hcj).1
    simp [touchL,hlt,h1,hj]
   ·rw [Array.getElem?_setIfInBounds_ne ek,hcj]
    unfold touchL
    dsimp only
    by_cases ho:o≤k
    ·rw [if_pos ⟨rfl,ho⟩,gtD,gtD,List.getElem?_set_ne (by omega)]
    ·rw [if_neg (fun h=>ho h.2)]
  ·refine ⟨g',o,cs,rfl,hb,(Below.heap_setCell w _ _ g' e).trans hg,fun j hj=>?_⟩
   unfold touchL
   dsimp only
   rw [if_neg (fun h=>e h.1)]
   exact hc j hj
end Go.Proofs.YtifgcfepbenpjaaGreat
namespace Go.Proofs.YtifgcfepbenpjaaGreat
open Go.RowKit Go.OpenShut Go.ChangeShapes Go.WideShapes Go.Deep
theorem owns_cell {w:World} {base:Nat} {e:TypeId} {s:Nat} {A:Option Addr} {n c j:Nat} {xs:List Value} {v:Value} (h:w.ownsRow base e s (.slice A n c) n xs) (hj:xs[j]?=some v) :
  ∃ g,A=some ⟨g,0,none⟩∧g < w.heap.size∧w.cell? ⟨g,j,none⟩=some v:=by
 have hl:=h.1
 have hjl:=(List.getElem?_eq_some_iff.1 hj).1
 rcases h.2 with ⟨e,h0⟩ | ⟨g,cap,cur,hv,hb,hg,_⟩
 ·rw [h0,Nat.zero_mul] at hl;omega
 ·cases hv
  exact ⟨g,rfl,(Array.getElem?_eq_some_iff.1 hg).1,(h.cellAt j (by rw [← hl];exact hjl)).trans hj⟩
theorem owns_at2 {w:World} {base:Nat} {e:TypeId} {A:Option Addr} {n c k:Nat} {xs:List Value} (h:w.ownsRow base e 2 (.slice A n c) n xs) (hk:k < n * 2) :
  ∃ g v,A=some ⟨g,0,none⟩∧base≤g∧w.cell? ⟨g,k,none⟩=some v∧w.frozen? ⟨g,k,none⟩=false∧∀ u,(w.setCell ⟨g,k,none⟩ u).ownsRow base e 2 (.slice A n c) n (xs.set k u):=by
 have hl:=h.1
 rcases h.2 with ⟨_,h0⟩ | ⟨g,cap,cur,hv,hb,_⟩
 ·omega
 ·cases hv
  have hkl:k < xs.length:=by omega
  exact ⟨g,xs[k],rfl,hb,by rw [h.cellAt k (by omega),geE hkl],h.frozenAt k,fun u=>(h.stored k u).1⟩
theorem owns_under {w w':World} {base:Nat} {e:TypeId} {s:Nat} {v:Value} {k:Nat} {xs:List Value} (hx:w.ownsRow base e s v k xs) {row:Option Nat} (hg:w.grownBy w' row) (hr:∀ g,row=some g→g < base):w'.ownsRow base e s v k xs:=hx.kept hg (by
 rcases hy:v.ownBlock with _ | gc
 ·exact .inl rfl
 ·refine .inr (fun e2=>?_)
  have h1:=(hx.lt gc hy).1
  have h2:=hr gc e2.symm
  omega)
theorem owns_other_box {w:World} {e t:TypeId} {base g s:Nat} {v:Value} {k:Nat} {xs cs:List Value} (h:w.ownsRow base e s v k xs) (hb:Blk w g t cs) (ht:t≠e) (i:Nat) (u:Value):(w.setCell ⟨g,i,none⟩ u).ownsRow base e s v k xs:=by
 refine h.kept (grownBy_set w g i u) ?_
 rcases h.2 with ⟨rfl,_⟩ | ⟨g',cap,cur,rfl,_,hg,_⟩
 ·exact .inl rfl
 ·refine .inr fun e2=>?_
  have e3:g'=g:=by simpa [Value.ownBlock] using e2
  unfold Blk at hb
  rw [e3,hb] at hg
  simp at hg
  exact ht hg.2
theorem ownsRow_some {W:World} {base:Nat} {e:TypeId} {size:Nat} {v:Value} {k:Nat} {xs:List Value} (h:W.ownsRow base e size v (k + 1) xs):∃ g cap,v=.slice (some ⟨g,0,none⟩) (k + 1) cap:=by
 rcases h.2 with ⟨_,h0⟩ | ⟨g,cap,_,rfl,_⟩
 ·omega
 ·exact ⟨g,cap,rfl⟩
theorem run_app2 {P:Program} (w:World) (base:Nat) (t ty e:TypeId) (i:TypeInfo) (z:Value) (bytes:Nat) (ht:P.underlying t=some (.slice e)) (hi:P.info? e=some i) (hz:i.zero=some z)
  (hsize:i.size=2) (hby:i.bytes=bytes) (hzs:z.cells.size=2) (v:Value) (n:Nat) (xs:List Value) (hown:w.ownsRow base e 2 v n xs)
  (b:Nat) (x y:Value) (hlit:Blk w b e [x,y]) (h1:x.oneCell'=true) (h2:y.oneCell'=true)
  (h63:n + 1≤maxLen) (hbytes:(n + 1) * bytes≤140737488355328) (hbase:base≤w.heap.size) :
  ∃ v' w',(Builtin.append_ #[t,t] ty #[v,.slice (some ⟨b,0,none⟩) 1 1]).run P w=.ok v' w'∧w'.ownsRow base e 2 v' (n + 1) (xs ++ [x,y])∧w.grownBy w' v.ownBlock∧(v'.ownBlock=v.ownBlock∨v'.ownBlock=some w.heap.size):=by
 have hcs:∀ j u,[x,y][j]?=some u→w.cell? ((⟨b,0,none⟩:Addr).add j)=some u:=by
  intro j u hu
  have e2:(⟨b,0,none⟩:Addr).add j=⟨b,0 + j,none⟩:=by unfold Addr.add;split <;> simp_all
  rw [e2,Nat.zero_add,hlit.cell j]
  exact hu
 obtain ⟨v',w',h,r2,r3,_,r5⟩:=run_append_own_at (P:=P) w base t ty e i z 2 bytes ht hi hz hsize hby hzs (by omega) v n xs hown ⟨b,0,none⟩ 1 1 [x,y] rfl hcs (by intro u hu;simp at hu;rcases hu with rfl | rfl <;> assumption) h63 hbytes hbase
 exact ⟨v',w',h,r2,r3,r5⟩
end Go.Proofs.YtifgcfepbenpjaaGreat
namespace Go.Proofs.YtifgcfepbenpjaaGreat
abbrev Txt:=List Int
abbrev Sec:=Bool × Txt
abbrev Pnd:=Int × Txt
def noughts:Txt:=List.replicate 32 0
def secOk (s:Sec):Bool:=decide (s.2.length=32) && (!s.1 || s.2.all (fun z=>decide (z=0)))
def pndOk (n:Nat) (p:Pnd):Bool:=decide (0≤p.1) && decide (p.1 < (n:Int)) && decide (p.2.length=32)
def mayD (S:List Sec) (C:List Pnd):Bool:=decide (1≤S.length) && decide (S.length≤1024) && decide (C.length≤64) && S.all secOk && C.all (pndOk S.length)
def chkD (S:List Sec) (C:List Pnd):Int:=if mayD S C then 0 else 8
def askE (S:List Sec) (C:List Pnd) (at_:Int):Int:=if mayD S C then (if at_ < 0∨(S.length:Int)≤at_ then 2 else 0) else 8
def wrE (S:List Sec) (C:List Pnd) (at_:Int) (b:Txt):Int:=if askE S C at_=0 then (if b.length=32 then (if 64≤C.length then 9 else 0) else 2) else askE S C at_
def wrS (S:List Sec) (C:List Pnd) (at_:Int) (b:Txt):List Sec:=if wrE S C at_ b=0 then S else []
def wrC (S:List Sec) (C:List Pnd) (at_:Int) (b:Txt):List Pnd:=if wrE S C at_ b=0 then C ++ [(at_,b)] else []
def pendB (C:List Pnd) (at_:Int):Bool:=C.any fun p=>decide (p.1=at_)
def lastW (C:List Pnd) (at_:Int):Option Txt:=(C.reverse.find? fun p=>decide (p.1=at_)).map (·.2)
def secAt (S:List Sec) (at_:Int):Sec:=S.getD at_.toNat (false,[])
def gotB (S:List Sec) (C:List Pnd) (at_:Int):Txt:=(lastW C at_).getD (secAt S at_).2
def gotOk (S:List Sec) (C:List Pnd) (at_:Int):Bool:=(lastW C at_).isSome || !(secAt S at_).1
def rdE (S:List Sec) (C:List Pnd) (at_:Int):Int:=if askE S C at_=0 then (if gotOk S C at_ then 0 else 50) else askE S C at_
def rdB (S:List Sec) (C:List Pnd) (at_:Int):Txt:=if rdE S C at_=0 then gotB S C at_ else []
def waB (S:List Sec) (C:List Pnd) (at_:Int):Bool:=if askE S C at_=0 then pendB C at_ else false
def byFate (S:List Sec) (p:Pnd) (f:Int):List Sec:=if f % 3=1 then S.set p.1.toNat (false,p.2) else if f % 3=2 then S.set p.1.toNat (true,noughts) else S
def behindK (S:List Sec) (C:List Pnd) (F:List Int):Nat→List Sec
 | 0=>S
 | k + 1=>byFate (behindK S C F k) (C.getD k (0,[])) (F.getD k 0)
def behindS (S:List Sec) (C:List Pnd) (F:List Int):List Sec:=behindK S C F (min C.length F.length)
def crS (S:List Sec) (C:List Pnd) (F:List Int):List Sec:=if mayD S C then behindS S C F else []
def flS (S:List Sec) (C:List Pnd):List Sec:=crS S C (List.replicate C.length 1)
def newE (m:Int):Int:=if 1≤m∧m≤1024 then 0 else 2
def newS (m:Int):List Sec:=if newE m=0 then List.replicate m.toNat (false,noughts) else []
def sameD (S:List Sec) (C:List Pnd) (S':List Sec) (C':List Pnd):Bool:=decide (S=S'∧C=C')
def greatD (S:List Sec) (C:List Pnd) (m:Int):Bool:=(S.take m.toNat).any (fun s=>decide (100 < s.2.length)) || (C.take 100).any (fun p=>decide (100 < p.2.length)) || decide (m < (S.length:Int)) || decide (100 < C.length)
structure SmallD (S:List Sec) (C:List Pnd):Prop where
 secs:S.length≤300
 pnds:C.length≤100
 long:∀ s ∈ S,s.2.length≤100
 wide:∀ p ∈ C,p.2.length≤100
theorem small_ofD {S:List Sec} {C:List Pnd} {m:Int} (hm0:0≤m) (hm:m≤300) (h:greatD S C m=false):SmallD S C:=by
 unfold greatD at h
 simp only [Bool.or_eq_false_iff,decide_eq_false_iff_not,List.any_eq_false,decide_eq_true_iff] at h
 obtain ⟨⟨⟨h1,h2⟩,h3⟩,h4⟩:=h
 refine ⟨by omega,by omega,fun s hs=>?_,fun p hp=>?_⟩
 ·have:=h1 s (by rw [List.take_of_length_le (by omega)];exact hs)
  omega
 ·have:=h2 p (by rw [List.take_of_length_le (by omega)];exact hp)
  omega
theorem mayD_iff (S:List Sec) (C:List Pnd):mayD S C=true↔(1≤S.length∧S.length≤1024∧C.length≤64)∧(∀ s ∈ S,s.2.length=32∧(s.1=true→∀ z ∈ s.2,z=0))∧∀ p ∈ C,0≤p.1∧p.1 < (S.length:Int)∧p.2.length=32:=by
 unfold mayD secOk pndOk
 simp only [Bool.and_eq_true,decide_eq_true_iff,List.all_eq_true,Bool.or_eq_true,Bool.not_eq_true']
 constructor
 ·rintro ⟨⟨⟨⟨h1,h2⟩,h3⟩,h4⟩,h5⟩
  refine ⟨⟨h1,h2,h3⟩,fun s hs=>⟨(h4 s hs).1,fun hb=>?_⟩,fun p hp=>?_⟩
  ·rcases (h4 s hs).2 with h | h
   ·rw [hb] at h;cases h
   ·exact h
  ·obtain ⟨⟨a,b⟩,c⟩:=h5 p hp
   exact ⟨a,b,c⟩
 ·rintro ⟨⟨h1,h2,h3⟩,h4,h5⟩
  refine ⟨⟨⟨⟨h1,h2⟩,h3⟩,fun s hs=>⟨(h4 s hs).1,?_⟩⟩,fun p hp=>?_⟩
  ·cases hb:s.1 with
   | true=>exact .inr ((h4 s hs).2 hb)
   | false=>exact .inl rfl
  ·obtain ⟨a,b,c⟩:=h5 p hp
   exact ⟨⟨a,b⟩,c⟩
end Go.Proofs.YtifgcfepbenpjaaGreat
namespace Go.Proofs.YtifgcfepbenpjaaGreat
open Go.RowKit Go.OpenShut Go.ChangeShapes Go.WideShapes Go.Deep
structure Secs (w:World) (A:Option Addr) (n c:Nat) (ss:List Sec):Prop where
 len:ss.length=n
 cap:n≤c
 max:c≤maxLen
 byte:∀ s ∈ ss,∀ z ∈ s.2,isByte z
 at_:∀ i,i < n→∃ b o Ai ni ci,A=some ⟨b,o,none⟩∧b < w.heap.size∧w.cell? ⟨b,o + i * 2,none⟩=some (.slice Ai ni ci)∧w.cell? ⟨b,o + i * 2 + 1,none⟩=some (.bool (ss.getD i (false,[])).1)∧Arg w .u8 Ai ni ci (ss.getD i (false,[])).2
section
variable {w w':World} {A:Option Addr} {n c:Nat} {ss:List Sec}
theorem Secs.below (h:Secs w A n c ss) (hb:Below w.heap.size w w'):Secs w' A n c ss :=
 ⟨h.len,h.cap,h.max,h.byte,fun i hi=>by
  obtain ⟨b,o,Ai,ni,ci,e,hlt,hc,hx,ha⟩:=h.at_ i hi
  exact ⟨b,o,Ai,ni,ci,e,Nat.lt_of_lt_of_le hlt hb.size,(hb.cell (p:=⟨b,_,none⟩) hlt).trans hc,(hb.cell (p:=⟨b,_,none⟩) hlt).trans hx,ha.below hb⟩⟩
theorem Secs.nil (w:World):Secs w none 0 0 []:=⟨rfl,Nat.le_refl _,by decide,by simp,fun i hi=>by omega⟩
theorem Secs.byte_at (h:Secs w A n c ss) (i:Nat):∀ z ∈ (ss.getD i (false,[])).2,isByte z:=by
 rcases Nat.lt_or_ge i ss.length with hi | hi
 ·rw [gtD,geE hi]
  exact h.byte _ (List.getElem_mem hi)
 ·rw [gtD,List.getElem?_eq_none hi]
  simp
end
def OwnSecs (w:World) (base:Nat) (A:Option Addr) (n c:Nat) (ss:List Sec):Prop :=
 ∃ vs:List Value,w.ownsRow base 112 2 (.slice A n c) n vs∧ss.length=n∧(∀ s ∈ ss,∀ z ∈ s.2,isByte z) ∧
  ∀ i,i < n→∃ Ai ni ci,vs[i * 2]?=some (.slice Ai ni ci)∧vs[i * 2 + 1]?=some (.bool (ss.getD i (false,[])).1)∧OwnTxt w base Ai ni ci (ss.getD i (false,[])).2
section
variable {w w':World} {base base':Nat} {A:Option Addr} {n c:Nat} {ss:List Sec}
theorem Secs.of_own (h:OwnSecs w base A n c ss):Secs w A n c ss:=by
 obtain ⟨vs,hown,hl,hb,hin⟩:=h
 refine ⟨hl,?_,?_,hb,fun i hi=>?_⟩
 ·rcases hown.2 with ⟨e,h0⟩ | ⟨g,cap,cur,e,_,_,h1,h2,_⟩ <;> cases e
  ·exact Nat.le_refl _
  ·exact h1
 ·rcases hown.2 with ⟨e,h0⟩ | ⟨g,cap,cur,e,_,_,h1,h2,_⟩ <;> cases e
  ·decide
  ·exact h2
 ·obtain ⟨Ai,ni,ci,hv,hx,ho⟩:=hin i hi
  obtain ⟨b,e,hlt,hc⟩:=owns_cell hown hv
  obtain ⟨b',e',_,hcx⟩:=owns_cell hown hx
  rw [e] at e'
  cases e'
  exact ⟨b,0,Ai,ni,ci,e,hlt,by rw [Nat.zero_add];exact hc,by rw [Nat.zero_add];exact hcx,ho.arg⟩
theorem OwnSecs.below (h:OwnSecs w base A n c ss) (hb:Below w.heap.size w w'):OwnSecs w' base A n c ss:=by
 obtain ⟨vs,hown,hl,hby,hin⟩:=h
 refine ⟨vs,owns_below hown hb,hl,hby,fun i hi=>?_⟩
 obtain ⟨Ai,ni,ci,hv,hx,ho⟩:=hin i hi
 exact ⟨Ai,ni,ci,hv,hx,ho.below hb⟩
theorem OwnSecs.lower (h:OwnSecs w base A n c ss) (hb:base'≤base):OwnSecs w base' A n c ss:=by
 obtain ⟨vs,hown,hl,hby,hin⟩:=h
 refine ⟨vs,owns_base hown hb,hl,hby,fun i hi=>?_⟩
 obtain ⟨Ai,ni,ci,hv,hx,ho⟩:=hin i hi
 exact ⟨Ai,ni,ci,hv,hx,ho.lower hb⟩
theorem OwnSecs.nil (w:World) (base:Nat):OwnSecs w base none 0 0 []:=⟨[],World.ownsRow_nil _ _ _ _,rfl,by simp,fun i hi=>by omega⟩
theorem OwnSecs.keep (h:OwnSecs w base A n c ss) (hk:∀ (g:Nat) (e:TypeId) (cs:Array Value),(e=112∨e=5)→base≤g→w.heap[g]?=some (.cells cs e (0,0))→w'.heap[g]?=w.heap[g]?):OwnSecs w' base A n c ss:=by
 obtain ⟨vs,hown,hl,hby,hin⟩:=h
 refine ⟨vs,owns_keep hown fun g cs hg hc=>hk g _ cs (.inl rfl) hg hc,hl,hby,fun i hi=>?_⟩
 obtain ⟨Ai,ni,ci,hv,hx,ho⟩:=hin i hi
 exact ⟨Ai,ni,ci,hv,hx,ho.keep fun g hg hu=>by
  obtain ⟨cs,hc⟩:=hu
  exact hk g _ cs (.inr rfl) hg hc⟩
theorem OwnSecs.kept (h:OwnSecs w base A n c ss) {row:Option Nat} (hg:w.grownBy w' row) (hr:∀ g,row=some g→g < base):OwnSecs w' base A n c ss :=
 h.keep fun g _ _ _ hb hc=>hg.block g (Array.getElem?_eq_some_iff.1 hc).1 (fun e=>by have:=hr g e.symm;omega)
theorem OwnSecs.away (h:OwnSecs w base A n c ss) {g:Nat} (hg:g < base) (i:Nat) (u:Value):OwnSecs (w.setCell ⟨g,i,none⟩ u) base A n c ss :=
 h.kept (grownBy_set w g i u) (fun _ e=>by injection e with e;omega)
theorem OwnSecs.box (h:OwnSecs w base A n c ss) {g:Nat} {t:TypeId} {cs:List Value} (hb:Blk w g t cs) (h1:t≠112) (h2:t≠5) (i:Nat) (u:Value):OwnSecs (w.setCell ⟨g,i,none⟩ u) base A n c ss :=
 h.keep fun g' e cs' he _ hc=>by
  refine Below.heap_setCell w _ u g' (fun e2=>?_)
  subst e2
  unfold Blk at hb
  rw [hb] at hc
  simp at hc
  rcases he with rfl | rfl
  ·exact h1 hc.2
  ·exact h2 hc.2
theorem OwnSecs.block (h:OwnSecs w base A n c ss) (hn:0 < n):∃ g,A=some ⟨g,0,none⟩∧base≤g∧g < w.heap.size:=by
 obtain ⟨vs,hown,_⟩:=h
 rcases hown.2 with ⟨_,h0⟩ | ⟨g,cap,cur,e,hb,hg,_⟩
 ·omega
 ·cases e
  exact ⟨g,rfl,hb,(Array.getElem?_eq_some_iff.1 hg).1⟩
theorem OwnSecs.other (h:OwnSecs w base A n c ss) {b:Nat} {e:TypeId} {s:Nat} {v:Value} {k:Nat} {xs:List Value} (hx:w.ownsRow b e s v k xs) (h1:112≠e) (h2:5≠e) (hg:w.grownBy w' v.ownBlock):OwnSecs w' base A n c ss :=
 h.keep fun g' e' cs' he _ hc=>by
  refine hg.block g' (Array.getElem?_eq_some_iff.1 hc).1 (fun e2=>?_)
  rcases hx.2 with ⟨rfl,_⟩ | ⟨g2,cap,cur,rfl,_,hg2,_⟩
  ·simp [Value.ownBlock] at e2
  ·have e3:g'=g2:=by simpa [Value.ownBlock] using e2
   subst e3
   rw [hg2] at hc
   simp at hc
   rcases he with rfl | rfl
   ·exact h1 hc.2.symm
   ·exact h2 hc.2.symm
end
theorem sec_info:(Tryz.prog.info? 112).map (fun i=>(i.zero,i.size,i.bytes))=some (some (.agg #[.slice none 0 0,.bool false]),2,32):=by kernel_rfl
theorem OwnSecs.setTxt {w:World} {base:Nat} {A:Option Addr} {n c:Nat} {ss:List Sec} (h:OwnSecs w base A n c ss) {i:Nat} (hi:i < n) {Ai:Option Addr} {ni ci:Nat} {x:Bool} {zs:List Int} (hz:∀ z ∈ zs,isByte z)
  (ho:OwnTxt w base Ai ni ci zs) :
  ∃ g u v,A=some ⟨g,0,none⟩∧base≤g∧w.cell? ⟨g,i * 2,none⟩=some u∧w.cell? ⟨g,i * 2 + 1,none⟩=some v∧w.frozen? ⟨g,i * 2,none⟩=false∧w.frozen? ⟨g,i * 2 + 1,none⟩=false ∧
   OwnSecs ((w.setCell ⟨g,i * 2,none⟩ (.slice Ai ni ci)).setCell ⟨g,i * 2 + 1,none⟩ (.bool x)) base A n c (ss.set i (x,zs)):=by
 obtain ⟨vs,hown,hl,hby,hin⟩:=h
 have hvl:vs.length=n * 2:=hown.1
 obtain ⟨g,u,rfl,hbg,hc,hf,hset⟩:=owns_at2 hown (show i * 2 < n * 2 by omega)
 have hown1:=hset (.slice Ai ni ci)
 obtain ⟨g',v,e',_,hc1,hf1,hset1⟩:=owns_at2 hown1 (show i * 2 + 1 < n * 2 by omega)
 cases e'
 have hc1':w.cell? ⟨g,i * 2 + 1,none⟩=vs[i * 2 + 1]?:=hown.cellAt _ (by omega)
 have hlt:vs[i * 2 + 1]?=some vs[i * 2 + 1]:=List.getElem?_eq_getElem (by omega)
 have hf1':w.frozen? ⟨g,i * 2 + 1,none⟩=false:=hown.frozenAt _
 refine ⟨g,u,vs[i * 2 + 1],rfl,hbg,hc,hc1'.trans hlt,hf,hf1',_,hset1 (.bool x),by rw [List.length_set];exact hl,?_,fun j hj=>?_⟩
 ·intro y hy z hzz
  rcases List.mem_or_eq_of_mem_set hy with hy | rfl
  ·exact hby y hy z hzz
  ·exact hz z hzz
 ·have hkeep:∀ {A':Option Addr} {n' c':Nat} {xs:List Int},OwnTxt w base A' n' c' xs→OwnTxt ((w.setCell ⟨g,i * 2,none⟩ (.slice Ai ni ci)).setCell ⟨g,i * 2 + 1,none⟩ (.bool x)) base A' n' c' xs:=fun hx =>
   hx.keep fun g' _ hu=>by
    have hne:g'≠g:=fun e=>by subst e;exact u8_row (by decide) hu hown rfl
    exact (Below.heap_setCell _ _ _ g' hne).trans (Below.heap_setCell w _ _ g' hne)
  by_cases e:i=j
  ·subst e
   refine ⟨Ai,ni,ci,?_,?_,?_⟩
   ·rw [List.getElem?_set_ne (by omega),List.getElem?_set_self (by omega)]
   ·rw [List.getElem?_set_self (by rw [List.length_set];omega)]
    simp [List.getD_eq_getElem?_getD,show i < ss.length by omega]
   ·have e2:(ss.set i (x,zs)).getD i (false,[])=(x,zs):=by simp [List.getD_eq_getElem?_getD,show i < ss.length by omega]
    rw [e2]
    exact hkeep ho
  ·obtain ⟨Aj,nj,cj,hv,hx,hoj⟩:=hin j hj
   have e2:(ss.set i (x,zs)).getD j (false,[])=ss.getD j (false,[]):=by simp [List.getD_eq_getElem?_getD,List.getElem?_set_ne e]
   refine ⟨Aj,nj,cj,?_,?_,by rw [e2];exact hkeep hoj⟩
   ·rw [List.getElem?_set_ne (by omega),List.getElem?_set_ne (by omega)];exact hv
   ·rw [List.getElem?_set_ne (by omega),List.getElem?_set_ne (by omega),e2];exact hx
theorem OwnSecs.snoc {w w':World} {base:Nat} {A A' Ai:Option Addr} {n c c' ni ci:Nat} {ss:List Sec} {x:Bool} {zs:List Int} {vs:List Value} (hown0:w.ownsRow base 112 2 (.slice A n c) n vs) (hl:ss.length=n) (hby:∀ s ∈ ss,∀ z ∈ s.2,isByte z)
  (hin:∀ i,i < n→∃ Ai ni ci,vs[i * 2]?=some (.slice Ai ni ci)∧vs[i * 2 + 1]?=some (.bool (ss.getD i (false,[])).1)∧OwnTxt w base Ai ni ci (ss.getD i (false,[])).2) (hz:∀ z ∈ zs,isByte z)
  (ho:OwnTxt w base Ai ni ci zs) (hg:w.grownBy w' (Value.slice A n c).ownBlock)
  (hown:w'.ownsRow base 112 2 (.slice A' (n + 1) c') (n + 1) (vs ++ [(.slice Ai ni ci),(.bool x)])):OwnSecs w' base A' (n + 1) c' (ss ++ [(x,zs)]):=by
 have hvl:vs.length=n * 2:=hown0.1
 have hkeep:∀ {A':Option Addr} {n' c':Nat} {xs:List Int},OwnTxt w base A' n' c' xs→OwnTxt w' base A' n' c' xs:=fun hx =>
  hx.keep fun g' _ hu=>hg.block g' (by obtain ⟨cs,hc⟩:=hu;exact (Array.getElem?_eq_some_iff.1 hc).1) (fun e=>u8_row (by decide) hu hown0 e.symm)
 refine ⟨_,hown,by simp [hl],?_,fun j hj=>?_⟩
 ·intro y hy z hzz
  rcases List.mem_append.1 hy with hy | hy
  ·exact hby y hy z hzz
  ·rw [List.mem_singleton] at hy
   subst hy
   exact hz z hzz
 ·by_cases e:j=n
  ·subst e
   have e2:(ss ++ [(x,zs)]).getD j (false,[])=(x,zs):=by simp [List.getD_eq_getElem?_getD,hl]
   refine ⟨Ai,ni,ci,?_,?_,by rw [e2];exact hkeep ho⟩
   ·rw [List.getElem?_append_right (by omega),show j * 2 - vs.length=0 from by omega];rfl
   ·rw [List.getElem?_append_right (by omega),e2,show j * 2 + 1 - vs.length=1 from by omega];rfl
  ·obtain ⟨Aj,nj,cj,hv,hx,hoj⟩:=hin j (by omega)
   have e2:(ss ++ [(x,zs)]).getD j (false,[])=ss.getD j (false,[]):=by simp [List.getD_eq_getElem?_getD,List.getElem?_append_left (show j < ss.length by omega)]
   refine ⟨Aj,nj,cj,?_,?_,by rw [e2];exact hkeep hoj⟩
   ·rw [List.getElem?_append_left (by omega)];exact hv
   ·rw [List.getElem?_append_left (by omega),e2];exact hx
theorem run_sec (w0 w:World) (ty:TypeId) (base:Nat) (A0:Option Addr) (n c0:Nat) (ss:List Sec) (hown:OwnSecs w base A0 n c0 ss)
  (Ai:Option Addr) (ni ci:Nat) (x:Bool) (zs:List Int) (hb:∀ z ∈ zs,isByte z) (hoi:w.ownsRow base 5 1 (.slice Ai ni ci) ni (ints .u8 zs))
  (h63:n + 1≤100000) (hbel:Below base w0 w) (hw0:base≤w0.heap.size) :
  ∃ g' c' w',(Builtin.append_ #[22,22] ty #[.slice A0 n c0,.slice (some ⟨w.heap.size,0,none⟩) 1 1]).run Tryz.prog (w.alloc (.cells #[(.slice Ai ni ci),(.bool x)] 112))=.ok (.slice (some ⟨g',0,none⟩) (n + 1) c') w'∧OwnSecs w' base (some ⟨g',0,none⟩) (n + 1) c' (ss ++ [(x,zs)])∧Below base w0 w' ∧
   (w.alloc (.cells #[(.slice Ai ni ci),(.bool x)] 112)).grownBy w' (Value.slice A0 n c0).ownBlock:=by
 obtain ⟨i,hi,hz,hsize,hby⟩:=info_parts sec_info
 have hml:(100000:Nat)≤maxLen:=by decide
 obtain ⟨vs,hv,hl,hby2,hin⟩:=hown
 have hbase:base≤w.heap.size:=Nat.le_trans hw0 hbel.size
 have hblk:=Blk.new w 112 [(.slice Ai ni ci),(.bool x)]
 obtain ⟨v',w',hrun,hown',hg,_⟩:=run_app2 (P:=Tryz.prog) (w.alloc (.cells #[(.slice Ai ni ci),(.bool x)] 112)) base 22 ty 112 i _ 32 Tryz.underlying22 hi hz hsize hby rfl _ n vs (hv.allocated _) w.heap.size (.slice Ai ni ci) (.bool x) hblk rfl rfl (by omega) (by omega) (by simp;omega)
 obtain ⟨g',c',rfl⟩:=ownsRow_some hown'
 have hfin:OwnSecs w' base (some ⟨g',0,none⟩) (n + 1) c' (ss ++ [(x,zs)]):=OwnSecs.snoc (hv.allocated _) hl hby2 (fun i hi=>by
  obtain ⟨Aj,nj,cj,e,ex,hj⟩:=hin i hi
  exact ⟨Aj,nj,cj,e,ex,hj.allocated _⟩) hb (OwnTxt.of (hoi.allocated _)) hg hown'
 exact ⟨g',c',w',hrun,hfin,(hbel.alloc hbase _).grown hg (by simp;omega) (fun g e=>(hv.lt g e).1),hg⟩
theorem step_sec (w0 w:World) {ops:Array Oper} {o:Oper} {a:Act} {K:Act→World→Prop} {Q:Exit→Act→World→Prop} {E:Prop} (hgd:o.guard=none) (s y:Operand)
  (ho:o.op=.call { callee:=.builtin .append,args:=#[s,y],argTypes:=#[22,22] }) (base:Nat) (A0:Option Addr) (n c0:Nat) (ss:List Sec) (hs:a.eval s=.slice A0 n c0) (hown:OwnSecs w base A0 n c0 ss)
  (Ai:Option Addr) (ni ci:Nat) (x:Bool) (zs:List Int) (hb:∀ z ∈ zs,isByte z) (hoi:w.ownsRow base 5 1 (.slice Ai ni ci) ni (ints .u8 zs)) (hy:a.eval y=.slice (some ⟨w.heap.size,0,none⟩) 1 1)
  (h63:n + 1≤100000) (hbel:Below base w0 w) (hw0:base≤w0.heap.size)
  (h:∀ g' c' w',OwnSecs w' base (some ⟨g',0,none⟩) (n + 1) c' (ss ++ [(x,zs)])→Below base w0 w'→(w.alloc (.cells #[(.slice Ai ni ci),(.bool x)] 112)).grownBy w' (Value.slice A0 n c0).ownBlock→K (a.put o.dst (.slice (some ⟨g',0,none⟩) (n + 1) c')) w') :
  if Region.wanted o (yielded ops a.tmps)=true then Oper.wp Tryz.prog o a (w.alloc (.cells #[(.slice Ai ni ci),(.bool x)] 112)) K Q else E:=by
 have hw:Region.wanted o (yielded ops a.tmps)=true:=by simp [Region.wanted,hgd]
 rw [if_pos hw]
 obtain ⟨g',c',w',hrun,h2,h3,h4⟩:=run_sec w0 w o.type base A0 n c0 ss hown Ai ni ci x zs hb hoi h63 hbel hw0
 unfold Oper.wp execOp
 simp only [ho,resolve,invoke,builtin,Sem.run_bind,Sem.run_pure,Result.andThen_ok,List.map_toArray,List.map_cons,List.map_nil,hs,hy,hrun]
 exact h g' c' w' h2 h3 h4
end Go.Proofs.YtifgcfepbenpjaaGreat
namespace Go.Proofs.YtifgcfepbenpjaaGreat
open Go.RowKit Go.OpenShut Go.ChangeShapes Go.WideShapes Go.Deep
structure Pnds (w:World) (A:Option Addr) (n c:Nat) (ss:List Pnd):Prop where
 len:ss.length=n
 cap:n≤c
 max:c≤maxLen
 byte:∀ s ∈ ss,∀ z ∈ s.2,isByte z
 at_:∀ i,i < n→∃ b o Ai ni ci,A=some ⟨b,o,none⟩∧b < w.heap.size∧w.cell? ⟨b,o + i * 2 + 1,none⟩=some (.slice Ai ni ci)∧w.cell? ⟨b,o + i * 2,none⟩=some (.int .i64 (ss.getD i (0,[])).1)∧Arg w .u8 Ai ni ci (ss.getD i (0,[])).2
section
variable {w w':World} {A:Option Addr} {n c:Nat} {ss:List Pnd}
theorem Pnds.below (h:Pnds w A n c ss) (hb:Below w.heap.size w w'):Pnds w' A n c ss :=
 ⟨h.len,h.cap,h.max,h.byte,fun i hi=>by
  obtain ⟨b,o,Ai,ni,ci,e,hlt,hc,hx,ha⟩:=h.at_ i hi
  exact ⟨b,o,Ai,ni,ci,e,Nat.lt_of_lt_of_le hlt hb.size,(hb.cell (p:=⟨b,_,none⟩) hlt).trans hc,(hb.cell (p:=⟨b,_,none⟩) hlt).trans hx,ha.below hb⟩⟩
theorem Pnds.nil (w:World):Pnds w none 0 0 []:=⟨rfl,Nat.le_refl _,by decide,by simp,fun i hi=>by omega⟩
theorem Pnds.byte_at (h:Pnds w A n c ss) (i:Nat):∀ z ∈ (ss.getD i (0,[])).2,isByte z:=by
 rcases Nat.lt_or_ge i ss.length with hi | hi
 ·rw [gtD,geE hi]
  exact h.byte _ (List.getElem_mem hi)
 ·rw [gtD,List.getElem?_eq_none hi]
  simp
end
def OwnPnds (w:World) (base:Nat) (A:Option Addr) (n c:Nat) (ss:List Pnd):Prop :=
 ∃ vs:List Value,w.ownsRow base 114 2 (.slice A n c) n vs∧ss.length=n∧(∀ s ∈ ss,∀ z ∈ s.2,isByte z) ∧
  ∀ i,i < n→∃ Ai ni ci,vs[i * 2 + 1]?=some (.slice Ai ni ci)∧vs[i * 2]?=some (.int .i64 (ss.getD i (0,[])).1)∧OwnTxt w base Ai ni ci (ss.getD i (0,[])).2
section
variable {w w':World} {base base':Nat} {A:Option Addr} {n c:Nat} {ss:List Pnd}
theorem Pnds.of_own (h:OwnPnds w base A n c ss):Pnds w A n c ss:=by
 obtain ⟨vs,hown,hl,hb,hin⟩:=h
 refine ⟨hl,?_,?_,hb,fun i hi=>?_⟩
 ·rcases hown.2 with ⟨e,h0⟩ | ⟨g,cap,cur,e,_,_,h1,h2,_⟩ <;> cases e
  ·exact Nat.le_refl _
  ·exact h1
 ·rcases hown.2 with ⟨e,h0⟩ | ⟨g,cap,cur,e,_,_,h1,h2,_⟩ <;> cases e
  ·decide
  ·exact h2
 ·obtain ⟨Ai,ni,ci,hv,hx,ho⟩:=hin i hi
  obtain ⟨b,e,hlt,hc⟩:=owns_cell hown hv
  obtain ⟨b',e',_,hcx⟩:=owns_cell hown hx
  rw [e] at e'
  cases e'
  exact ⟨b,0,Ai,ni,ci,e,hlt,by rw [Nat.zero_add];exact hc,by rw [Nat.zero_add];exact hcx,ho.arg⟩
theorem OwnPnds.below (h:OwnPnds w base A n c ss) (hb:Below w.heap.size w w'):OwnPnds w' base A n c ss:=by
 obtain ⟨vs,hown,hl,hby,hin⟩:=h
 refine ⟨vs,owns_below hown hb,hl,hby,fun i hi=>?_⟩
 obtain ⟨Ai,ni,ci,hv,hx,ho⟩:=hin i hi
 exact ⟨Ai,ni,ci,hv,hx,ho.below hb⟩
theorem OwnPnds.lower (h:OwnPnds w base A n c ss) (hb:base'≤base):OwnPnds w base' A n c ss:=by
 obtain ⟨vs,hown,hl,hby,hin⟩:=h
 refine ⟨vs,owns_base hown hb,hl,hby,fun i hi=>?_⟩
 obtain ⟨Ai,ni,ci,hv,hx,ho⟩:=hin i hi
 exact ⟨Ai,ni,ci,hv,hx,ho.lower hb⟩
theorem OwnPnds.nil (w:World) (base:Nat):OwnPnds w base none 0 0 []:=⟨[],World.ownsRow_nil _ _ _ _,rfl,by simp,fun i hi=>by omega⟩
theorem OwnPnds.keep (h:OwnPnds w base A n c ss) (hk:∀ (g:Nat) (e:TypeId) (cs:Array Value),(e=114∨e=5)→base≤g→w.heap[g]?=some (.cells cs e (0,0))→w'.heap[g]?=w.heap[g]?):OwnPnds w' base A n c ss:=by
 obtain ⟨vs,hown,hl,hby,hin⟩:=h
 refine ⟨vs,owns_keep hown fun g cs hg hc=>hk g _ cs (.inl rfl) hg hc,hl,hby,fun i hi=>?_⟩
 obtain ⟨Ai,ni,ci,hv,hx,ho⟩:=hin i hi
 exact ⟨Ai,ni,ci,hv,hx,ho.keep fun g hg hu=>by
  obtain ⟨cs,hc⟩:=hu
  exact hk g _ cs (.inr rfl) hg hc⟩
theorem OwnPnds.kept (h:OwnPnds w base A n c ss) {row:Option Nat} (hg:w.grownBy w' row) (hr:∀ g,row=some g→g < base):OwnPnds w' base A n c ss :=
 h.keep fun g _ _ _ hb hc=>hg.block g (Array.getElem?_eq_some_iff.1 hc).1 (fun e=>by have:=hr g e.symm;omega)
theorem OwnPnds.away (h:OwnPnds w base A n c ss) {g:Nat} (hg:g < base) (i:Nat) (u:Value):OwnPnds (w.setCell ⟨g,i,none⟩ u) base A n c ss :=
 h.kept (grownBy_set w g i u) (fun _ e=>by injection e with e;omega)
theorem OwnPnds.box (h:OwnPnds w base A n c ss) {g:Nat} {t:TypeId} {cs:List Value} (hb:Blk w g t cs) (h1:t≠114) (h2:t≠5) (i:Nat) (u:Value):OwnPnds (w.setCell ⟨g,i,none⟩ u) base A n c ss :=
 h.keep fun g' e cs' he _ hc=>by
  refine Below.heap_setCell w _ u g' (fun e2=>?_)
  subst e2
  unfold Blk at hb
  rw [hb] at hc
  simp at hc
  rcases he with rfl | rfl
  ·exact h1 hc.2
  ·exact h2 hc.2
theorem OwnPnds.other (h:OwnPnds w base A n c ss) {b:Nat} {e:TypeId} {s:Nat} {v:Value} {k:Nat} {xs:List Value} (hx:w.ownsRow b e s v k xs) (h1:114≠e) (h2:5≠e) (hg:w.grownBy w' v.ownBlock):OwnPnds w' base A n c ss :=
 h.keep fun g' e' cs' he _ hc=>by
  refine hg.block g' (Array.getElem?_eq_some_iff.1 hc).1 (fun e2=>?_)
  rcases hx.2 with ⟨rfl,_⟩ | ⟨g2,cap,cur,rfl,_,hg2,_⟩
  ·simp [Value.ownBlock] at e2
  ·have e3:g'=g2:=by simpa [Value.ownBlock] using e2
   subst e3
   rw [hg2] at hc
   simp at hc
   rcases he with rfl | rfl
   ·exact h1 hc.2.symm
   ·exact h2 hc.2.symm
end
theorem pnd_info:(Tryz.prog.info? 114).map (fun i=>(i.zero,i.size,i.bytes))=some (some (.agg #[.int .i64 0,.slice none 0 0]),2,32):=by kernel_rfl
theorem OwnPnds.setTxt {w:World} {base:Nat} {A:Option Addr} {n c:Nat} {ss:List Pnd} (h:OwnPnds w base A n c ss) {i:Nat} (hi:i < n) {Ai:Option Addr} {ni ci:Nat} {x:Int} {zs:List Int} (hz:∀ z ∈ zs,isByte z)
  (ho:OwnTxt w base Ai ni ci zs) :
  ∃ g u v,A=some ⟨g,0,none⟩∧base≤g∧w.cell? ⟨g,i * 2,none⟩=some u∧w.cell? ⟨g,i * 2 + 1,none⟩=some v∧w.frozen? ⟨g,i * 2,none⟩=false∧w.frozen? ⟨g,i * 2 + 1,none⟩=false ∧
   OwnPnds ((w.setCell ⟨g,i * 2,none⟩ (.int .i64 x)).setCell ⟨g,i * 2 + 1,none⟩ (.slice Ai ni ci)) base A n c (ss.set i (x,zs)):=by
 obtain ⟨vs,hown,hl,hby,hin⟩:=h
 have hvl:vs.length=n * 2:=hown.1
 obtain ⟨g,u,rfl,hbg,hc,hf,hset⟩:=owns_at2 hown (show i * 2 < n * 2 by omega)
 have hown1:=hset (.int .i64 x)
 obtain ⟨g',v,e',_,hc1,hf1,hset1⟩:=owns_at2 hown1 (show i * 2 + 1 < n * 2 by omega)
 cases e'
 have hc1':w.cell? ⟨g,i * 2 + 1,none⟩=vs[i * 2 + 1]?:=hown.cellAt _ (by omega)
 have hlt:vs[i * 2 + 1]?=some vs[i * 2 + 1]:=List.getElem?_eq_getElem (by omega)
 have hf1':w.frozen? ⟨g,i * 2 + 1,none⟩=false:=hown.frozenAt _
 refine ⟨g,u,vs[i * 2 + 1],rfl,hbg,hc,hc1'.trans hlt,hf,hf1',_,hset1 (.slice Ai ni ci),by rw [List.length_set];exact hl,?_,fun j hj=>?_⟩
 ·intro y hy z hzz
  rcases List.mem_or_eq_of_mem_set hy with hy | rfl
  ·exact hby y hy z hzz
  ·exact hz z hzz
 ·have hkeep:∀ {A':Option Addr} {n' c':Nat} {xs:List Int},OwnTxt w base A' n' c' xs→OwnTxt ((w.setCell ⟨g,i * 2,none⟩ (.int .i64 x)).setCell ⟨g,i * 2 + 1,none⟩ (.slice Ai ni ci)) base A' n' c' xs:=fun hx =>
   hx.keep fun g' _ hu=>by
    have hne:g'≠g:=fun e=>by subst e;exact u8_row (by decide) hu hown rfl
    exact (Below.heap_setCell _ _ _ g' hne).trans (Below.heap_setCell w _ _ g' hne)
  by_cases e:i=j
  ·subst e
   refine ⟨Ai,ni,ci,?_,?_,?_⟩
   ·rw [List.getElem?_set_self (by rw [List.length_set];omega)]
   ·rw [List.getElem?_set_ne (by omega),List.getElem?_set_self (by omega)]
    simp [List.getD_eq_getElem?_getD,show i < ss.length by omega]
   ·have e2:(ss.set i (x,zs)).getD i (0,[])=(x,zs):=by simp [List.getD_eq_getElem?_getD,show i < ss.length by omega]
    rw [e2]
    exact hkeep ho
  ·obtain ⟨Aj,nj,cj,hv,hx,hoj⟩:=hin j hj
   have e2:(ss.set i (x,zs)).getD j (0,[])=ss.getD j (0,[]):=by simp [List.getD_eq_getElem?_getD,List.getElem?_set_ne e]
   refine ⟨Aj,nj,cj,?_,?_,by rw [e2];exact hkeep hoj⟩
   ·rw [List.getElem?_set_ne (by omega),List.getElem?_set_ne (by omega)];exact hv
   ·rw [List.getElem?_set_ne (by omega),List.getElem?_set_ne (by omega),e2];exact hx
theorem OwnPnds.snoc {w w':World} {base:Nat} {A A' Ai:Option Addr} {n c c' ni ci:Nat} {ss:List Pnd} {x:Int} {zs:List Int} {vs:List Value} (hown0:w.ownsRow base 114 2 (.slice A n c) n vs) (hl:ss.length=n) (hby:∀ s ∈ ss,∀ z ∈ s.2,isByte z)
  (hin:∀ i,i < n→∃ Ai ni ci,vs[i * 2 + 1]?=some (.slice Ai ni ci)∧vs[i * 2]?=some (.int .i64 (ss.getD i (0,[])).1)∧OwnTxt w base Ai ni ci (ss.getD i (0,[])).2) (hz:∀ z ∈ zs,isByte z)
  (ho:OwnTxt w base Ai ni ci zs) (hg:w.grownBy w' (Value.slice A n c).ownBlock)
  (hown:w'.ownsRow base 114 2 (.slice A' (n + 1) c') (n + 1) (vs ++ [(.int .i64 x),(.slice Ai ni ci)])):OwnPnds w' base A' (n + 1) c' (ss ++ [(x,zs)]):=by
 have hvl:vs.length=n * 2:=hown0.1
 have hkeep:∀ {A':Option Addr} {n' c':Nat} {xs:List Int},OwnTxt w base A' n' c' xs→OwnTxt w' base A' n' c' xs:=fun hx =>
  hx.keep fun g' _ hu=>hg.block g' (by obtain ⟨cs,hc⟩:=hu;exact (Array.getElem?_eq_some_iff.1 hc).1) (fun e=>u8_row (by decide) hu hown0 e.symm)
 refine ⟨_,hown,by simp [hl],?_,fun j hj=>?_⟩
 ·intro y hy z hzz
  rcases List.mem_append.1 hy with hy | hy
  ·exact hby y hy z hzz
  ·rw [List.mem_singleton] at hy
   subst hy
   exact hz z hzz
 ·by_cases e:j=n
  ·subst e
   have e2:(ss ++ [(x,zs)]).getD j (0,[])=(x,zs):=by simp [List.getD_eq_getElem?_getD,hl]
   refine ⟨Ai,ni,ci,?_,?_,by rw [e2];exact hkeep ho⟩
   ·rw [List.getElem?_append_right (by omega),show j * 2 + 1 - vs.length=1 from by omega];rfl
   ·rw [List.getElem?_append_right (by omega),e2,show j * 2 - vs.length=0 from by omega];rfl
  ·obtain ⟨Aj,nj,cj,hv,hx,hoj⟩:=hin j (by omega)
   have e2:(ss ++ [(x,zs)]).getD j (0,[])=ss.getD j (0,[]):=by simp [List.getD_eq_getElem?_getD,List.getElem?_append_left (show j < ss.length by omega)]
   refine ⟨Aj,nj,cj,?_,?_,by rw [e2];exact hkeep hoj⟩
   ·rw [List.getElem?_append_left (by omega)];exact hv
   ·rw [List.getElem?_append_left (by omega),e2];exact hx
theorem run_pnd (w0 w:World) (ty:TypeId) (base:Nat) (A0:Option Addr) (n c0:Nat) (ss:List Pnd) (hown:OwnPnds w base A0 n c0 ss)
  (Ai:Option Addr) (ni ci:Nat) (x:Int) (zs:List Int) (hb:∀ z ∈ zs,isByte z) (hoi:w.ownsRow base 5 1 (.slice Ai ni ci) ni (ints .u8 zs))
  (h63:n + 1≤100000) (hbel:Below base w0 w) (hw0:base≤w0.heap.size) :
  ∃ g' c' w',(Builtin.append_ #[23,23] ty #[.slice A0 n c0,.slice (some ⟨w.heap.size,0,none⟩) 1 1]).run Tryz.prog (w.alloc (.cells #[(.int .i64 x),(.slice Ai ni ci)] 114))=.ok (.slice (some ⟨g',0,none⟩) (n + 1) c') w'∧OwnPnds w' base (some ⟨g',0,none⟩) (n + 1) c' (ss ++ [(x,zs)])∧Below base w0 w' ∧
   (w.alloc (.cells #[(.int .i64 x),(.slice Ai ni ci)] 114)).grownBy w' (Value.slice A0 n c0).ownBlock:=by
 obtain ⟨i,hi,hz,hsize,hby⟩:=info_parts pnd_info
 have hml:(100000:Nat)≤maxLen:=by decide
 obtain ⟨vs,hv,hl,hby2,hin⟩:=hown
 have hbase:base≤w.heap.size:=Nat.le_trans hw0 hbel.size
 have hblk:=Blk.new w 114 [(.int .i64 x),(.slice Ai ni ci)]
 obtain ⟨v',w',hrun,hown',hg,_⟩:=run_app2 (P:=Tryz.prog) (w.alloc (.cells #[(.int .i64 x),(.slice Ai ni ci)] 114)) base 23 ty 114 i _ 32 Tryz.underlying23 hi hz hsize hby rfl _ n vs (hv.allocated _) w.heap.size (.int .i64 x) (.slice Ai ni ci) hblk rfl rfl (by omega) (by omega) (by simp;omega)
 obtain ⟨g',c',rfl⟩:=ownsRow_some hown'
 have hfin:OwnPnds w' base (some ⟨g',0,none⟩) (n + 1) c' (ss ++ [(x,zs)]):=OwnPnds.snoc (hv.allocated _) hl hby2 (fun i hi=>by
  obtain ⟨Aj,nj,cj,e,ex,hj⟩:=hin i hi
  exact ⟨Aj,nj,cj,e,ex,hj.allocated _⟩) hb (OwnTxt.of (hoi.allocated _)) hg hown'
 exact ⟨g',c',w',hrun,hfin,(hbel.alloc hbase _).grown hg (by simp;omega) (fun g e=>(hv.lt g e).1),hg⟩
theorem step_pnd (w0 w:World) {ops:Array Oper} {o:Oper} {a:Act} {K:Act→World→Prop} {Q:Exit→Act→World→Prop} {E:Prop} (hgd:o.guard=none) (s y:Operand)
  (ho:o.op=.call { callee:=.builtin .append,args:=#[s,y],argTypes:=#[23,23] }) (base:Nat) (A0:Option Addr) (n c0:Nat) (ss:List Pnd) (hs:a.eval s=.slice A0 n c0) (hown:OwnPnds w base A0 n c0 ss)
  (Ai:Option Addr) (ni ci:Nat) (x:Int) (zs:List Int) (hb:∀ z ∈ zs,isByte z) (hoi:w.ownsRow base 5 1 (.slice Ai ni ci) ni (ints .u8 zs)) (hy:a.eval y=.slice (some ⟨w.heap.size,0,none⟩) 1 1)
  (h63:n + 1≤100000) (hbel:Below base w0 w) (hw0:base≤w0.heap.size)
  (h:∀ g' c' w',OwnPnds w' base (some ⟨g',0,none⟩) (n + 1) c' (ss ++ [(x,zs)])→Below base w0 w'→(w.alloc (.cells #[(.int .i64 x),(.slice Ai ni ci)] 114)).grownBy w' (Value.slice A0 n c0).ownBlock→K (a.put o.dst (.slice (some ⟨g',0,none⟩) (n + 1) c')) w') :
  if Region.wanted o (yielded ops a.tmps)=true then Oper.wp Tryz.prog o a (w.alloc (.cells #[(.int .i64 x),(.slice Ai ni ci)] 114)) K Q else E:=by
 have hw:Region.wanted o (yielded ops a.tmps)=true:=by simp [Region.wanted,hgd]
 rw [if_pos hw]
 obtain ⟨g',c',w',hrun,h2,h3,h4⟩:=run_pnd w0 w o.type base A0 n c0 ss hown Ai ni ci x zs hb hoi h63 hbel hw0
 unfold Oper.wp execOp
 simp only [ho,resolve,invoke,builtin,Sem.run_bind,Sem.run_pure,Result.andThen_ok,List.map_toArray,List.map_cons,List.map_nil,hs,hy,hrun]
 exact h g' c' w' h2 h3 h4
end Go.Proofs.YtifgcfepbenpjaaGreat
namespace Go.Proofs.YtifgcfepbenpjaaGreat
open Go.RowKit Go.OpenShut Go.ChangeShapes Go.WideShapes Go.Deep Go.Joins
abbrev diskV (A:Option Addr) (n c:Nat) (A':Option Addr) (n' c':Nat):Value:=.agg #[.slice A n c,.slice A' n' c']
structure Dsk (w:World) (A:Option Addr) (n c:Nat) (A':Option Addr) (n' c':Nat) (S:List Sec) (C:List Pnd):Prop where
 secs:Secs w A n c S
 pnds:Pnds w A' n' c' C
structure OwnDsk (w:World) (base:Nat) (A:Option Addr) (n c:Nat) (A':Option Addr) (n' c':Nat) (S:List Sec) (C:List Pnd):Prop where
 secs:OwnSecs w base A n c S
 pnds:OwnPnds w base A' n' c' C
section
variable {w w':World} {base base':Nat} {A A':Option Addr} {n c n' c':Nat} {S:List Sec} {C:List Pnd}
theorem Dsk.below (h:Dsk w A n c A' n' c' S C) (hb:Below w.heap.size w w'):Dsk w' A n c A' n' c' S C:=⟨h.secs.below hb,h.pnds.below hb⟩
theorem Dsk.of_own (h:OwnDsk w base A n c A' n' c' S C):Dsk w A n c A' n' c' S C:=⟨Secs.of_own h.secs,Pnds.of_own h.pnds⟩
theorem OwnDsk.below (h:OwnDsk w base A n c A' n' c' S C) (hb:Below w.heap.size w w'):OwnDsk w' base A n c A' n' c' S C:=⟨h.secs.below hb,h.pnds.below hb⟩
theorem OwnDsk.lower (h:OwnDsk w base A n c A' n' c' S C) (hb:base'≤base):OwnDsk w base' A n c A' n' c' S C:=⟨h.secs.lower hb,h.pnds.lower hb⟩
theorem OwnDsk.nil (w:World) (base:Nat):OwnDsk w base none 0 0 none 0 0 [] []:=⟨OwnSecs.nil _ _,OwnPnds.nil _ _⟩
theorem OwnDsk.away (h:OwnDsk w base A n c A' n' c' S C) {g:Nat} (hg:g < base) (i:Nat) (u:Value):OwnDsk (w.setCell ⟨g,i,none⟩ u) base A n c A' n' c' S C:=⟨h.secs.away hg i u,h.pnds.away hg i u⟩
theorem OwnDsk.box (h:OwnDsk w base A n c A' n' c' S C) {g:Nat} {cs:List Value} (hb:Blk w g 25 cs) (i:Nat) (u:Value):OwnDsk (w.setCell ⟨g,i,none⟩ u) base A n c A' n' c' S C :=
 ⟨h.secs.box hb (by decide) (by decide) i u,h.pnds.box hb (by decide) (by decide) i u⟩
end
theorem Blk.two {w:World} {g:Nat} {t:TypeId} {a b:Value} (h:Blk w g t [a,b]) (x y:Value):Blk ((w.setCell ⟨g,0,none⟩ x).setCell ⟨g,1,none⟩ y) g t [x,y]:=(h.set 0 x).set 1 y
theorem Blk.away {w:World} {g g':Nat} {t:TypeId} {cs:List Value} (h:Blk w g t cs) (hg:g≠g') (i:Nat) (u:Value):Blk (w.setCell ⟨g',i,none⟩ u) g t cs :=
 h.grown (grownBy_set w g' i u) (fun e=>hg (by injection e))
theorem below_two {B:Nat} {w0 w:World} (h:Below B w0 w) {g:Nat} (hg:B≤g) (x y:Value):Below B w0 ((w.setCell ⟨g,0,none⟩ x).setCell ⟨g,1,none⟩ y) :=
 (h.setCell (p:=⟨g,0,none⟩) hg x).setCell (p:=⟨g,1,none⟩) hg y
theorem OwnDsk.two {w:World} {base:Nat} {A A':Option Addr} {n c n' c':Nat} {S:List Sec} {C:List Pnd} (h:OwnDsk w base A n c A' n' c' S C) {g:Nat} {cs:List Value} (hb:Blk w g 25 cs) (x y:Value) :
  OwnDsk ((w.setCell ⟨g,0,none⟩ x).setCell ⟨g,1,none⟩ y) base A n c A' n' c' S C:=(h.box hb 0 x).box (hb.set 0 x) 1 y
theorem OwnSecs.beside {w w':World} {base b:Nat} {A B:Option Addr} {n c m d:Nat} {S:List Sec} {C:List Pnd} (h:OwnSecs w base A n c S) (hp:OwnPnds w b B m d C) (hg:w.grownBy w' (Value.slice B m d).ownBlock):OwnSecs w' base A n c S:=by
 obtain ⟨vs,hown,_⟩:=hp
 exact h.other hown (by decide) (by decide) hg
theorem OwnPnds.not_blk {w:World} {base g:Nat} {A:Option Addr} {n c:Nat} {C:List Pnd} {cs:List Value} (h:OwnPnds w base A n c C) (hb:Blk w g 25 cs):some g≠(Value.slice A n c).ownBlock:=by
 obtain ⟨vs,hown,_⟩:=h
 intro e
 rcases hown.2 with ⟨e2,_⟩ | ⟨g',cap,cur,e2,_,hg',_⟩ <;> cases e2
 ·simp [Value.ownBlock] at e
 ·have e3:g=g':=by simpa [Value.ownBlock] using e
  subst e3
  unfold Blk at hb
  rw [hb] at hg'
  simp at hg'
theorem below_base {B B':Nat} {w w':World} (h:Below B w w') (hb:B'≤B):Below B' w w':=h.mono hb
theorem box_disk (w:World) (A:Option Addr) (n c:Nat) (A':Option Addr) (n' c':Nat) :
  (w.alloc (.cells #[.slice A n c,.slice A' n' c'] 25)).cell? ⟨w.heap.size,0,none⟩=some (.slice A n c) ∧
  (w.alloc (.cells #[.slice A n c,.slice A' n' c'] 25)).cell? ⟨w.heap.size,1,none⟩=some (.slice A' n' c') :=
 ⟨(Blk.new w 25 [.slice A n c,.slice A' n' c']).cell 0,(Blk.new w 25 [.slice A n c,.slice A' n' c']).cell 1⟩
theorem boxes2 (w:World) (A:Option Addr) (n c:Nat) (A':Option Addr) (n' c':Nat) (B:Option Addr) (k d:Nat) (B':Option Addr) (k' d':Nat) :
  Blk ((w.alloc (.cells #[.slice A n c,.slice A' n' c'] 25)).alloc (.cells #[.slice B k d,.slice B' k' d'] 25)) w.heap.size 25 [.slice A n c,.slice A' n' c'] ∧
  Blk ((w.alloc (.cells #[.slice A n c,.slice A' n' c'] 25)).alloc (.cells #[.slice B k d,.slice B' k' d'] 25)) (w.heap.size + 1) 25 [.slice B k d,.slice B' k' d'] ∧
  Below w.heap.size w ((w.alloc (.cells #[.slice A n c,.slice A' n' c'] 25)).alloc (.cells #[.slice B k d,.slice B' k' d'] 25)):=by
 refine ⟨(Blk.new w 25 [.slice A n c,.slice A' n' c']).grown (World.grownBy_alloc _ _ none) (by simp),?_,((Below.refl _ _).alloc (Nat.le_refl _) _).alloc (by simp) _⟩
 have:=Blk.new (w.alloc (.cells #[.slice A n c,.slice A' n' c'] 25)) 25 [.slice B k d,.slice B' k' d']
 rwa [World.size_alloc] at this
theorem open_text {H:Type} {enc:TypeId × Value→H} {W:World} {fuel:Nat} {v:Value} {y:DataW H × List MemPlace} (h:DataW.trod enc Tryz.prog W 0 (fun _=>true) true fuel 42 [v]=some y) :
  ∃ A n c zs,v=.slice A n c∧Arg W .u8 A n c zs∧∀ z ∈ zs,isByte z:=by
 rcases open_ints Tryz.underlying42 Tryz.underlying5 (by kernel_rfl) h with ⟨hcs,_⟩ | ⟨x,l,c,zs,hcs,_,hl,hm,hz,_,hcell,hwz⟩
 ·have hv:v=.slice none 0 0:=by simpa using hcs
  exact ⟨none,0,0,[],hv,Arg.nil _ _,by simp⟩
 ·have hv:v=.slice (some x) l c:=by simpa using hcs
  have hrow:IsRow .u8 W (some x) l c zs:=.inr ⟨_,rfl,hl,hm,by simpa using hz,hcell,hwz⟩
  obtain ⟨ls,h1,h2⟩:=hrow.arg
  exact ⟨some x,l,c,ls,hv,h1,fun z hz=>wf_byte (h2 z hz)⟩
theorem add_none (b o i:Nat):(⟨b,o,none⟩:Addr).add i=⟨b,o + i,none⟩:=by unfold Addr.add;split <;> simp_all
theorem open_secs {H:Type} {enc:TypeId × Value→H} {W:World} {fuel:Nat} {v:Value} {y:DataW H × List MemPlace} (h:DataW.trod enc Tryz.prog W 0 (fun _=>true) true fuel 22 [v]=some y) :
  ∃ A n c ss,v=.slice A n c∧Secs W A n c ss:=by
 rcases open_slice_pairs Tryz.underlying22 Tryz.underlying112 (by kernel_rfl) rfl rfl (by kernel_rfl) (by kernel_rfl) h with ⟨hcs,_⟩ | ⟨a,len,cap,m,k,V0,V1,D0,D1,P0,P1,hcs,_,hl,hm,hmm,_,hx⟩
 ·have hv:v=.slice none 0 0:=by simpa using hcs
  exact ⟨none,0,0,[],hv,Secs.nil W⟩
 ·have hv:v=.slice (some a) len cap:=by simpa using hcs
  simp only [if_true] at hmm
  have each:∀ i,i < len→∃ s:Sec,(∃ Ai ni ci,V0 i=.slice Ai ni ci∧V1 i=.bool s.1∧Arg W .u8 Ai ni ci s.2)∧∀ z ∈ s.2,isByte z:=fun i hi=>by
   obtain ⟨_,_,h0,h1⟩:=hx i (by omega)
   obtain ⟨Ai,ni,ci,zs,e0,ha,hb⟩:=open_text h0
   obtain ⟨bb,e1,_⟩:=DataW.trod_bool Tryz.underlying4 h1
   exact ⟨(bb,zs),⟨Ai,ni,ci,e0,by simpa using e1,ha⟩,hb⟩
  obtain ⟨s,hs⟩:=choose_lt each
  refine ⟨some a,len,cap,(List.range len).map s,hv,by simp,hl,hm,?_,fun i hi=>?_⟩
  ·intro t ht
   obtain ⟨r,hr,rfl⟩:=List.mem_map.1 ht
   exact (hs r (List.mem_range.1 hr)).2
  ·obtain ⟨b,o,spot⟩:=a
   have hc0:=(hx 0 (by omega)).1
   have hsp:spot=none:=by simpa [Addr.add] using World.cell?_spot hc0
   subst hsp
   obtain ⟨hc,hc1,_,_⟩:=hx i (by omega)
   rw [add_none] at hc hc1
   obtain ⟨Ai,ni,ci,e0,e1,ha⟩:=(hs i hi).1
   have e2:((List.range len).map s).getD i (false,[])=s i:=by simp [List.getD_eq_getElem?_getD,hi]
   refine ⟨b,o,Ai,ni,ci,rfl,World.block_lt_of_cell? W _ hc,by rw [← e0];exact hc,by rw [e2,← e1];exact hc1,by rw [e2];exact ha⟩
theorem open_pnds {H:Type} {enc:TypeId × Value→H} {W:World} {fuel:Nat} {v:Value} {y:DataW H × List MemPlace} (h:DataW.trod enc Tryz.prog W 0 (fun _=>true) true fuel 23 [v]=some y) :
  ∃ A n c ss,v=.slice A n c∧Pnds W A n c ss∧∀ p ∈ ss,(Lit.int .i64 p.1).wf=true:=by
 rcases open_slice_pairs Tryz.underlying23 Tryz.underlying114 (by kernel_rfl) rfl rfl (by kernel_rfl) (by kernel_rfl) h with ⟨hcs,_⟩ | ⟨a,len,cap,m,k,V0,V1,D0,D1,P0,P1,hcs,_,hl,hm,hmm,_,hx⟩
 ·have hv:v=.slice none 0 0:=by simpa using hcs
  exact ⟨none,0,0,[],hv,Pnds.nil W,by simp⟩
 ·have hv:v=.slice (some a) len cap:=by simpa using hcs
  simp only [if_true] at hmm
  have each:∀ i,i < len→∃ s:Pnd,(∃ Ai ni ci,V1 i=.slice Ai ni ci∧V0 i=.int .i64 s.1∧Arg W .u8 Ai ni ci s.2)∧(∀ z ∈ s.2,isByte z)∧(Lit.int .i64 s.1).wf=true:=fun i hi=>by
   obtain ⟨_,_,h0,h1⟩:=hx i (by omega)
   obtain ⟨Ai,ni,ci,zs,e0,ha,hb⟩:=open_text h1
   obtain ⟨x,e1,_,hw⟩:=DataW.trod_int Tryz.underlying3 h0
   exact ⟨(x,zs),⟨Ai,ni,ci,e0,by simpa using e1,ha⟩,hb,hw⟩
  obtain ⟨s,hs⟩:=choose_lt each
  refine ⟨some a,len,cap,(List.range len).map s,hv,⟨by simp,hl,hm,?_,fun i hi=>?_⟩,?_⟩
  ·intro t ht
   obtain ⟨r,hr,rfl⟩:=List.mem_map.1 ht
   exact (hs r (List.mem_range.1 hr)).2.1
  ·obtain ⟨b,o,spot⟩:=a
   have hc0:=(hx 0 (by omega)).1
   have hsp:spot=none:=by simpa [Addr.add] using World.cell?_spot hc0
   subst hsp
   obtain ⟨hc,hc1,_,_⟩:=hx i (by omega)
   rw [add_none] at hc hc1
   obtain ⟨Ai,ni,ci,e0,e1,ha⟩:=(hs i hi).1
   have e2:((List.range len).map s).getD i (0,[])=s i:=by simp [List.getD_eq_getElem?_getD,hi]
   refine ⟨b,o,Ai,ni,ci,rfl,World.block_lt_of_cell? W _ hc,by rw [← e0];exact hc1,by rw [e2,← e1];exact hc,by rw [e2];exact ha⟩
  ·intro t ht
   obtain ⟨r,hr,rfl⟩:=List.mem_map.1 ht
   exact (hs r (List.mem_range.1 hr)).2.2
theorem open_disk {H:Type} {enc:TypeId × Value→H} {W:World} {b0:Nat} {r:Reach} {v:Value} {d:DataW H} {p:List MemPlace} (hv:Value.okWide Tryz.prog W r b0 25 v) (h:DataW.Trod enc Tryz.prog W 0 (fun _=>true) true 25 v d p) :
  ∃ A n c A' n' c' S C,v=diskV A n c A' n' c'∧Dsk W A n c A' n' c' S C∧∀ p ∈ C,(Lit.int .i64 p.1).wf=true:=by
 obtain ⟨v0,v1,y0,y1,n,rfl,_,_,h0,h1⟩:=open_agg2 Tryz.underlying25 (by kernel_rfl) (by kernel_rfl) hv h
 obtain ⟨A,l,c,S,rfl,hs⟩:=open_secs h0
 obtain ⟨A',l',c',C,rfl,hp,hw⟩:=open_pnds h1
 exact ⟨A,l,c,A',l',c',S,C,rfl,⟨hs,hp⟩,hw⟩
end Go.Proofs.YtifgcfepbenpjaaGreat
namespace Go.Proofs.YtifgcfepbenpjaaGreat
theorem snoc_ind {α:Type} {P:List α→Prop} (h0:P []) (h1:∀ l a,P l→P (l ++ [a])):∀ l,P l:=by
 intro l
 rw [← l.reverse_reverse]
 induction l.reverse with
 | nil=>exact h0
 | cons a t ih=>rw [List.reverse_cons];exact h1 _ _ ih
def val (zs:List Int):Int:=zs.foldl (fun v z=>v * 256 + z) 0
def digs:Nat→Int→List Int
 | 0,_=>[]
 | k + 1,v=>digs k (v / 256) ++ [v % 256]
theorem val_snoc (zs:List Int) (z:Int):val (zs ++ [z])=val zs * 256 + z:=by simp [val,List.foldl_append]
theorem digs_length (k:Nat) (v:Int):(digs k v).length=k:=by
 induction k generalizing v with
 | zero=>rfl
 | succ k ih=>simp [digs,ih]
theorem digs_byte (k:Nat) (v:Int):∀ z ∈ digs k v,isByte z:=by
 induction k generalizing v with
 | zero=>simp [digs]
 | succ k ih =>
  intro z hz
  simp only [digs,List.mem_append,List.mem_singleton] at hz
  rcases hz with hz | rfl
  ·exact ih _ z hz
  ·exact ⟨Int.emod_nonneg _ (by omega),Int.emod_lt_of_pos _ (by omega)⟩
theorem div_pow (v:Int) (k:Nat):v / 256 / 256 ^ k=v / 256 ^ (k + 1):=by
 rw [Int.ediv_ediv_of_nonneg (by omega),Int.pow_succ,Int.mul_comm]
theorem digs_cons (k:Nat) (v:Int):digs (k + 1) v=v / 256 ^ k % 256 :: digs k v:=by
 induction k generalizing v with
 | zero=>simp [digs]
 | succ k ih =>
  rw [digs,ih (v / 256),div_pow]
  rfl
theorem val_bounds (zs:List Int) (h:∀ z ∈ zs,isByte z):0≤val zs∧val zs < 256 ^ zs.length:=by
 revert h
 refine snoc_ind (P:=fun zs=>(∀ z ∈ zs,isByte z)→0≤val zs∧val zs < 256 ^ zs.length) ?_ ?_ zs
 ·intro _;simp [val]
 ·intro l a ih h
  have h1:=ih fun z hz=>h z (by simp [hz])
  have h2:isByte a:=h a (by simp)
  unfold isByte at h2
  rw [val_snoc,List.length_append,List.length_singleton,Int.pow_succ]
  omega
theorem val_digs (k:Nat) (v:Int) (h0:0≤v) (h:v / 256 ^ k=0):val (digs k v)=v:=by
 induction k generalizing v with
 | zero=>simp at h;simp [digs,val,h]
 | succ k ih =>
  rw [digs,val_snoc,ih (v / 256) (by omega) (by rw [div_pow];exact h)]
  omega
theorem digs_val (zs:List Int) (h:∀ z ∈ zs,isByte z):digs zs.length (val zs)=zs:=by
 revert h
 refine snoc_ind (P:=fun zs=>(∀ z ∈ zs,isByte z)→digs zs.length (val zs)=zs) ?_ ?_ zs
 ·intro _;rfl
 ·intro l a ih h
  have h1:=ih fun z hz=>h z (by simp [hz])
  have h2:isByte a:=h a (by simp)
  unfold isByte at h2
  rw [val_snoc,List.length_append,List.length_singleton,digs]
  rw [show (val l * 256 + a) / 256=val l from by omega,h1,show (val l * 256 + a) % 256=a from by omega]
def szOf (s:List Int) (k:Nat):Nat:=(s.getD k 0).toNat
def atTo (s:List Int):Nat→Nat
 | 0=>0
 | k + 1=>atTo s k + szOf s k
def okTo (s:List Int):Nat→Bool
 | 0=>true
 | k + 1=>okTo s k && (decide (1≤s.getD k 0) && decide (s.getD k 0≤8))
def okB (s:List Int):Bool:=decide (s.length≤16) && okTo s s.length
def rowTo (l s:List Int):Nat→List Int
 | 0=>[]
 | k + 1=>rowTo l s k ++ digs (szOf s k) (l.getD k 0)
def fitsTo (l s:List Int):Nat→Bool
 | 0=>true
 | k + 1=>fitsTo l s k && decide (l.getD k 0 / 256 ^ szOf s k=0)
def numsTo (b s:List Int):Nat→List Int
 | 0=>[]
 | k + 1=>numsTo b s k ++ [val ((b.drop (atTo s k)).take (szOf s k))]
theorem okTo_le {s:List Int} {n k:Nat} (h:okTo s n=true) (hk:k≤n):okTo s k=true:=by
 induction n with
 | zero=>simp [show k=0 from by omega,okTo]
 | succ n ih =>
  rcases Nat.lt_or_ge k (n + 1) with h1 | h1
  ·exact ih (by simp [okTo] at h;exact h.1) (by omega)
  ·rw [show k=n + 1 from by omega];exact h
theorem okTo_at {s:List Int} {n k:Nat} (h:okTo s n=true) (hk:k < n):1≤s.getD k 0∧s.getD k 0≤8:=by
 have:=okTo_le (k:=k + 1) h (by omega)
 simp only [okTo,Bool.and_eq_true,decide_eq_true_eq] at this
 exact this.2
theorem okTo_sz {s:List Int} {n k:Nat} (h:okTo s n=true) (hk:k < n):1≤szOf s k∧szOf s k≤8∧(szOf s k:Int)=s.getD k 0:=by
 have:=okTo_at h hk
 unfold szOf
 omega
theorem atTo_le {s:List Int} {n k:Nat} (h:okTo s n=true) (hk:k≤n):atTo s k≤8 * k:=by
 induction k with
 | zero=>simp [atTo]
 | succ k ih =>
  have:=ih (by omega)
  have:=okTo_sz h (show k < n by omega)
  rw [atTo]
  omega
theorem atTo_mono (s:List Int) {k n:Nat} (hk:k≤n):atTo s k≤atTo s n:=by
 induction n with
 | zero=>simp [show k=0 from by omega]
 | succ n ih =>
  rcases Nat.lt_or_ge k (n + 1) with h1 | h1
  ·have:=ih (by omega);rw [atTo];omega
  ·rw [show k=n + 1 from by omega];omega
theorem rowTo_length (l s:List Int) (k:Nat):(rowTo l s k).length=atTo s k:=by
 induction k with
 | zero=>rfl
 | succ k ih=>simp [rowTo,atTo,ih,digs_length]
theorem rowTo_byte (l s:List Int) (k:Nat):∀ z ∈ rowTo l s k,isByte z:=by
 induction k with
 | zero=>simp [rowTo]
 | succ k ih =>
  intro z hz
  simp only [rowTo,List.mem_append] at hz
  rcases hz with hz | hz
  ·exact ih z hz
  ·exact digs_byte _ _ z hz
theorem numsTo_length (b s:List Int) (k:Nat):(numsTo b s k).length=k:=by
 induction k with
 | zero=>rfl
 | succ k ih=>simp [numsTo,ih]
theorem fitsTo_le {l s:List Int} {n k:Nat} (h:fitsTo l s n=true) (hk:k≤n):fitsTo l s k=true:=by
 induction n with
 | zero=>simp [show k=0 from by omega,fitsTo]
 | succ n ih =>
  rcases Nat.lt_or_ge k (n + 1) with h1 | h1
  ·exact ih (by simp [fitsTo] at h;exact h.1) (by omega)
  ·rw [show k=n + 1 from by omega];exact h
theorem pow_le (k n:Nat) (h:k≤n):(256:Int) ^ k≤256 ^ n:=by
 have e:∀ m:Nat,(256:Int) ^ m=((256 ^ m:Nat):Int):=fun m=>(Int.natCast_pow 256 m).symm
 rw [e k,e n]
 exact Int.ofNat_le.2 (Nat.pow_le_pow_right (by omega) h)
theorem take_take_drop (b:List Int) (m n:Nat):b.take m ++ (b.drop m).take n=b.take (m + n):=by
 rw [List.take_add]
theorem numsTo_getD (b s:List Int):∀ n k,k < n→(numsTo b s n).getD k 0=val ((b.drop (atTo s k)).take (szOf s k)):=by
 intro n
 induction n with
 | zero=>intro k hk;omega
 | succ n ih =>
  intro k hk
  rw [numsTo,gtD,List.getElem?_append]
  rcases Nat.lt_or_ge k n with h1 | h1
  ·rw [if_pos (by rw [numsTo_length];exact h1),← gtD,ih k h1]
  ·rw [if_neg (by rw [numsTo_length];omega),numsTo_length,show k=n from by omega]
   simp
theorem rowTo_numsTo (b s:List Int) (n:Nat) (hb:∀ z ∈ b,isByte z) (hlen:atTo s n=b.length) :
  ∀ k,k≤n→rowTo (numsTo b s n) s k=b.take (atTo s k):=by
 intro k
 induction k with
 | zero=>intro _;simp [rowTo,atTo]
 | succ k ih =>
  intro hk
  rw [rowTo,ih (by omega),numsTo_getD b s n k (by omega)]
  have hm:=atTo_mono s hk
  rw [atTo] at hm
  have hl:((b.drop (atTo s k)).take (szOf s k)).length=szOf s k:=by simp;omega
  have:=digs_val ((b.drop (atTo s k)).take (szOf s k)) fun z hz=>hb z (List.mem_of_mem_drop (List.mem_of_mem_take hz))
  rw [hl] at this
  rw [this,take_take_drop,atTo]
theorem write_read (b s:List Int) (hb:∀ z ∈ b,isByte z) (hlen:atTo s s.length=b.length):rowTo (numsTo b s s.length) s s.length=b:=by
 rw [rowTo_numsTo b s s.length hb hlen s.length (Nat.le_refl _),hlen,List.take_length]
end Go.Proofs.YtifgcfepbenpjaaGreat
namespace Go.Proofs.YtifgcfepbenpjaaGreat
open Go.RowKit
theorem or_byte (m z:Int) (h0:0≤m) (h1:m * 256 < 18446744073709551616) (h2:0≤z) (h3:z < 256) :
  bits .or .u64 (m * 256) z=m * 256 + z:=by
 obtain ⟨a,rfl⟩:=Int.eq_ofNat_of_zero_le h0
 obtain ⟨b,rfl⟩:=Int.eq_ofNat_of_zero_le h2
 have e:=bits_or_u64_nat (a * 256) b (by omega) (by omega)
 have e2:=Nat.shiftLeft_add_eq_or_of_lt (i:=8) (b:=b) (by omega) a
 rw [Nat.shiftLeft_eq] at e2
 have e3:((a:Int) * 256)=((a * 256:Nat):Int):=by omega
 rw [e3,e,← e2]
 omega
theorem get_any (A:Option Addr) (n c:Nat) (zs:List Int) (w:World) (B:Nat) (h:Seq w B A (ints .u8 zs)) (hz:zs.length=n) (hn:n≤8) (hb:∀ z ∈ zs,isByte z) :
  Calls Tryz.prog 159 #[.slice A n c] w fun e w'=>e=.returned (.int .u64 (val zs))∧w=w':=by
 subst hz
 go_enter Tryz.func159,Tryz.ntmps159
 go_wp2
 go_loop [3,7] (fun v i=>∃ k:Nat,k≤zs.length∧i=.int .i64 k∧v=.int .u64 (val (zs.take k))) (fun _ i=>zs.length - (intOf i).toNat)
 case atStart=>exact ⟨0,Nat.zero_le _,rfl,rfl⟩
 case round =>
  obtain ⟨k,hk,rfl,rfl⟩:=hrel
  by_cases hkn:k < zs.length
  ·obtain ⟨b,o,rfl,hlt,hc⟩:=h.int hkn
   have hv:=val_bounds (zs.take k) fun z hz=>hb z (List.mem_of_mem_take hz)
   have hp:=pow_le (zs.take k).length 7 (by simp;omega)
   have h7:(256:Int) ^ 7=72057594037927936:=by decide
   rw [h7] at hp
   have hzb:=hb _ (List.getElem_mem hkn)
   obtain ⟨z,hz⟩:∃ z,z=zs.getD k 0:=⟨_,rfl⟩
   have hzz:zs[k]=z:=by rw [hz];simp [hkn]
   obtain ⟨m,hm⟩:∃ m,m=val (zs.take k):=⟨_,rfl⟩
   have hs:val (zs.take (k + 1))=m * 256 + z:=by rw [← List.take_append_getElem hkn,val_snoc,hzz,← hm]
   rw [hzz] at hzb
   rw [← hm] at hv
   have hm0:=hv.1
   have hm1:m < 72057594037927936:=by omega
   have hz0:=hzb.1
   have hz1:=hzb.2
   rw [← hz] at hc
   rw [← hm]
   have ho:=or_byte m z hm0 (by omega) hz0 hz1
   have HS:=Lh hs
   have HO:=Lh ho
   clear hz hzz hm hs ho hzb hv hp h7 h hb
   go_wp2
   go_round
   case rel=>exact ⟨k + 1,by omega,by go_num,by rw [HS.out];simp [← HO.out]⟩
   case measure=>simp [intOf];omega
  ·obtain rfl:k=zs.length:=by omega
   go_wp2
   go_ret
   exact ⟨by simp,rfl⟩
theorem size_no (A:Option Addr) (n c:Nat) (s:List Int) (w:World) (B:Nat) (h:Seq w B A (ints .i64 s)) (hs:s.length=n) (hn:n≤1000) (hno:okB s=false) :
  Calls Tryz.prog 117 #[.slice A n c] w fun e w'=>e=.returned (.tuple #[.int .i64 0,.int .i64 2])∧w=w':=by
 subst hs
 by_cases h16:16 < s.length
 ·go_enter Tryz.func117,Tryz.ntmps117
  go_wp2
  go_ret2
  exact ⟨rfl,rfl⟩
 ·have hno':=Lh (show okTo s s.length=false by simpa [okB,show s.length≤16 from by omega] using hno)
  clear hno
  go_enter Tryz.func117,Tryz.ntmps117
  go_wp2
  go_loop [4,11] (fun v i=>∃ k:Nat,k≤s.length∧Hid (okTo s k=true)∧i=.int .i64 k∧v=.int .i64 (atTo s k)) (fun _ i=>s.length - (intOf i).toNat)
  case atStart=>exact ⟨0,Nat.zero_le _,rfl,rfl,rfl⟩
  case round =>
   obtain ⟨k,hk,hok,rfl,rfl⟩:=hrel
   by_cases hkn:k < s.length
   ·obtain ⟨b,o,rfl,hlt,hc⟩:=h.int hkn
    obtain ⟨z,hz⟩:∃ z,z=s.getD k 0:=⟨_,rfl⟩
    rw [← hz] at hc
    have HZ:=Lh hz
    clear hz h
    by_cases h1:z < 1
    ·go_wp2
     go_ret2
     exact ⟨rfl,rfl⟩
    ·by_cases h2:8 < z
     ·go_wp2
      go_ret2
      exact ⟨rfl,rfl⟩
     ·have hle:=atTo_le hok.out (Nat.le_refl k)
      go_wp2
      go_round
      case rel=>exact ⟨k + 1,by omega,by show okTo s (k + 1)=true;rw [okTo,hok.out,← HZ.out];simp;omega,by go_num,by rw [atTo,szOf,← HZ.out];congr 1;omega⟩
      case measure=>simp [intOf];omega
   ·obtain rfl:k=s.length:=by omega
    have:=hno'.out
    rw [hok.out] at this
    cases this
theorem size_ok (A:Option Addr) (n c:Nat) (s:List Int) (w:World) (B:Nat) (h:Seq w B A (ints .i64 s)) (hs:s.length=n) (hok:okB s=true) :
  Calls Tryz.prog 117 #[.slice A n c] w fun e w'=>e=.returned (.tuple #[.int .i64 (atTo s n),.int .i64 0])∧w=w':=by
 subst hs
 have h16:s.length≤16:=by simp [okB] at hok;exact hok.1
 have hoo:=Lh (show okTo s s.length=true by simp [okB] at hok;exact hok.2)
 clear hok
 go_enter Tryz.func117,Tryz.ntmps117
 go_wp2
 go_loop [4,11] (fun v i=>∃ k:Nat,k≤s.length∧i=.int .i64 k∧v=.int .i64 (atTo s k)) (fun _ i=>s.length - (intOf i).toNat)
 case atStart=>exact ⟨0,Nat.zero_le _,rfl,rfl⟩
 case round =>
  obtain ⟨k,hk,rfl,rfl⟩:=hrel
  by_cases hkn:k < s.length
  ·obtain ⟨b,o,rfl,hlt,hc⟩:=h.int hkn
   have hat:=okTo_at hoo.out hkn
   have hle:=atTo_le hoo.out hk
   obtain ⟨z,hz⟩:∃ z,z=s.getD k 0:=⟨_,rfl⟩
   rw [← hz] at hc hat
   have HZ:=Lh hz
   obtain ⟨h1,h2⟩:=hat
   clear hz h
   go_wp2
   go_round
   case rel=>exact ⟨k + 1,by omega,by go_num,by rw [atTo,szOf,← HZ.out];congr 1;omega⟩
   case measure=>simp [intOf];omega
  ·obtain rfl:k=s.length:=by omega
   go_wp2
   go_ret2
   exact ⟨rfl,rfl⟩
theorem set_mid (P M D:List Int) (j:Nat) (x:Int) (h:j < M.length) (rest:List Int) :
  (P ++ M.take (j + 1) ++ D ++ rest).set (P.length + j) x=P ++ M.take j ++ (x :: D) ++ rest:=by
 have e:M.take (j + 1)=M.take j ++ [M[j]]:=(List.take_append_getElem h).symm
 rw [e,List.append_assoc,List.append_assoc,List.append_assoc,List.set_append,if_neg (by omega),show P.length + j - P.length=j from by omega,
  List.append_assoc,List.set_append,if_neg (by rw [List.length_take];omega),show j - (M.take j).length=0 from by rw [List.length_take];omega]
 simp
theorem put_any (g o n c:Nat) (P M R:List Int) (v:Int) (w:World) (hb:Blk w g 5 (ints .u8 (P ++ M ++ R))) (hP:P.length=o) (hM:M.length=n) (hn:1≤n) (hn8:n≤100) (h0:0≤v) :
  Calls Tryz.prog 119 #[.slice (some ⟨g,o,none⟩) n c,.int .u64 v] w fun e w'=>e=.returned (.bool (decide (v / 256 ^ n=0)))∧Blk w' g 5 (ints .u8 (P ++ digs n v ++ R))∧w.grownBy w' (some g):=by
 go_enter Tryz.func119,Tryz.ntmps119
 go_wp2
 go_loopw [1,8] (fun u i wr=>∃ k:Nat,k≤n∧i=.int .i64 k∧u=.int .u64 (v / 256 ^ k)∧Blk wr g 5 (ints .u8 (P ++ M.take (n - k) ++ digs k v ++ R))∧w.grownBy wr (some g)) (fun _ i _=>n - (intOf i).toNat)
 case atStart=>exact ⟨0,Nat.zero_le _,rfl,by simp,by simpa [digs,← hM] using hb,grownBy_refl _ _⟩
 case round =>
  obtain ⟨k,hk,rfl,rfl,hbk,hg⟩:=hrel
  have hq:0≤v / 256 ^ k:=Int.ediv_nonneg h0 (Int.le_of_lt (Int.pow_pos (by omega)))
  by_cases hkn:k < n
  ·have hlen:o + (n - 1 - k) < (ints .u8 (P ++ M.take (n - k) ++ digs k v ++ R)).length:=by simp [ints,digs_length];omega
   have hc:=hbk.cell (o + (n - 1 - k))
   rw [geE hlen] at hc
   obtain ⟨x,hx⟩:∃ x,x=(ints .u8 (P ++ M.take (n - k) ++ digs k v ++ R))[o + (n - 1 - k)]:=⟨_,rfl⟩
   rw [← hx] at hc
   have hf:=hbk.free (o + (n - 1 - k))
   obtain ⟨q,hqe⟩:∃ q,q=v / 256 ^ k:=⟨_,rfl⟩
   rw [← hqe] at hq ⊢
   have HB:=Lh hbk
   have HQ:=Lh hqe
   have HM:=Lh hM
   have HP:=Lh hP
   have HG:=Lh hg
   clear hx hqe hbk hlen hb hM hP hg
   go_wp2
   go_roundw
   case rel =>
    refine ⟨k + 1,by omega,by go_num,by rw [HQ.out,Int.pow_succ,← Int.ediv_ediv_of_nonneg (Int.le_of_lt (Int.pow_pos (by omega)))],?_,grownBy_trans HG.out (grownBy_set _ _ _ _)⟩
    have hs:=HB.out.set (o + (n - 1 - k)) (.int .u8 (q % 256))
    rw [set_ints] at hs
    have hm:=set_mid P M (digs k v) (n - 1 - k) (q % 256) (by have:=HM.out;omega) R
    rw [show n - 1 - k + 1=n - k from by omega,HP.out] at hm
    rw [hm] at hs
    rw [digs_cons,← HQ.out,show n - (k + 1)=n - 1 - k from by omega]
    exact hs
   case measure=>simp [intOf];omega
  ·obtain rfl:k=n:=by omega
   obtain ⟨q,hqe⟩:∃ q,q=v / 256 ^ k:=⟨_,rfl⟩
   rw [← hqe] at hq ⊢
   have HB:=Lh hbk
   have HQ:=Lh hqe
   have HG:=Lh hg
   clear hqe hbk hb hM hP hg
   go_wp2
   go_ret
   have hb:=HB.out
   rw [show k - k=0 from by omega] at hb
   exact ⟨by rw [← HQ.out];rfl,by simpa using hb,HG.out⟩
def partsTo (g o:Nat) (s:List Int):Nat→List Value
 | 0=>[]
 | k + 1=>partsTo g o s k ++ [.slice (some ⟨g,o + atTo s k,none⟩) (szOf s k) (szOf s k)]
theorem partsTo_length (g o:Nat) (s:List Int) (k:Nat):(partsTo g o s k).length=k:=by
 induction k with
 | zero=>rfl
 | succ k ih=>simp [partsTo,ih]
theorem slices_info:(Tryz.prog.info? 42).map (fun i=>(i.zero,i.size,i.bytes))=some (some (.slice none 0 0),1,24):=by kernel_rfl
theorem parts_any (A S:Option Addr) (g o n c cs:Nat) (s:List Int) (w:World) (B:Nat) (h:Seq w B S (ints .i64 s)) (hok:okB s=true) (hn:n=atTo s s.length) (hnc:n≤c) (hc:c≤maxLen) (hA:0 < s.length→A=some ⟨g,o,none⟩) (hB:B≤w.heap.size) :
  Calls Tryz.prog 118 #[.slice A n c,.slice S s.length cs] w fun e w'=>e=.returned (.slice (some ⟨w.heap.size,0,none⟩) s.length s.length)∧Blk w' w.heap.size 42 (partsTo g o s s.length)∧w.grownBy w' none:=by
 have h16:s.length≤16:=by simp [okB] at hok;exact hok.1
 have hoo:=Lh (show okTo s s.length=true by simp [okB] at hok;exact hok.2)
 obtain ⟨i0,hi0,hz0,hz1,hz2⟩:=info_parts slices_info
 have hmk:=fun wx=>run_make1 (P:=Tryz.prog) 103 42 i0 _ Tryz.underlying103 hi0 hz0 hz1 rfl s.length (by rw [hz2];omega) (by simp only [maxLen];omega) wx
 have HA:=Lh hA
 have HN:=Lh hn
 clear hok hA hn hi0 hz0 hz1 hz2
 go_enter Tryz.func118,Tryz.ntmps118
 go_wp2
 clear hmk
 go_loopw [6,14] (fun v i wr=>∃ k:Nat,k≤s.length∧i=.int .i64 k∧v=.int .i64 (atTo s k)∧Blk wr w.heap.size 42 (partsTo g o s k ++ List.replicate (s.length - k) (.slice none 0 0))∧w.grownBy wr none) (fun _ i _=>s.length - (intOf i).toNat)
 case atStart=>exact ⟨0,Nat.zero_le _,rfl,rfl,Blk.new _ _ _,World.grownBy_alloc _ _ _⟩
 case round =>
  obtain ⟨k,hk,rfl,rfl,hb,hg⟩:=hrel
  by_cases hkn:k < s.length
  ·obtain ⟨b,os,rfl,hlt,hcs⟩:=(h.grown hg hB (fun _ h=>by cases h)).int hkn
   obtain rfl:=HA.out (by omega)
   have hz:=okTo_sz hoo.out hkn
   have hm:=atTo_mono s (show k + 1≤s.length by omega)
   rw [← HN.out,atTo] at hm
   have hle:=atTo_le hoo.out (show k≤s.length by omega)
   rw [← hz.2.2] at hcs
   obtain ⟨hz1,hz2,_⟩:=hz
   have hcell:=hb.cell k
   rw [List.getElem?_append_right (by rw [partsTo_length];omega),partsTo_length,Nat.sub_self] at hcell
   have hcell2:wr.cell? ⟨w.heap.size,k,none⟩=some (.slice none 0 0):=by rw [hcell];simp [List.getElem?_replicate];omega
   have hfr:=hb.free k
   have HB:=Lh hb
   have HG:=Lh hg
   obtain ⟨z,hzz⟩:∃ z,z=szOf s k:=⟨_,rfl⟩
   obtain ⟨a,ha⟩:∃ a,a=atTo s k:=⟨_,rfl⟩
   rw [← hzz] at hcs hm hz1 hz2
   rw [← ha] at hm hle ⊢
   have HZ:=Lh hzz
   have HAT:=Lh ha
   clear hcell hb hg hzz ha h
   unfold maxLen at hc
   go_wp2
   go_roundw
   case rel =>
    refine ⟨k + 1,by omega,by go_num,by rw [atTo,← HZ.out,← HAT.out];go_num,?_,grownBy_set_new HG.out (Nat.le_refl _) _ _⟩
    have hs:=HB.out.set k (.slice (some ⟨g,o + a,none⟩) z z)
    rw [List.set_append,if_neg (by rw [partsTo_length];omega),partsTo_length,Nat.sub_self,show s.length - k=(s.length - (k + 1)) + 1 from by omega,List.replicate_succ,scZ] at hs
    rw [partsTo,← HZ.out,← HAT.out,List.append_assoc]
    exact hs
   case measure=>simp [intOf];omega
  ·obtain rfl:k=s.length:=by omega
   have HB:=Lh hb
   have HG:=Lh hg
   clear hb hg h
   go_wp2
   go_ret
   have hb:=HB.out
   rw [Nat.sub_self,List.replicate_zero,List.append_nil] at hb
   exact ⟨rfl,hb,HG.out⟩
theorem word_info:(Tryz.prog.info? 27).map (fun i=>(i.zero,i.size,i.bytes))=some (some (.int .u64 0),1,8):=by kernel_rfl
theorem partsTo_get (g o:Nat) (s:List Int) (n k:Nat) (h:k < n):(partsTo g o s n)[k]?=some (.slice (some ⟨g,o + atTo s k,none⟩) (szOf s k) (szOf s k)):=by
 induction n with
 | zero=>omega
 | succ n ih =>
  rw [partsTo,List.getElem?_append,partsTo_length]
  rcases Nat.lt_or_ge k n with h1 | h1
  ·rw [if_pos h1];exact ih h1
  ·rw [if_neg (by omega),show k=n from by omega];simp
theorem read_short (A S:Option Addr) (n c m cs:Nat) (s:List Int) (w:World) (B:Nat) (h:Seq w B S (ints .i64 s)) (hs:s.length=m) (hok:okB s=true) (hne:n≠atTo s m) (hn:n≤1000) :
  Calls Tryz.prog 123 #[.slice A n c,.slice S m cs] w fun e w'=>e=.returned (.tuple #[.slice none 0 0,.int .i64 10])∧w=w':=by
 have hoo:okTo s s.length=true:=by simp [okB] at hok;exact hok.2
 have hle:=atTo_le hoo (Nat.le_refl _)
 have h16:s.length≤16:=by simp [okB] at hok;exact hok.1
 rw [hs] at hle
 go_enter Tryz.func123,Tryz.ntmps123
 go_wp2_with fail
 refine (size_ok S m cs s _ B h hs hok).mono ?_
 rintro e w' ⟨rfl,rfl⟩
 obtain ⟨t,ht⟩:∃ t,t=atTo s m:=⟨_,rfl⟩
 rw [← ht] at hne hle ⊢
 have hb:((n:Int) != (t:Int))=true:=by rw [bne_iff_ne];omega
 clear ht
 go_wp2
 go_ret2
 exact ⟨rfl,rfl⟩
theorem read_ok (A S:Option Addr) (n c m cs:Nat) (b s:List Int) (w:World) (h:Seq w w.heap.size S (ints .i64 s)) (hs:s.length=m) (hok:okB s=true) (hb:Seq w w.heap.size A (ints .u8 b)) (hbl:b.length=n) (hn:n=atTo s m) (hnc:n≤c) (hc:c≤maxLen) (hby:∀ z ∈ b,isByte z) :
  Calls Tryz.prog 123 #[.slice A n c,.slice S m cs] w (RowOut .u64 27 w (numsTo b s m) 0):=by
 subst hs
 have hoo:okTo s s.length=true:=by simp [okB] at hok;exact hok.2
 have hle:=atTo_le hoo (Nat.le_refl _)
 have h16:s.length≤16:=by simp [okB] at hok;exact hok.1
 have HN:=Lh hn
 have hn0:((n:Int) != (atTo s s.length:Int))=false:=by rw [hn];simp
 obtain ⟨i0,hi0,hz0,hz1,hz2⟩:=info_parts word_info
 have hmk:=fun wx=>run_make1 (P:=Tryz.prog) 154 27 i0 _ Tryz.underlying154 hi0 hz0 hz1 rfl s.length (by rw [hz2];omega) (by simp only [maxLen];omega) wx
 obtain ⟨g,o,hA⟩:∃ g o,0 < s.length→A=some ⟨g,o,none⟩:=by
  by_cases h0:0 < s.length
  ·have h1:=okTo_sz hoo h0
   have h2:=atTo_mono s (show 1≤s.length by omega)
   rw [atTo,atTo] at h2
   obtain ⟨g,o,e,_,_⟩:=hb.int (j:=0) (by omega)
   exact ⟨g,o,fun _=>e⟩
  ·exact ⟨0,0,fun h=>absurd h h0⟩
 have HA:=Lh hA
 have HOO:=Lh hoo
 have HBL:=Lh hbl
 have HBY:=Lh hby
 clear hi0 hz0 hz1 hz2 hn hoo hA hbl hby
 go_enter Tryz.func123,Tryz.ntmps123
 go_wp2_with fail
 refine (size_ok S s.length cs s _ _ h rfl hok).mono ?_
 rintro e w' ⟨rfl,rfl⟩
 go_wp2_with fail
 refine (parts_any A S g o n c cs s _ _ h hok HN.out hnc hc HA.out (Nat.le_refl _)).mono ?_
 rintro e w1 ⟨rfl,hp,hg1⟩
 have HP:=Lh hp
 have HG:=Lh hg1
 have hsz1:=hg1.size
 clear hp hg1 hn0
 go_wp2
 clear hmk
 go_loopw [31] (fun i wr=>∃ k:Nat,k≤s.length∧i=.int .i64 k∧Blk wr w1.heap.size 27 (ints .u64 (numsTo b s k) ++ List.replicate (s.length - k) (.int .u64 0))∧Blk wr w.heap.size 42 (partsTo g o s s.length)∧w.grownBy wr none) (fun i _=>s.length - (intOf i).toNat)
 case atStart=>exact ⟨0,Nat.zero_le _,rfl,Blk.new _ _ _,HP.out.grown (World.grownBy_alloc _ _ none) (by simp),grownBy_trans HG.out (World.grownBy_alloc _ _ none)⟩
 case round =>
  obtain ⟨k,hk,rfl,hbk,hpk,hgk⟩:=hrel
  by_cases hkn:k < s.length
  ·obtain rfl:=HA.out (by omega)
   have hz:=okTo_sz HOO.out hkn
   have hm:=atTo_mono s (show k + 1≤s.length by omega)
   rw [← HN.out,atTo] at hm
   have hpc:=hpk.cell k
   rw [partsTo_get _ _ _ _ _ hkn] at hpc
   have hcell:=hbk.cell k
   rw [List.getElem?_append_right (by rw [ints_length,numsTo_length];omega),ints_length,numsTo_length,Nat.sub_self] at hcell
   have hcell2:wr.cell? ⟨w1.heap.size,k,none⟩=some (.int .u64 0):=by rw [hcell];simp [List.getElem?_replicate];omega
   have hfr:=hbk.free k
   have hpiece:=(hb.drop (atTo s k)).take (szOf s k)
   have hbr:=hpiece.grown hgk (Nat.le_refl _) (fun _ h=>by cases h)
   have hbr2:Seq wr w.heap.size (some ⟨g,o + atTo s k,none⟩) (ints .u8 ((b.drop (atTo s k)).take (szOf s k))):=by
    have e:ints .u8 ((b.drop (atTo s k)).take (szOf s k))=((ints .u8 b).drop (atTo s k)).take (szOf s k):=by simp [ints,List.map_take,List.map_drop]
    rw [e];exact hbr
   have hpl:((b.drop (atTo s k)).take (szOf s k)).length=szOf s k:=by have:=HBL.out;simp;omega
   have hpb:∀ z ∈ (b.drop (atTo s k)).take (szOf s k),isByte z:=fun z hz=>HBY.out z (List.mem_of_mem_drop (List.mem_of_mem_take hz))
   have HBR:=Lh hbr2
   have HPL:=Lh hpl
   have HPB:=Lh hpb
   have HB:=Lh hbk
   have HP2:=Lh hpk
   have HG2:=Lh hgk
   obtain ⟨zs,hzs⟩:∃ zs,zs=(b.drop (atTo s k)).take (szOf s k):=⟨_,rfl⟩
   have hvs:numsTo b s (k + 1)=numsTo b s k ++ [val zs]:=by rw [numsTo,hzs]
   rw [← hzs] at HBR HPL HPB
   have HV:=Lh hvs
   obtain ⟨hs1,hs2,_⟩:=hz
   clear hcell hbk hpk hgk hpiece hbr hbr2 hpl hpb hzs hvs hb h
   go_wp2_with fail
   refine (get_any _ _ _ zs _ _ HBR.out HPL.out hs2 HPB.out).mono ?_
   rintro e w' ⟨rfl,rfl⟩
   go_wp2
   go_roundw
   case rel =>
    refine ⟨k + 1,by omega,by go_num,?_,?_,grownBy_set_new HG2.out hsz1 _ _⟩
    ·have hs:=HB.out.set k (.int .u64 (val zs))
     rw [List.set_append,if_neg (by rw [ints_length,numsTo_length];omega),ints_length,numsTo_length,Nat.sub_self,show s.length - k=(s.length - (k + 1)) + 1 from by omega,List.replicate_succ,scZ] at hs
     rw [HV.out,ints_app,List.append_assoc]
     exact hs
    ·exact HP2.out.grown (grownBy_set _ _ _ _) (by simp;intro e;exact absurd (Blk.ty HB.out (e ▸ HP2.out)) (by decide))
   case measure=>simp [intOf];omega
  ·obtain rfl:k=s.length:=by omega
   have HB:=Lh hbk
   have HG2:=Lh hgk
   clear hbk hpk hgk h hb
   go_wp2
   have hb2:=HB.out
   rw [Nat.sub_self,List.replicate_zero,List.append_nil] at hb2
   have hl:(numsTo b s s.length).length=s.length:=numsTo_length _ _ _
   go_ret2
   refine ⟨some ⟨w1.heap.size,0,none⟩,s.length,by rw [hl];rfl,?_,below_of_grown HG2.out⟩
   rw [hl]
   exact hb2.owns hsz1 (by rw [ints_length,hl]) (by simp only [maxLen];omega)
def WroteOut (w:World) (l s:List Int) (e:Ending) (w':World):Prop :=
 (fitsTo l s s.length=true∧RowOut .u8 5 w (rowTo l s s.length) 0 e w')∨(fitsTo l s s.length=false∧e=.returned (.tuple #[.slice none 0 0,.int .i64 4])∧Below w.heap.size w w')
theorem WroteOut.yes {w:World} {l s:List Int} {e:Ending} {w':World} (h:WroteOut w l s e w') (hf:fitsTo l s s.length=true):RowOut .u8 5 w (rowTo l s s.length) 0 e w':=by
 rcases h with ⟨_,h⟩ | ⟨h,_⟩
 ·exact h
 ·rw [hf] at h;cases h
theorem write_ok (A S:Option Addr) (n c m cs:Nat) (l s:List Int) (w:World) (h:Seq w w.heap.size S (ints .i64 s)) (hs:s.length=m) (hok:okB s=true) (hl:Seq w w.heap.size A (ints .u64 l)) (hln:l.length=n) (hnm:n=m) (hw:∀ z ∈ l,isWord z) :
  Calls Tryz.prog 74 #[.slice A n c,.slice S m cs] w (WroteOut w l s):=by
 subst hs
 subst hnm
 have hoo:okTo s s.length=true:=by simp [okB] at hok;exact hok.2
 have hle:=atTo_le hoo (Nat.le_refl _)
 have h16:s.length≤16:=by simp [okB] at hok;exact hok.1
 obtain ⟨i0,hi0,hz0,hz1,hz2⟩:=info_parts byte_info
 obtain ⟨t,ht⟩:∃ t,t=atTo s s.length:=⟨_,rfl⟩
 have hmk:=fun wx=>run_make1 (P:=Tryz.prog) 42 5 i0 _ Tryz.underlying42 hi0 hz0 hz1 rfl t (by rw [hz2];omega) (by simp only [maxLen];omega) wx
 have HOO:=Lh hoo
 have HLN:=Lh hln
 have HW:=Lh hw
 have HT:=Lh ht
 rw [← ht] at hle
 clear hi0 hz0 hz1 hz2 hoo hln hw ht
 go_enter Tryz.func74,Tryz.ntmps74
 go_wp2_with fail
 refine (size_ok S s.length cs s _ _ h rfl hok).mono ?_
 rintro e w' ⟨rfl,rfl⟩
 rw [← HT.out]
 go_wp2_with fail
 refine (parts_any _ S w.heap.size 0 t t cs s _ _ (h.alloc (Nat.le_refl _) _) hok HT.out (Nat.le_refl _) (by simp only [maxLen];omega) (fun _=>rfl) (by simp)).mono ?_
 rintro e w1 ⟨rfl,hp,hg1⟩
 have hp2:Blk w1 (w.heap.size + 1) 42 (partsTo w.heap.size 0 s s.length):=by simpa using hp
 have hb1:Blk w1 w.heap.size 5 (ints .u8 (List.replicate t 0)):=by
  have e:rep t (.int .u8 0)=(ints .u8 (List.replicate t 0)).toArray:=by simp [rep,ints]
  rw [e] at hg1
  exact (Blk.new w 5 (ints .u8 (List.replicate t 0))).grown hg1 (by simp)
 have HP:=Lh hp2
 have HB1:=Lh hb1
 have HG:=Lh (grownBy_trans (World.grownBy_alloc w _ none) (hg1.weak (by simp)))
 clear hp hg1 hmk hp2 hb1
 go_wp2
 go_loopw [31] (fun i wr=>∃ k:Nat,k≤s.length∧i=.int .i64 k∧Hid (fitsTo l s k=true)∧Blk wr w.heap.size 5 (ints .u8 (rowTo l s k ++ List.replicate (t - atTo s k) 0))∧Blk wr (w.heap.size + 1) 42 (partsTo w.heap.size 0 s s.length)∧w.grownBy wr none) (fun i _=>s.length - (intOf i).toNat)
 case atStart=>exact ⟨0,Nat.zero_le _,rfl,rfl,by simpa [rowTo,atTo] using HB1.out,HP.out,HG.out⟩
 case round =>
  obtain ⟨k,hk,rfl,hfk,hbk,hpk,hgk⟩:=hrel
  by_cases hkn:k < s.length
  ·obtain ⟨ba,oa,rfl,hba,hac⟩:=(hl.grown hgk (Nat.le_refl _) (fun _ h=>by cases h)).int (j:=k) (by have:=HLN.out;omega)
   have hz:=okTo_sz HOO.out hkn
   have hm:=atTo_mono s (show k + 1≤s.length by omega)
   rw [← HT.out,atTo] at hm
   have hpc:=hpk.cell k
   rw [partsTo_get _ _ _ _ _ hkn,Nat.zero_add] at hpc
   have hput:=put_any w.heap.size (atTo s k) (szOf s k) (szOf s k) (rowTo l s k) (List.replicate (szOf s k) 0) (List.replicate (t - atTo s (k + 1)) 0) (l.getD k 0) wr.drew
    (by rw [List.append_assoc,List.replicate_append_replicate,atTo,show szOf s k + (t - (atTo s k + szOf s k))=t - atTo s k from by omega];exact hbk) (rowTo_length _ _ _) (by simp) hz.1 (by omega)
    (by rw [show l.getD k 0=l[k]'(by have:=HLN.out;omega) from by simp [List.getD,show k < l.length from by have:=HLN.out;omega]];exact (HW.out _ (List.getElem_mem _)).1)
   rw [List.append_assoc] at hput
   have hrow:rowTo l s (k + 1)=rowTo l s k ++ digs (szOf s k) (l.getD k 0):=rfl
   have hft:fitsTo l s (k + 1)=(fitsTo l s k && decide (l.getD k 0 / 256 ^ szOf s k=0)):=rfl
   obtain ⟨v,hv⟩:∃ v,v=l.getD k 0:=⟨_,rfl⟩
   rw [← hv] at hput hac hrow hft
   have HROW:=Lh hrow
   have HFT:=Lh hft
   have HPK:=Lh hpk
   have HGK:=Lh hgk
   clear hv hrow hft
   by_cases hfit:v / 256 ^ szOf s k=0
   ·rw [decide_eq_true hfit] at hput HFT
    have HPUT:=Lh hput
    clear hput h hl hbk hpk hgk hfit
    go_wp2
    go_still_tail 8,(by kernel_rfl)
    change wpList _ _ _ _ _ wr.drew
    go_wp2_with fail
    refine HPUT.out.mono ?_
    rintro e w2 ⟨rfl,hb2,hg2⟩
    have HB2:=Lh hb2
    have HG2:=Lh hg2
    clear hb2 hg2
    go_wp2
    go_roundw
    case rel =>
     refine ⟨k + 1,by omega,by go_num,?_,?_,?_,?_⟩
     ·show fitsTo l s (k + 1)=true
      rw [HFT.out,hfk.out];rfl
     ·rw [HROW.out,List.append_assoc];exact HB2.out
     ·exact Blk.grown (w:=wr.drew) HPK.out HG2.out (by simp)
     ·exact grownBy_then (grownBy_drew HGK.out) HG2.out (fun g e=>by injection e with e;omega)
    case measure=>simp [intOf];omega
   ·rw [decide_eq_false hfit] at hput HFT
    have HPUT:=Lh hput
    clear hput h hl hbk hpk hgk hfit
    go_wp2
    go_still_tail 8,(by kernel_rfl)
    change wpList _ _ _ _ _ wr.drew
    go_wp2_with fail
    refine HPUT.out.mono ?_
    rintro e w2 ⟨rfl,hb2,hg2⟩
    have HB2:=Lh hb2
    have HG2:=Lh hg2
    clear hb2 hg2
    go_wp2
    go_ret2
    refine .inr ⟨?_,rfl,?_⟩
    ·have hno:fitsTo l s (k + 1)=false:=by rw [HFT.out];simp
     rcases hft:fitsTo l s s.length with _ | _
     ·rfl
     ·rw [fitsTo_le hft hkn] at hno;cases hno
    ·exact below_of_grown (grownBy_then (grownBy_drew HGK.out) HG2.out (fun g e=>by injection e with e;omega))
  ·obtain rfl:k=s.length:=by omega
   have HB:=Lh hbk
   have HGK:=Lh hgk
   clear hbk hpk hgk h hl
   go_wp2
   have hl:(rowTo l s s.length).length=t:=by rw [rowTo_length,HT.out]
   have hb2:=HB.out
   rw [← HT.out,Nat.sub_self,List.replicate_zero,List.append_nil] at hb2
   go_ret2
   refine .inl ⟨hfk.out,some ⟨w.heap.size,0,none⟩,t,by rw [hl];rfl,?_,below_of_grown HGK.out⟩
   rw [hl]
   exact hb2.owns (Nat.le_refl _) (by rw [ints_length,hl]) (by simp only [maxLen];omega)
end Go.Proofs.YtifgcfepbenpjaaGreat
