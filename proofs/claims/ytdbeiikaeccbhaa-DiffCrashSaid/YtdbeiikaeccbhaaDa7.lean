/- Texts of the layers below, joined. -/
import Derived.Test.YtdbeiikaeccbhaaDa5
import Derived.Lib.Bytes
import Derived.Deep.Matrix
import Derived.Lib.SmallJoins
import Derived.Deep.SlicePairs
set_option maxRecDepth 100000
set_option maxHeartbeats 12800000
set_option linter.unusedVariables false
namespace Go.Proofs.Ytdbeiikaeccbhaa
open Go.RowKit
theorem bytes_inj:∀ (x y:List Int),(∀ z ∈ x,isByte z)→(∀ z ∈ y,isByte z)→(x.map fun n=>UInt8.ofNat n.toNat)=(y.map fun n=>UInt8.ofNat n.toNat)→x=y:=by
 intro x
 induction x with
 | nil=>intro y _ _ h;cases y with
  | nil=>rfl
  | cons b y=>cases h
 | cons a x ih =>
  intro y hx hy h
  cases y with
  | nil=>cases h
  | cons b y =>
   simp only [List.map_cons,List.cons.injEq] at h
   have ha:=hx a (by simp)
   have hb:=hy b (by simp)
   unfold isByte at ha hb
   have e:(UInt8.ofNat a.toNat).toNat=(UInt8.ofNat b.toNat).toNat:=by rw [h.1]
   rw [UInt8.toNat_ofNat',UInt8.toNat_ofNat'] at e
   have e2:a=b:=by omega
   rw [e2,ih y (fun z hz=>hx z (by simp [hz])) (fun z hz=>hy z (by simp [hz])) h.2]
theorem strs_eq {x y:List Int} (hx:∀ z ∈ x,isByte z) (hy:∀ z ∈ y,isByte z):((strOfNums x).toList == (strOfNums y).toList)=decide (x=y):=by
 by_cases h:x=y
 ·subst h;simp
 ·rw [decide_eq_false h,beq_eq_false_iff_ne]
  intro e
  rw [Lib.toList_data,Lib.toList_data,strOfNums_data,strOfNums_data] at e
  exact h (bytes_inj x y hx hy e)
end Go.Proofs.Ytdbeiikaeccbhaa
namespace Go.Proofs.Ytdbeiikaeccbhaa
open Go.RowKit Go.OpenShut
theorem owns_keep {w w':World} {base:Nat} {e:TypeId} {s:Nat} {v:Value} {n:Nat} {xs:List Value} (h:w.ownsRow base e s v n xs) (hk:∀ (g:Nat) (cs:Array Value),base≤g→w.heap[g]?=some (.cells cs e (0,0))→w'.heap[g]?=w.heap[g]?):w'.ownsRow base e s v n xs:=by
 refine ⟨h.1,?_⟩
 rcases h.2 with h2 | ⟨g,cap,cur,hv,hb,hg,r⟩
 ·exact .inl h2
 ·exact .inr ⟨g,cap,cur,hv,hb,(hk g cur hb hg).trans hg,r⟩
def U8 (w:World) (g:Nat):Prop:=∃ cs,w.heap[g]?=some (.cells cs 5 (0,0))
theorem U8.lt {w:World} {g:Nat} (h:U8 w g):g < w.heap.size:=by
 obtain ⟨cs,hc⟩:=h
 exact (Array.getElem?_eq_some_iff.1 hc).1
theorem u8_row {w:World} {g b:Nat} {e:TypeId} {s:Nat} {v:Value} {n:Nat} {xs:List Value} (he:5≠e) (h:U8 w g) (hr:w.ownsRow b e s v n xs):v.ownBlock≠some g:=fun e2=>by
 obtain ⟨cs,hc⟩:=h
 rcases hr.2 with ⟨rfl,_⟩ | ⟨g2,cap,cur,rfl,_,hg2,_⟩
 ·simp [Value.ownBlock] at e2
 ·have e3:g2=g:=by simpa [Value.ownBlock] using e2
  subst e3
  rw [hg2] at hc
  simp at hc
  exact he hc.2.symm
theorem u8_blk {w:World} {g:Nat} {t:TypeId} {cs:List Value} (he:t≠5) (h:U8 w g) (hb:Blk w g t cs):False:=by
 obtain ⟨cs',hc⟩:=h
 unfold Blk at hb
 rw [hb] at hc
 simp at hc
 exact he hc.2
theorem U8.of_owns {w:World} {base g n c:Nat} {o:Nat} {xs:List Value} (h:w.ownsRow base 5 1 (.slice (some ⟨g,o,none⟩) n c) n xs):U8 w g:=by
 rcases h.2 with ⟨e,h0⟩ | ⟨g',cap,cur,e,hb,hg,_⟩ <;> cases e
 exact ⟨cur,hg⟩
def OwnTxt (w:World) (base:Nat) (A:Option Addr) (n c:Nat) (zs:List Int):Prop :=
 zs.length=n∧n≤c∧c≤maxLen∧(n=0∨∃ g o cs,A=some ⟨g,o,none⟩∧base≤g∧w.heap[g]?=some (.cells cs 5 (0,0))∧∀ j,j < n→cs[o + j]?=some (.int .u8 (zs.getD j 0)))
section
variable {w w':World} {base base':Nat} {A:Option Addr} {n c:Nat} {zs:List Int}
theorem OwnTxt.of (h:w.ownsRow base 5 1 (.slice A n c) n (ints .u8 zs)):OwnTxt w base A n c zs:=by
 have ha:=Arg.own h
 refine ⟨ha.len,ha.cap,ha.max,?_⟩
 rcases h.2 with ⟨e,h0⟩ | ⟨g,cap,cur,e,hb,hg,h1,h2,h3,h4⟩
 ·exact .inl h0
 ·cases e
  refine .inr ⟨g,0,cur,rfl,hb,hg,fun j hj=>?_⟩
  have e2:=ints_getD .u8 zs j (by have:=ha.len;omega)
  rw [← h4,List.getElem?_take,if_pos (by omega)] at e2
  simpa using e2
theorem OwnTxt.nil (w:World) (base:Nat):OwnTxt w base none 0 0 []:=⟨rfl,Nat.le_refl _,by decide,.inl rfl⟩
theorem OwnTxt.at_ (h:OwnTxt w base A n c zs) {j:Nat} (hj:j < n):∃ g o,A=some ⟨g,o,none⟩∧base≤g∧U8 w g∧w.cell? ⟨g,o + j,none⟩=some (.int .u8 (zs.getD j 0))∧w.frozen? ⟨g,o + j,none⟩=false:=by
 obtain ⟨_,_,_,h0 | ⟨g,o,cs,e,hb,hg,hc⟩⟩:=h
 ·omega
 ·refine ⟨g,o,e,hb,⟨cs,hg⟩,?_,?_⟩
  ·have:=cell_of_row w g (o + j) cs 5 (0,0) hg
   rw [this]
   exact hc j hj
  ·simp [World.frozen?,hg]
theorem OwnTxt.arg (h:OwnTxt w base A n c zs):Arg w .u8 A n c zs:=by
 refine ⟨fun j v hv=>?_,h.1,h.2.1,h.2.2.1⟩
 have hj:j < zs.length:=by
  rcases Nat.lt_or_ge j zs.length with hj | hj
  ·exact hj
  ·rw [List.getElem?_eq_none (by rw [ints_length];exact hj)] at hv;cases hv
 rw [ints_getD .u8 zs j hj] at hv
 injection hv with hv
 subst hv
 obtain ⟨g,o,e,hb,hu,hc,_⟩:=h.at_ (j:=j) (by have:=h.1;omega)
 exact ⟨g,o,e,hu.lt,hc⟩
theorem OwnTxt.keep (h:OwnTxt w base A n c zs) (hk:∀ g,base≤g→U8 w g→w'.heap[g]?=w.heap[g]?):OwnTxt w' base A n c zs:=by
 obtain ⟨h1,h2,h3,h4⟩:=h
 refine ⟨h1,h2,h3,?_⟩
 rcases h4 with h0 | ⟨g,o,cs,e,hb,hg,hc⟩
 ·exact .inl h0
 ·exact .inr ⟨g,o,cs,e,hb,(hk g hb ⟨cs,hg⟩).trans hg,hc⟩
theorem OwnTxt.below (h:OwnTxt w base A n c zs) (hb:Below w.heap.size w w'):OwnTxt w' base A n c zs:=h.keep fun g _ hu=>hb.block g hu.lt
theorem OwnTxt.lower (h:OwnTxt w base A n c zs) (hb:base'≤base):OwnTxt w base' A n c zs:=by
 obtain ⟨h1,h2,h3,h4⟩:=h
 refine ⟨h1,h2,h3,?_⟩
 rcases h4 with h0 | ⟨g,o,cs,e,hg,r⟩
 ·exact .inl h0
 ·exact .inr ⟨g,o,cs,e,Nat.le_trans hb hg,r⟩
theorem OwnTxt.allocated (h:OwnTxt w base A n c zs) (o:Obj):OwnTxt (w.alloc o) base A n c zs:=h.below ((Below.refl _ _).alloc (Nat.le_refl _) o)
end
end Go.Proofs.Ytdbeiikaeccbhaa
namespace Go.Proofs.Ytdbeiikaeccbhaa
open Go.RowKit Go.OpenShut Go.ChangeShapes Go.WideShapes Go.Deep
theorem owns_cell {w:World} {base:Nat} {e:TypeId} {s:Nat} {A:Option Addr} {n c j:Nat} {xs:List Value} {v:Value} (h:w.ownsRow base e s (.slice A n c) n xs) (hj:xs[j]?=some v) :
  ∃ g,A=some ⟨g,0,none⟩∧g < w.heap.size∧w.cell? ⟨g,j,none⟩=some v:=by
 have hl:=h.1
 have hjl:=(List.getElem?_eq_some_iff.1 hj).1
 rcases h.2 with ⟨e,h0⟩ | ⟨g,cap,cur,hv,hb,hg,_⟩
 ·rw [h0,Nat.zero_mul] at hl;omega
 ·cases hv
  exact ⟨g,rfl,(Array.getElem?_eq_some_iff.1 hg).1,(h.cellAt j (by rw [← hl];exact hjl)).trans hj⟩
theorem owns_at2 {w:World} {base:Nat} {e:TypeId} {A:Option Addr} {n c k:Nat} {xs:List Value} (h:w.ownsRow base e 2 (.slice A n c) n xs) (hk:k < n * 2) :
  ∃ g v,A=some ⟨g,0,none⟩∧base≤g∧w.cell? ⟨g,k,none⟩=some v∧w.frozen? ⟨g,k,none⟩=false∧∀ u,(w.setCell ⟨g,k,none⟩ u).ownsRow base e 2 (.slice A n c) n (xs.set k u):=by
 have hl:=h.1
 rcases h.2 with ⟨_,h0⟩ | ⟨g,cap,cur,hv,hb,_⟩
 ·omega
 ·cases hv
  have hkl:k < xs.length:=by omega
  exact ⟨g,xs[k],rfl,hb,by rw [h.cellAt k (by omega),geE hkl],h.frozenAt k,fun u=>(h.stored k u).1⟩
theorem owns_other2 {w:World} {e e':TypeId} (he:e≠e') {b b':Nat} {v v':Value} {k k' s s':Nat} {xs xs':List Value} (h:w.ownsRow b e s v k xs) (h':w.ownsRow b' e' s' v' k' xs'):v.ownBlock=none∨v.ownBlock≠v'.ownBlock:=by
 rcases h.2 with ⟨rfl,_⟩ | ⟨g,cap,cur,rfl,_,hg,_⟩
 ·exact .inl rfl
 rcases h'.2 with ⟨rfl,_⟩ | ⟨g',cap',cur',rfl,_,hg',_⟩
 ·exact .inr (by simp [Value.ownBlock])
 ·refine .inr fun e2=>?_
  have e3:g=g':=by simpa [Value.ownBlock] using e2
  rw [e3,hg'] at hg
  simp at hg
  exact he hg.2.symm
theorem owns_other_box {w:World} {e t:TypeId} {base g s:Nat} {v:Value} {k:Nat} {xs cs:List Value} (h:w.ownsRow base e s v k xs) (hb:Blk w g t cs) (ht:t≠e) (i:Nat) (u:Value):(w.setCell ⟨g,i,none⟩ u).ownsRow base e s v k xs:=by
 refine h.kept (grownBy_set w g i u) ?_
 rcases h.2 with ⟨rfl,_⟩ | ⟨g',cap,cur,rfl,_,hg,_⟩
 ·exact .inl rfl
 ·refine .inr fun e2=>?_
  have e3:g'=g:=by simpa [Value.ownBlock] using e2
  unfold Blk at hb
  rw [e3,hb] at hg
  simp at hg
  exact ht hg.2
theorem ownsRow_some {W:World} {base:Nat} {e:TypeId} {size:Nat} {v:Value} {k:Nat} {xs:List Value} (h:W.ownsRow base e size v (k + 1) xs):∃ g cap,v=.slice (some ⟨g,0,none⟩) (k + 1) cap:=by
 rcases h.2 with ⟨_,h0⟩ | ⟨g,cap,_,rfl,_⟩
 ·omega
 ·exact ⟨g,cap,rfl⟩
theorem run_app2 {P:Program} (w:World) (base:Nat) (t ty e:TypeId) (i:TypeInfo) (z:Value) (bytes:Nat) (ht:P.underlying t=some (.slice e)) (hi:P.info? e=some i) (hz:i.zero=some z)
  (hsize:i.size=2) (hby:i.bytes=bytes) (hzs:z.cells.size=2) (v:Value) (n:Nat) (xs:List Value) (hown:w.ownsRow base e 2 v n xs)
  (b:Nat) (x y:Value) (hlit:Blk w b e [x,y]) (h1:x.oneCell'=true) (h2:y.oneCell'=true)
  (h63:n + 1≤maxLen) (hbytes:(n + 1) * bytes≤140737488355328) (hbase:base≤w.heap.size) :
  ∃ v' w',(Builtin.append_ #[t,t] ty #[v,.slice (some ⟨b,0,none⟩) 1 1]).run P w=.ok v' w'∧w'.ownsRow base e 2 v' (n + 1) (xs ++ [x,y])∧w.grownBy w' v.ownBlock∧(v'.ownBlock=v.ownBlock∨v'.ownBlock=some w.heap.size):=by
 have hcs:∀ j u,[x,y][j]?=some u→w.cell? ((⟨b,0,none⟩:Addr).add j)=some u:=by
  intro j u hu
  have e2:(⟨b,0,none⟩:Addr).add j=⟨b,0 + j,none⟩:=by unfold Addr.add;split <;> simp_all
  rw [e2,Nat.zero_add,hlit.cell j]
  exact hu
 obtain ⟨v',w',h,r2,r3,_,r5⟩:=run_append_own_at (P:=P) w base t ty e i z 2 bytes ht hi hz hsize hby hzs (by omega) v n xs hown ⟨b,0,none⟩ 1 1 [x,y] rfl hcs (by intro u hu;simp at hu;rcases hu with rfl | rfl <;> assumption) h63 hbytes hbase
 exact ⟨v',w',h,r2,r3,r5⟩
end Go.Proofs.Ytdbeiikaeccbhaa
namespace Go.Proofs.Ytdbeiikaeccbhaa
abbrev Txt:=List Int
abbrev Sec:=Bool × Txt
abbrev Pnd:=Int × Txt
def noughts:Txt:=List.replicate 32 0
def secOk (s:Sec):Bool:=decide (s.2.length=32) && (!s.1 || s.2.all (fun z=>decide (z=0)))
def pndOk (n:Nat) (p:Pnd):Bool:=decide (0≤p.1) && decide (p.1 < (n:Int)) && decide (p.2.length=32)
def mayD (S:List Sec) (C:List Pnd):Bool:=decide (1≤S.length) && decide (S.length≤1024) && decide (C.length≤64) && S.all secOk && C.all (pndOk S.length)
def chkD (S:List Sec) (C:List Pnd):Int:=if mayD S C then 0 else 8
def askE (S:List Sec) (C:List Pnd) (at_:Int):Int:=if mayD S C then (if at_ < 0∨(S.length:Int)≤at_ then 2 else 0) else 8
def wrE (S:List Sec) (C:List Pnd) (at_:Int) (b:Txt):Int:=if askE S C at_=0 then (if b.length=32 then (if 64≤C.length then 9 else 0) else 2) else askE S C at_
def wrS (S:List Sec) (C:List Pnd) (at_:Int) (b:Txt):List Sec:=if wrE S C at_ b=0 then S else []
def wrC (S:List Sec) (C:List Pnd) (at_:Int) (b:Txt):List Pnd:=if wrE S C at_ b=0 then C ++ [(at_,b)] else []
def pendB (C:List Pnd) (at_:Int):Bool:=C.any fun p=>decide (p.1=at_)
def lastW (C:List Pnd) (at_:Int):Option Txt:=(C.reverse.find? fun p=>decide (p.1=at_)).map (·.2)
def secAt (S:List Sec) (at_:Int):Sec:=S.getD at_.toNat (false,[])
def gotB (S:List Sec) (C:List Pnd) (at_:Int):Txt:=(lastW C at_).getD (secAt S at_).2
def gotOk (S:List Sec) (C:List Pnd) (at_:Int):Bool:=(lastW C at_).isSome || !(secAt S at_).1
def rdE (S:List Sec) (C:List Pnd) (at_:Int):Int:=if askE S C at_=0 then (if gotOk S C at_ then 0 else 50) else askE S C at_
def rdB (S:List Sec) (C:List Pnd) (at_:Int):Txt:=if rdE S C at_=0 then gotB S C at_ else []
def byFate (S:List Sec) (p:Pnd) (f:Int):List Sec:=if f % 3=1 then S.set p.1.toNat (false,p.2) else if f % 3=2 then S.set p.1.toNat (true,noughts) else S
def behindK (S:List Sec) (C:List Pnd) (F:List Int):Nat→List Sec
 | 0=>S
 | k + 1=>byFate (behindK S C F k) (C.getD k (0,[])) (F.getD k 0)
def behindS (S:List Sec) (C:List Pnd) (F:List Int):List Sec:=behindK S C F (min C.length F.length)
def crS (S:List Sec) (C:List Pnd) (F:List Int):List Sec:=if mayD S C then behindS S C F else []
def flS (S:List Sec) (C:List Pnd):List Sec:=crS S C (List.replicate C.length 1)
def greatD (S:List Sec) (C:List Pnd) (m:Int):Bool:=(S.take m.toNat).any (fun s=>decide (100 < s.2.length)) || (C.take 100).any (fun p=>decide (100 < p.2.length)) || decide (m < (S.length:Int)) || decide (100 < C.length)
structure SmallD (S:List Sec) (C:List Pnd):Prop where
 secs:S.length≤300
 pnds:C.length≤100
 long:∀ s ∈ S,s.2.length≤100
 wide:∀ p ∈ C,p.2.length≤100
theorem SmallD.nil:SmallD [] []:=⟨by simp,by simp,by simp,by simp⟩
theorem small_ofD {S:List Sec} {C:List Pnd} {m:Int} (hm0:0≤m) (hm:m≤300) (h:greatD S C m=false):SmallD S C:=by
 unfold greatD at h
 simp only [Bool.or_eq_false_iff,decide_eq_false_iff_not,List.any_eq_false,decide_eq_true_iff] at h
 obtain ⟨⟨⟨h1,h2⟩,h3⟩,h4⟩:=h
 refine ⟨by omega,by omega,fun s hs=>?_,fun p hp=>?_⟩
 ·have:=h1 s (by rw [List.take_of_length_le (by omega)];exact hs)
  omega
 ·have:=h2 p (by rw [List.take_of_length_le (by omega)];exact hp)
  omega
theorem mayD_iff (S:List Sec) (C:List Pnd):mayD S C=true↔(1≤S.length∧S.length≤1024∧C.length≤64)∧(∀ s ∈ S,s.2.length=32∧(s.1=true→∀ z ∈ s.2,z=0))∧∀ p ∈ C,0≤p.1∧p.1 < (S.length:Int)∧p.2.length=32:=by
 unfold mayD secOk pndOk
 simp only [Bool.and_eq_true,decide_eq_true_iff,List.all_eq_true,Bool.or_eq_true,Bool.not_eq_true']
 constructor
 ·rintro ⟨⟨⟨⟨h1,h2⟩,h3⟩,h4⟩,h5⟩
  refine ⟨⟨h1,h2,h3⟩,fun s hs=>⟨(h4 s hs).1,fun hb=>?_⟩,fun p hp=>?_⟩
  ·rcases (h4 s hs).2 with h | h
   ·rw [hb] at h;cases h
   ·exact h
  ·obtain ⟨⟨a,b⟩,c⟩:=h5 p hp
   exact ⟨a,b,c⟩
 ·rintro ⟨⟨h1,h2,h3⟩,h4,h5⟩
  refine ⟨⟨⟨⟨h1,h2⟩,h3⟩,fun s hs=>⟨(h4 s hs).1,?_⟩⟩,fun p hp=>?_⟩
  ·cases hb:s.1 with
   | true=>exact .inr ((h4 s hs).2 hb)
   | false=>exact .inl rfl
  ·obtain ⟨a,b,c⟩:=h5 p hp
   exact ⟨⟨a,b⟩,c⟩
end Go.Proofs.Ytdbeiikaeccbhaa
namespace Go.Proofs.Ytdbeiikaeccbhaa
open Go.RowKit Go.OpenShut Go.ChangeShapes Go.WideShapes Go.Deep
structure Secs (w:World) (A:Option Addr) (n c:Nat) (ss:List Sec):Prop where
 len:ss.length=n
 cap:n≤c
 max:c≤maxLen
 byte:∀ s ∈ ss,∀ z ∈ s.2,isByte z
 at_:∀ i,i < n→∃ b o Ai ni ci,A=some ⟨b,o,none⟩∧b < w.heap.size∧w.cell? ⟨b,o + i * 2,none⟩=some (.slice Ai ni ci)∧w.cell? ⟨b,o + i * 2 + 1,none⟩=some (.bool (ss.getD i (false,[])).1)∧Arg w .u8 Ai ni ci (ss.getD i (false,[])).2
section
variable {w w':World} {A:Option Addr} {n c:Nat} {ss:List Sec}
theorem Secs.below (h:Secs w A n c ss) (hb:Below w.heap.size w w'):Secs w' A n c ss :=
 ⟨h.len,h.cap,h.max,h.byte,fun i hi=>by
  obtain ⟨b,o,Ai,ni,ci,e,hlt,hc,hx,ha⟩:=h.at_ i hi
  exact ⟨b,o,Ai,ni,ci,e,Nat.lt_of_lt_of_le hlt hb.size,(hb.cell (p:=⟨b,_,none⟩) hlt).trans hc,(hb.cell (p:=⟨b,_,none⟩) hlt).trans hx,ha.below hb⟩⟩
theorem Secs.nil (w:World):Secs w none 0 0 []:=⟨rfl,Nat.le_refl _,by decide,by simp,fun i hi=>by omega⟩
theorem Secs.byte_at (h:Secs w A n c ss) (i:Nat):∀ z ∈ (ss.getD i (false,[])).2,isByte z:=by
 rcases Nat.lt_or_ge i ss.length with hi | hi
 ·rw [gtD,geE hi]
  exact h.byte _ (List.getElem_mem hi)
 ·rw [gtD,List.getElem?_eq_none hi]
  simp
end
def OwnSecs (w:World) (base:Nat) (A:Option Addr) (n c:Nat) (ss:List Sec):Prop :=
 ∃ vs:List Value,w.ownsRow base 86 2 (.slice A n c) n vs∧ss.length=n∧(∀ s ∈ ss,∀ z ∈ s.2,isByte z) ∧
  ∀ i,i < n→∃ Ai ni ci,vs[i * 2]?=some (.slice Ai ni ci)∧vs[i * 2 + 1]?=some (.bool (ss.getD i (false,[])).1)∧OwnTxt w base Ai ni ci (ss.getD i (false,[])).2
section
variable {w w':World} {base base':Nat} {A:Option Addr} {n c:Nat} {ss:List Sec}
theorem Secs.of_own (h:OwnSecs w base A n c ss):Secs w A n c ss:=by
 obtain ⟨vs,hown,hl,hb,hin⟩:=h
 refine ⟨hl,?_,?_,hb,fun i hi=>?_⟩
 ·rcases hown.2 with ⟨e,h0⟩ | ⟨g,cap,cur,e,_,_,h1,h2,_⟩ <;> cases e
  ·exact Nat.le_refl _
  ·exact h1
 ·rcases hown.2 with ⟨e,h0⟩ | ⟨g,cap,cur,e,_,_,h1,h2,_⟩ <;> cases e
  ·decide
  ·exact h2
 ·obtain ⟨Ai,ni,ci,hv,hx,ho⟩:=hin i hi
  obtain ⟨b,e,hlt,hc⟩:=owns_cell hown hv
  obtain ⟨b',e',_,hcx⟩:=owns_cell hown hx
  rw [e] at e'
  cases e'
  exact ⟨b,0,Ai,ni,ci,e,hlt,by rw [Nat.zero_add];exact hc,by rw [Nat.zero_add];exact hcx,ho.arg⟩
theorem OwnSecs.below (h:OwnSecs w base A n c ss) (hb:Below w.heap.size w w'):OwnSecs w' base A n c ss:=by
 obtain ⟨vs,hown,hl,hby,hin⟩:=h
 refine ⟨vs,owns_below hown hb,hl,hby,fun i hi=>?_⟩
 obtain ⟨Ai,ni,ci,hv,hx,ho⟩:=hin i hi
 exact ⟨Ai,ni,ci,hv,hx,ho.below hb⟩
theorem OwnSecs.lower (h:OwnSecs w base A n c ss) (hb:base'≤base):OwnSecs w base' A n c ss:=by
 obtain ⟨vs,hown,hl,hby,hin⟩:=h
 refine ⟨vs,owns_base hown hb,hl,hby,fun i hi=>?_⟩
 obtain ⟨Ai,ni,ci,hv,hx,ho⟩:=hin i hi
 exact ⟨Ai,ni,ci,hv,hx,ho.lower hb⟩
theorem OwnSecs.nil (w:World) (base:Nat):OwnSecs w base none 0 0 []:=⟨[],World.ownsRow_nil _ _ _ _,rfl,by simp,fun i hi=>by omega⟩
theorem OwnSecs.keep (h:OwnSecs w base A n c ss) (hk:∀ (g:Nat) (e:TypeId) (cs:Array Value),(e=86∨e=5)→base≤g→w.heap[g]?=some (.cells cs e (0,0))→w'.heap[g]?=w.heap[g]?):OwnSecs w' base A n c ss:=by
 obtain ⟨vs,hown,hl,hby,hin⟩:=h
 refine ⟨vs,owns_keep hown fun g cs hg hc=>hk g _ cs (.inl rfl) hg hc,hl,hby,fun i hi=>?_⟩
 obtain ⟨Ai,ni,ci,hv,hx,ho⟩:=hin i hi
 exact ⟨Ai,ni,ci,hv,hx,ho.keep fun g hg hu=>by
  obtain ⟨cs,hc⟩:=hu
  exact hk g _ cs (.inr rfl) hg hc⟩
theorem OwnSecs.kept (h:OwnSecs w base A n c ss) {row:Option Nat} (hg:w.grownBy w' row) (hr:∀ g,row=some g→g < base):OwnSecs w' base A n c ss :=
 h.keep fun g _ _ _ hb hc=>hg.block g (Array.getElem?_eq_some_iff.1 hc).1 (fun e=>by have:=hr g e.symm;omega)
theorem OwnSecs.away (h:OwnSecs w base A n c ss) {g:Nat} (hg:g < base) (i:Nat) (u:Value):OwnSecs (w.setCell ⟨g,i,none⟩ u) base A n c ss :=
 h.kept (grownBy_set w g i u) (fun _ e=>by injection e with e;omega)
theorem OwnSecs.box (h:OwnSecs w base A n c ss) {g:Nat} {t:TypeId} {cs:List Value} (hb:Blk w g t cs) (h1:t≠86) (h2:t≠5) (i:Nat) (u:Value):OwnSecs (w.setCell ⟨g,i,none⟩ u) base A n c ss :=
 h.keep fun g' e cs' he _ hc=>by
  refine Below.heap_setCell w _ u g' (fun e2=>?_)
  subst e2
  unfold Blk at hb
  rw [hb] at hc
  simp at hc
  rcases he with rfl | rfl
  ·exact h1 hc.2
  ·exact h2 hc.2
theorem OwnSecs.block (h:OwnSecs w base A n c ss) (hn:0 < n):∃ g,A=some ⟨g,0,none⟩∧base≤g∧g < w.heap.size:=by
 obtain ⟨vs,hown,_⟩:=h
 rcases hown.2 with ⟨_,h0⟩ | ⟨g,cap,cur,e,hb,hg,_⟩
 ·omega
 ·cases e
  exact ⟨g,rfl,hb,(Array.getElem?_eq_some_iff.1 hg).1⟩
theorem OwnSecs.other (h:OwnSecs w base A n c ss) {b:Nat} {e:TypeId} {s:Nat} {v:Value} {k:Nat} {xs:List Value} (hx:w.ownsRow b e s v k xs) (h1:86≠e) (h2:5≠e) (hg:w.grownBy w' v.ownBlock):OwnSecs w' base A n c ss :=
 h.keep fun g' e' cs' he _ hc=>by
  refine hg.block g' (Array.getElem?_eq_some_iff.1 hc).1 (fun e2=>?_)
  rcases hx.2 with ⟨rfl,_⟩ | ⟨g2,cap,cur,rfl,_,hg2,_⟩
  ·simp [Value.ownBlock] at e2
  ·have e3:g'=g2:=by simpa [Value.ownBlock] using e2
   subst e3
   rw [hg2] at hc
   simp at hc
   rcases he with rfl | rfl
   ·exact h1 hc.2.symm
   ·exact h2 hc.2.symm
end
theorem sec_info:(Try.prog.info? 86).map (fun i=>(i.zero,i.size,i.bytes))=some (some (.agg #[.slice none 0 0,.bool false]),2,32):=by kernel_rfl
theorem OwnSecs.setTxt {w:World} {base:Nat} {A:Option Addr} {n c:Nat} {ss:List Sec} (h:OwnSecs w base A n c ss) {i:Nat} (hi:i < n) {Ai:Option Addr} {ni ci:Nat} {x:Bool} {zs:List Int} (hz:∀ z ∈ zs,isByte z)
  (ho:OwnTxt w base Ai ni ci zs) :
  ∃ g u v,A=some ⟨g,0,none⟩∧base≤g∧w.cell? ⟨g,i * 2,none⟩=some u∧w.cell? ⟨g,i * 2 + 1,none⟩=some v∧w.frozen? ⟨g,i * 2,none⟩=false∧w.frozen? ⟨g,i * 2 + 1,none⟩=false ∧
   OwnSecs ((w.setCell ⟨g,i * 2,none⟩ (.slice Ai ni ci)).setCell ⟨g,i * 2 + 1,none⟩ (.bool x)) base A n c (ss.set i (x,zs)):=by
 obtain ⟨vs,hown,hl,hby,hin⟩:=h
 have hvl:vs.length=n * 2:=hown.1
 obtain ⟨g,u,rfl,hbg,hc,hf,hset⟩:=owns_at2 hown (show i * 2 < n * 2 by omega)
 have hown1:=hset (.slice Ai ni ci)
 obtain ⟨g',v,e',_,hc1,hf1,hset1⟩:=owns_at2 hown1 (show i * 2 + 1 < n * 2 by omega)
 cases e'
 have hc1':w.cell? ⟨g,i * 2 + 1,none⟩=vs[i * 2 + 1]?:=hown.cellAt _ (by omega)
 have hlt:vs[i * 2 + 1]?=some vs[i * 2 + 1]:=List.getElem?_eq_getElem (by omega)
 have hf1':w.frozen? ⟨g,i * 2 + 1,none⟩=false:=hown.frozenAt _
 refine ⟨g,u,vs[i * 2 + 1],rfl,hbg,hc,hc1'.trans hlt,hf,hf1',_,hset1 (.bool x),by rw [List.length_set];exact hl,?_,fun j hj=>?_⟩
 ·intro y hy z hzz
  rcases List.mem_or_eq_of_mem_set hy with hy | rfl
  ·exact hby y hy z hzz
  ·exact hz z hzz
 ·have hkeep:∀ {A':Option Addr} {n' c':Nat} {xs:List Int},OwnTxt w base A' n' c' xs→OwnTxt ((w.setCell ⟨g,i * 2,none⟩ (.slice Ai ni ci)).setCell ⟨g,i * 2 + 1,none⟩ (.bool x)) base A' n' c' xs:=fun hx =>
   hx.keep fun g' _ hu=>by
    have hne:g'≠g:=fun e=>by subst e;exact u8_row (by decide) hu hown rfl
    exact (Below.heap_setCell _ _ _ g' hne).trans (Below.heap_setCell w _ _ g' hne)
  by_cases e:i=j
  ·subst e
   refine ⟨Ai,ni,ci,?_,?_,?_⟩
   ·rw [List.getElem?_set_ne (by omega),List.getElem?_set_self (by omega)]
   ·rw [List.getElem?_set_self (by rw [List.length_set];omega)]
    simp [List.getD_eq_getElem?_getD,show i < ss.length by omega]
   ·have e2:(ss.set i (x,zs)).getD i (false,[])=(x,zs):=by simp [List.getD_eq_getElem?_getD,show i < ss.length by omega]
    rw [e2]
    exact hkeep ho
  ·obtain ⟨Aj,nj,cj,hv,hx,hoj⟩:=hin j hj
   have e2:(ss.set i (x,zs)).getD j (false,[])=ss.getD j (false,[]):=by simp [List.getD_eq_getElem?_getD,List.getElem?_set_ne e]
   refine ⟨Aj,nj,cj,?_,?_,by rw [e2];exact hkeep hoj⟩
   ·rw [List.getElem?_set_ne (by omega),List.getElem?_set_ne (by omega)];exact hv
   ·rw [List.getElem?_set_ne (by omega),List.getElem?_set_ne (by omega),e2];exact hx
end Go.Proofs.Ytdbeiikaeccbhaa
namespace Go.Proofs.Ytdbeiikaeccbhaa
open Go.RowKit Go.OpenShut Go.ChangeShapes Go.WideShapes Go.Deep
structure Pnds (w:World) (A:Option Addr) (n c:Nat) (ss:List Pnd):Prop where
 len:ss.length=n
 cap:n≤c
 max:c≤maxLen
 byte:∀ s ∈ ss,∀ z ∈ s.2,isByte z
 at_:∀ i,i < n→∃ b o Ai ni ci,A=some ⟨b,o,none⟩∧b < w.heap.size∧w.cell? ⟨b,o + i * 2 + 1,none⟩=some (.slice Ai ni ci)∧w.cell? ⟨b,o + i * 2,none⟩=some (.int .i64 (ss.getD i (0,[])).1)∧Arg w .u8 Ai ni ci (ss.getD i (0,[])).2
section
variable {w w':World} {A:Option Addr} {n c:Nat} {ss:List Pnd}
theorem Pnds.below (h:Pnds w A n c ss) (hb:Below w.heap.size w w'):Pnds w' A n c ss :=
 ⟨h.len,h.cap,h.max,h.byte,fun i hi=>by
  obtain ⟨b,o,Ai,ni,ci,e,hlt,hc,hx,ha⟩:=h.at_ i hi
  exact ⟨b,o,Ai,ni,ci,e,Nat.lt_of_lt_of_le hlt hb.size,(hb.cell (p:=⟨b,_,none⟩) hlt).trans hc,(hb.cell (p:=⟨b,_,none⟩) hlt).trans hx,ha.below hb⟩⟩
theorem Pnds.nil (w:World):Pnds w none 0 0 []:=⟨rfl,Nat.le_refl _,by decide,by simp,fun i hi=>by omega⟩
theorem Pnds.byte_at (h:Pnds w A n c ss) (i:Nat):∀ z ∈ (ss.getD i (0,[])).2,isByte z:=by
 rcases Nat.lt_or_ge i ss.length with hi | hi
 ·rw [gtD,geE hi]
  exact h.byte _ (List.getElem_mem hi)
 ·rw [gtD,List.getElem?_eq_none hi]
  simp
end
def OwnPnds (w:World) (base:Nat) (A:Option Addr) (n c:Nat) (ss:List Pnd):Prop :=
 ∃ vs:List Value,w.ownsRow base 33 2 (.slice A n c) n vs∧ss.length=n∧(∀ s ∈ ss,∀ z ∈ s.2,isByte z) ∧
  ∀ i,i < n→∃ Ai ni ci,vs[i * 2 + 1]?=some (.slice Ai ni ci)∧vs[i * 2]?=some (.int .i64 (ss.getD i (0,[])).1)∧OwnTxt w base Ai ni ci (ss.getD i (0,[])).2
section
variable {w w':World} {base base':Nat} {A:Option Addr} {n c:Nat} {ss:List Pnd}
theorem Pnds.of_own (h:OwnPnds w base A n c ss):Pnds w A n c ss:=by
 obtain ⟨vs,hown,hl,hb,hin⟩:=h
 refine ⟨hl,?_,?_,hb,fun i hi=>?_⟩
 ·rcases hown.2 with ⟨e,h0⟩ | ⟨g,cap,cur,e,_,_,h1,h2,_⟩ <;> cases e
  ·exact Nat.le_refl _
  ·exact h1
 ·rcases hown.2 with ⟨e,h0⟩ | ⟨g,cap,cur,e,_,_,h1,h2,_⟩ <;> cases e
  ·decide
  ·exact h2
 ·obtain ⟨Ai,ni,ci,hv,hx,ho⟩:=hin i hi
  obtain ⟨b,e,hlt,hc⟩:=owns_cell hown hv
  obtain ⟨b',e',_,hcx⟩:=owns_cell hown hx
  rw [e] at e'
  cases e'
  exact ⟨b,0,Ai,ni,ci,e,hlt,by rw [Nat.zero_add];exact hc,by rw [Nat.zero_add];exact hcx,ho.arg⟩
theorem OwnPnds.below (h:OwnPnds w base A n c ss) (hb:Below w.heap.size w w'):OwnPnds w' base A n c ss:=by
 obtain ⟨vs,hown,hl,hby,hin⟩:=h
 refine ⟨vs,owns_below hown hb,hl,hby,fun i hi=>?_⟩
 obtain ⟨Ai,ni,ci,hv,hx,ho⟩:=hin i hi
 exact ⟨Ai,ni,ci,hv,hx,ho.below hb⟩
theorem OwnPnds.lower (h:OwnPnds w base A n c ss) (hb:base'≤base):OwnPnds w base' A n c ss:=by
 obtain ⟨vs,hown,hl,hby,hin⟩:=h
 refine ⟨vs,owns_base hown hb,hl,hby,fun i hi=>?_⟩
 obtain ⟨Ai,ni,ci,hv,hx,ho⟩:=hin i hi
 exact ⟨Ai,ni,ci,hv,hx,ho.lower hb⟩
theorem OwnPnds.nil (w:World) (base:Nat):OwnPnds w base none 0 0 []:=⟨[],World.ownsRow_nil _ _ _ _,rfl,by simp,fun i hi=>by omega⟩
theorem OwnPnds.keep (h:OwnPnds w base A n c ss) (hk:∀ (g:Nat) (e:TypeId) (cs:Array Value),(e=33∨e=5)→base≤g→w.heap[g]?=some (.cells cs e (0,0))→w'.heap[g]?=w.heap[g]?):OwnPnds w' base A n c ss:=by
 obtain ⟨vs,hown,hl,hby,hin⟩:=h
 refine ⟨vs,owns_keep hown fun g cs hg hc=>hk g _ cs (.inl rfl) hg hc,hl,hby,fun i hi=>?_⟩
 obtain ⟨Ai,ni,ci,hv,hx,ho⟩:=hin i hi
 exact ⟨Ai,ni,ci,hv,hx,ho.keep fun g hg hu=>by
  obtain ⟨cs,hc⟩:=hu
  exact hk g _ cs (.inr rfl) hg hc⟩
theorem OwnPnds.kept (h:OwnPnds w base A n c ss) {row:Option Nat} (hg:w.grownBy w' row) (hr:∀ g,row=some g→g < base):OwnPnds w' base A n c ss :=
 h.keep fun g _ _ _ hb hc=>hg.block g (Array.getElem?_eq_some_iff.1 hc).1 (fun e=>by have:=hr g e.symm;omega)
theorem OwnPnds.away (h:OwnPnds w base A n c ss) {g:Nat} (hg:g < base) (i:Nat) (u:Value):OwnPnds (w.setCell ⟨g,i,none⟩ u) base A n c ss :=
 h.kept (grownBy_set w g i u) (fun _ e=>by injection e with e;omega)
theorem OwnPnds.box (h:OwnPnds w base A n c ss) {g:Nat} {t:TypeId} {cs:List Value} (hb:Blk w g t cs) (h1:t≠33) (h2:t≠5) (i:Nat) (u:Value):OwnPnds (w.setCell ⟨g,i,none⟩ u) base A n c ss :=
 h.keep fun g' e cs' he _ hc=>by
  refine Below.heap_setCell w _ u g' (fun e2=>?_)
  subst e2
  unfold Blk at hb
  rw [hb] at hc
  simp at hc
  rcases he with rfl | rfl
  ·exact h1 hc.2
  ·exact h2 hc.2
theorem OwnPnds.other (h:OwnPnds w base A n c ss) {b:Nat} {e:TypeId} {s:Nat} {v:Value} {k:Nat} {xs:List Value} (hx:w.ownsRow b e s v k xs) (h1:33≠e) (h2:5≠e) (hg:w.grownBy w' v.ownBlock):OwnPnds w' base A n c ss :=
 h.keep fun g' e' cs' he _ hc=>by
  refine hg.block g' (Array.getElem?_eq_some_iff.1 hc).1 (fun e2=>?_)
  rcases hx.2 with ⟨rfl,_⟩ | ⟨g2,cap,cur,rfl,_,hg2,_⟩
  ·simp [Value.ownBlock] at e2
  ·have e3:g'=g2:=by simpa [Value.ownBlock] using e2
   subst e3
   rw [hg2] at hc
   simp at hc
   rcases he with rfl | rfl
   ·exact h1 hc.2.symm
   ·exact h2 hc.2.symm
end
theorem pnd_info:(Try.prog.info? 33).map (fun i=>(i.zero,i.size,i.bytes))=some (some (.agg #[.int .i64 0,.slice none 0 0]),2,32):=by kernel_rfl
theorem OwnPnds.snoc {w w':World} {base:Nat} {A A' Ai:Option Addr} {n c c' ni ci:Nat} {ss:List Pnd} {x:Int} {zs:List Int} {vs:List Value} (hown0:w.ownsRow base 33 2 (.slice A n c) n vs) (hl:ss.length=n) (hby:∀ s ∈ ss,∀ z ∈ s.2,isByte z)
  (hin:∀ i,i < n→∃ Ai ni ci,vs[i * 2 + 1]?=some (.slice Ai ni ci)∧vs[i * 2]?=some (.int .i64 (ss.getD i (0,[])).1)∧OwnTxt w base Ai ni ci (ss.getD i (0,[])).2) (hz:∀ z ∈ zs,isByte z)
  (ho:OwnTxt w base Ai ni ci zs) (hg:w.grownBy w' (Value.slice A n c).ownBlock)
  (hown:w'.ownsRow base 33 2 (.slice A' (n + 1) c') (n + 1) (vs ++ [(.int .i64 x),(.slice Ai ni ci)])):OwnPnds w' base A' (n + 1) c' (ss ++ [(x,zs)]):=by
 have hvl:vs.length=n * 2:=hown0.1
 have hkeep:∀ {A':Option Addr} {n' c':Nat} {xs:List Int},OwnTxt w base A' n' c' xs→OwnTxt w' base A' n' c' xs:=fun hx =>
  hx.keep fun g' _ hu=>hg.block g' (by obtain ⟨cs,hc⟩:=hu;exact (Array.getElem?_eq_some_iff.1 hc).1) (fun e=>u8_row (by decide) hu hown0 e.symm)
 refine ⟨_,hown,by simp [hl],?_,fun j hj=>?_⟩
 ·intro y hy z hzz
  rcases List.mem_append.1 hy with hy | hy
  ·exact hby y hy z hzz
  ·rw [List.mem_singleton] at hy
   subst hy
   exact hz z hzz
 ·by_cases e:j=n
  ·subst e
   have e2:(ss ++ [(x,zs)]).getD j (0,[])=(x,zs):=by simp [List.getD_eq_getElem?_getD,hl]
   refine ⟨Ai,ni,ci,?_,?_,by rw [e2];exact hkeep ho⟩
   ·rw [List.getElem?_append_right (by omega),show j * 2 + 1 - vs.length=1 from by omega];rfl
   ·rw [List.getElem?_append_right (by omega),e2,show j * 2 - vs.length=0 from by omega];rfl
  ·obtain ⟨Aj,nj,cj,hv,hx,hoj⟩:=hin j (by omega)
   have e2:(ss ++ [(x,zs)]).getD j (0,[])=ss.getD j (0,[]):=by simp [List.getD_eq_getElem?_getD,List.getElem?_append_left (show j < ss.length by omega)]
   refine ⟨Aj,nj,cj,?_,?_,by rw [e2];exact hkeep hoj⟩
   ·rw [List.getElem?_append_left (by omega)];exact hv
   ·rw [List.getElem?_append_left (by omega),e2];exact hx
theorem run_pnd (w0 w:World) (ty:TypeId) (base:Nat) (A0:Option Addr) (n c0:Nat) (ss:List Pnd) (hown:OwnPnds w base A0 n c0 ss)
  (Ai:Option Addr) (ni ci:Nat) (x:Int) (zs:List Int) (hb:∀ z ∈ zs,isByte z) (hoi:w.ownsRow base 5 1 (.slice Ai ni ci) ni (ints .u8 zs))
  (h63:n + 1≤100000) (hbel:Below base w0 w) (hw0:base≤w0.heap.size) :
  ∃ g' c' w',(Builtin.append_ #[54,54] ty #[.slice A0 n c0,.slice (some ⟨w.heap.size,0,none⟩) 1 1]).run Try.prog (w.alloc (.cells #[(.int .i64 x),(.slice Ai ni ci)] 33))=.ok (.slice (some ⟨g',0,none⟩) (n + 1) c') w'∧OwnPnds w' base (some ⟨g',0,none⟩) (n + 1) c' (ss ++ [(x,zs)])∧Below base w0 w' ∧
   (w.alloc (.cells #[(.int .i64 x),(.slice Ai ni ci)] 33)).grownBy w' (Value.slice A0 n c0).ownBlock:=by
 obtain ⟨i,hi,hz,hsize,hby⟩:=info_parts pnd_info
 have hml:(100000:Nat)≤maxLen:=by decide
 obtain ⟨vs,hv,hl,hby2,hin⟩:=hown
 have hbase:base≤w.heap.size:=Nat.le_trans hw0 hbel.size
 have hblk:=Blk.new w 33 [(.int .i64 x),(.slice Ai ni ci)]
 obtain ⟨v',w',hrun,hown',hg,_⟩:=run_app2 (P:=Try.prog) (w.alloc (.cells #[(.int .i64 x),(.slice Ai ni ci)] 33)) base 54 ty 33 i _ 32 Try.underlying54 hi hz hsize hby rfl _ n vs (hv.allocated _) w.heap.size (.int .i64 x) (.slice Ai ni ci) hblk rfl rfl (by omega) (by omega) (by simp;omega)
 obtain ⟨g',c',rfl⟩:=ownsRow_some hown'
 have hfin:OwnPnds w' base (some ⟨g',0,none⟩) (n + 1) c' (ss ++ [(x,zs)]):=OwnPnds.snoc (hv.allocated _) hl hby2 (fun i hi=>by
  obtain ⟨Aj,nj,cj,e,ex,hj⟩:=hin i hi
  exact ⟨Aj,nj,cj,e,ex,hj.allocated _⟩) hb (OwnTxt.of (hoi.allocated _)) hg hown'
 exact ⟨g',c',w',hrun,hfin,(hbel.alloc hbase _).grown hg (by simp;omega) (fun g e=>(hv.lt g e).1),hg⟩
end Go.Proofs.Ytdbeiikaeccbhaa
namespace Go.Proofs.Ytdbeiikaeccbhaa
open Go.RowKit Go.OpenShut Go.ChangeShapes Go.WideShapes Go.Deep Go.Joins
abbrev diskV (A:Option Addr) (n c:Nat) (A':Option Addr) (n' c':Nat):Value:=.agg #[.slice A n c,.slice A' n' c']
structure Dsk (w:World) (A:Option Addr) (n c:Nat) (A':Option Addr) (n' c':Nat) (S:List Sec) (C:List Pnd):Prop where
 secs:Secs w A n c S
 pnds:Pnds w A' n' c' C
structure OwnDsk (w:World) (base:Nat) (A:Option Addr) (n c:Nat) (A':Option Addr) (n' c':Nat) (S:List Sec) (C:List Pnd):Prop where
 secs:OwnSecs w base A n c S
 pnds:OwnPnds w base A' n' c' C
section
variable {w w':World} {base base':Nat} {A A':Option Addr} {n c n' c':Nat} {S:List Sec} {C:List Pnd}
theorem Dsk.below (h:Dsk w A n c A' n' c' S C) (hb:Below w.heap.size w w'):Dsk w' A n c A' n' c' S C:=⟨h.secs.below hb,h.pnds.below hb⟩
theorem Dsk.of_own (h:OwnDsk w base A n c A' n' c' S C):Dsk w A n c A' n' c' S C:=⟨Secs.of_own h.secs,Pnds.of_own h.pnds⟩
theorem OwnDsk.below (h:OwnDsk w base A n c A' n' c' S C) (hb:Below w.heap.size w w'):OwnDsk w' base A n c A' n' c' S C:=⟨h.secs.below hb,h.pnds.below hb⟩
theorem OwnDsk.lower (h:OwnDsk w base A n c A' n' c' S C) (hb:base'≤base):OwnDsk w base' A n c A' n' c' S C:=⟨h.secs.lower hb,h.pnds.lower hb⟩
theorem OwnDsk.nil (w:World) (base:Nat):OwnDsk w base none 0 0 none 0 0 [] []:=⟨OwnSecs.nil _ _,OwnPnds.nil _ _⟩
theorem OwnDsk.away (h:OwnDsk w base A n c A' n' c' S C) {g:Nat} (hg:g < base) (i:Nat) (u:Value):OwnDsk (w.setCell ⟨g,i,none⟩ u) base A n c A' n' c' S C:=⟨h.secs.away hg i u,h.pnds.away hg i u⟩
theorem OwnDsk.box (h:OwnDsk w base A n c A' n' c' S C) {g:Nat} {cs:List Value} (hb:Blk w g 56 cs) (i:Nat) (u:Value):OwnDsk (w.setCell ⟨g,i,none⟩ u) base A n c A' n' c' S C :=
 ⟨h.secs.box hb (by decide) (by decide) i u,h.pnds.box hb (by decide) (by decide) i u⟩
end
theorem Blk.two {w:World} {g:Nat} {t:TypeId} {a b:Value} (h:Blk w g t [a,b]) (x y:Value):Blk ((w.setCell ⟨g,0,none⟩ x).setCell ⟨g,1,none⟩ y) g t [x,y]:=(h.set 0 x).set 1 y
theorem Blk.away {w:World} {g g':Nat} {t:TypeId} {cs:List Value} (h:Blk w g t cs) (hg:g≠g') (i:Nat) (u:Value):Blk (w.setCell ⟨g',i,none⟩ u) g t cs :=
 h.grown (grownBy_set w g' i u) (fun e=>hg (by injection e))
theorem below_two {B:Nat} {w0 w:World} (h:Below B w0 w) {g:Nat} (hg:B≤g) (x y:Value):Below B w0 ((w.setCell ⟨g,0,none⟩ x).setCell ⟨g,1,none⟩ y) :=
 (h.setCell (p:=⟨g,0,none⟩) hg x).setCell (p:=⟨g,1,none⟩) hg y
theorem OwnDsk.two {w:World} {base:Nat} {A A':Option Addr} {n c n' c':Nat} {S:List Sec} {C:List Pnd} (h:OwnDsk w base A n c A' n' c' S C) {g:Nat} {cs:List Value} (hb:Blk w g 56 cs) (x y:Value) :
  OwnDsk ((w.setCell ⟨g,0,none⟩ x).setCell ⟨g,1,none⟩ y) base A n c A' n' c' S C:=(h.box hb 0 x).box (hb.set 0 x) 1 y
theorem OwnSecs.beside {w w':World} {base b:Nat} {A B:Option Addr} {n c m d:Nat} {S:List Sec} {C:List Pnd} (h:OwnSecs w base A n c S) (hp:OwnPnds w b B m d C) (hg:w.grownBy w' (Value.slice B m d).ownBlock):OwnSecs w' base A n c S:=by
 obtain ⟨vs,hown,_⟩:=hp
 exact h.other hown (by decide) (by decide) hg
theorem OwnPnds.not_blk {w:World} {base g:Nat} {A:Option Addr} {n c:Nat} {C:List Pnd} {cs:List Value} (h:OwnPnds w base A n c C) (hb:Blk w g 56 cs):some g≠(Value.slice A n c).ownBlock:=by
 obtain ⟨vs,hown,_⟩:=h
 intro e
 rcases hown.2 with ⟨e2,_⟩ | ⟨g',cap,cur,e2,_,hg',_⟩ <;> cases e2
 ·simp [Value.ownBlock] at e
 ·have e3:g=g':=by simpa [Value.ownBlock] using e
  subst e3
  unfold Blk at hb
  rw [hb] at hg'
  simp at hg'
theorem box_disk (w:World) (A:Option Addr) (n c:Nat) (A':Option Addr) (n' c':Nat) :
  (w.alloc (.cells #[.slice A n c,.slice A' n' c'] 56)).cell? ⟨w.heap.size,0,none⟩=some (.slice A n c) ∧
  (w.alloc (.cells #[.slice A n c,.slice A' n' c'] 56)).cell? ⟨w.heap.size,1,none⟩=some (.slice A' n' c') :=
 ⟨(Blk.new w 56 [.slice A n c,.slice A' n' c']).cell 0,(Blk.new w 56 [.slice A n c,.slice A' n' c']).cell 1⟩
theorem boxes2 (w:World) (A:Option Addr) (n c:Nat) (A':Option Addr) (n' c':Nat) (B:Option Addr) (k d:Nat) (B':Option Addr) (k' d':Nat) :
  Blk ((w.alloc (.cells #[.slice A n c,.slice A' n' c'] 56)).alloc (.cells #[.slice B k d,.slice B' k' d'] 56)) w.heap.size 56 [.slice A n c,.slice A' n' c'] ∧
  Blk ((w.alloc (.cells #[.slice A n c,.slice A' n' c'] 56)).alloc (.cells #[.slice B k d,.slice B' k' d'] 56)) (w.heap.size + 1) 56 [.slice B k d,.slice B' k' d'] ∧
  Below w.heap.size w ((w.alloc (.cells #[.slice A n c,.slice A' n' c'] 56)).alloc (.cells #[.slice B k d,.slice B' k' d'] 56)):=by
 refine ⟨(Blk.new w 56 [.slice A n c,.slice A' n' c']).grown (World.grownBy_alloc _ _ none) (by simp),?_,((Below.refl _ _).alloc (Nat.le_refl _) _).alloc (by simp) _⟩
 have:=Blk.new (w.alloc (.cells #[.slice A n c,.slice A' n' c'] 56)) 56 [.slice B k d,.slice B' k' d']
 rwa [World.size_alloc] at this
theorem open_text {H:Type} {enc:TypeId × Value→H} {W:World} {fuel:Nat} {v:Value} {y:DataW H × List MemPlace} (h:DataW.trod enc Try.prog W 0 (fun _=>true) true fuel 22 [v]=some y) :
  ∃ A n c zs,v=.slice A n c∧Arg W .u8 A n c zs∧∀ z ∈ zs,isByte z:=by
 rcases open_ints Try.underlying22 Try.underlying5 (by kernel_rfl) h with ⟨hcs,_⟩ | ⟨x,l,c,zs,hcs,_,hl,hm,hz,_,hcell,hwz⟩
 ·have hv:v=.slice none 0 0:=by simpa using hcs
  exact ⟨none,0,0,[],hv,Arg.nil _ _,by simp⟩
 ·have hv:v=.slice (some x) l c:=by simpa using hcs
  have hrow:IsRow .u8 W (some x) l c zs:=.inr ⟨_,rfl,hl,hm,by simpa using hz,hcell,hwz⟩
  obtain ⟨ls,h1,h2⟩:=hrow.arg
  exact ⟨some x,l,c,ls,hv,h1,fun z hz=>wf_byte (h2 z hz)⟩
theorem add_none (b o i:Nat):(⟨b,o,none⟩:Addr).add i=⟨b,o + i,none⟩:=by unfold Addr.add;split <;> simp_all
theorem open_secs {H:Type} {enc:TypeId × Value→H} {W:World} {fuel:Nat} {v:Value} {y:DataW H × List MemPlace} (h:DataW.trod enc Try.prog W 0 (fun _=>true) true fuel 53 [v]=some y) :
  ∃ A n c ss,v=.slice A n c∧Secs W A n c ss:=by
 rcases open_slice_pairs Try.underlying53 Try.underlying86 (by kernel_rfl) rfl rfl (by kernel_rfl) (by kernel_rfl) h with ⟨hcs,_⟩ | ⟨a,len,cap,m,k,V0,V1,D0,D1,P0,P1,hcs,_,hl,hm,hmm,_,hx⟩
 ·have hv:v=.slice none 0 0:=by simpa using hcs
  exact ⟨none,0,0,[],hv,Secs.nil W⟩
 ·have hv:v=.slice (some a) len cap:=by simpa using hcs
  simp only [if_true] at hmm
  have each:∀ i,i < len→∃ s:Sec,(∃ Ai ni ci,V0 i=.slice Ai ni ci∧V1 i=.bool s.1∧Arg W .u8 Ai ni ci s.2)∧∀ z ∈ s.2,isByte z:=fun i hi=>by
   obtain ⟨_,_,h0,h1⟩:=hx i (by omega)
   obtain ⟨Ai,ni,ci,zs,e0,ha,hb⟩:=open_text h0
   obtain ⟨bb,e1,_⟩:=DataW.trod_bool Try.underlying4 h1
   exact ⟨(bb,zs),⟨Ai,ni,ci,e0,by simpa using e1,ha⟩,hb⟩
  obtain ⟨s,hs⟩:=choose_lt each
  refine ⟨some a,len,cap,(List.range len).map s,hv,by simp,hl,hm,?_,fun i hi=>?_⟩
  ·intro t ht
   obtain ⟨r,hr,rfl⟩:=List.mem_map.1 ht
   exact (hs r (List.mem_range.1 hr)).2
  ·obtain ⟨b,o,spot⟩:=a
   have hc0:=(hx 0 (by omega)).1
   have hsp:spot=none:=by simpa [Addr.add] using World.cell?_spot hc0
   subst hsp
   obtain ⟨hc,hc1,_,_⟩:=hx i (by omega)
   rw [add_none] at hc hc1
   obtain ⟨Ai,ni,ci,e0,e1,ha⟩:=(hs i hi).1
   have e2:((List.range len).map s).getD i (false,[])=s i:=by simp [List.getD_eq_getElem?_getD,hi]
   refine ⟨b,o,Ai,ni,ci,rfl,World.block_lt_of_cell? W _ hc,by rw [← e0];exact hc,by rw [e2,← e1];exact hc1,by rw [e2];exact ha⟩
theorem open_pnds {H:Type} {enc:TypeId × Value→H} {W:World} {fuel:Nat} {v:Value} {y:DataW H × List MemPlace} (h:DataW.trod enc Try.prog W 0 (fun _=>true) true fuel 54 [v]=some y) :
  ∃ A n c ss,v=.slice A n c∧Pnds W A n c ss∧∀ p ∈ ss,(Lit.int .i64 p.1).wf=true:=by
 rcases open_slice_pairs Try.underlying54 Try.underlying33 (by kernel_rfl) rfl rfl (by kernel_rfl) (by kernel_rfl) h with ⟨hcs,_⟩ | ⟨a,len,cap,m,k,V0,V1,D0,D1,P0,P1,hcs,_,hl,hm,hmm,_,hx⟩
 ·have hv:v=.slice none 0 0:=by simpa using hcs
  exact ⟨none,0,0,[],hv,Pnds.nil W,by simp⟩
 ·have hv:v=.slice (some a) len cap:=by simpa using hcs
  simp only [if_true] at hmm
  have each:∀ i,i < len→∃ s:Pnd,(∃ Ai ni ci,V1 i=.slice Ai ni ci∧V0 i=.int .i64 s.1∧Arg W .u8 Ai ni ci s.2)∧(∀ z ∈ s.2,isByte z)∧(Lit.int .i64 s.1).wf=true:=fun i hi=>by
   obtain ⟨_,_,h0,h1⟩:=hx i (by omega)
   obtain ⟨Ai,ni,ci,zs,e0,ha,hb⟩:=open_text h1
   obtain ⟨x,e1,_,hw⟩:=DataW.trod_int Try.underlying3 h0
   exact ⟨(x,zs),⟨Ai,ni,ci,e0,by simpa using e1,ha⟩,hb,hw⟩
  obtain ⟨s,hs⟩:=choose_lt each
  refine ⟨some a,len,cap,(List.range len).map s,hv,⟨by simp,hl,hm,?_,fun i hi=>?_⟩,?_⟩
  ·intro t ht
   obtain ⟨r,hr,rfl⟩:=List.mem_map.1 ht
   exact (hs r (List.mem_range.1 hr)).2.1
  ·obtain ⟨b,o,spot⟩:=a
   have hc0:=(hx 0 (by omega)).1
   have hsp:spot=none:=by simpa [Addr.add] using World.cell?_spot hc0
   subst hsp
   obtain ⟨hc,hc1,_,_⟩:=hx i (by omega)
   rw [add_none] at hc hc1
   obtain ⟨Ai,ni,ci,e0,e1,ha⟩:=(hs i hi).1
   have e2:((List.range len).map s).getD i (0,[])=s i:=by simp [List.getD_eq_getElem?_getD,hi]
   refine ⟨b,o,Ai,ni,ci,rfl,World.block_lt_of_cell? W _ hc,by rw [← e0];exact hc1,by rw [e2,← e1];exact hc,by rw [e2];exact ha⟩
  ·intro t ht
   obtain ⟨r,hr,rfl⟩:=List.mem_map.1 ht
   exact (hs r (List.mem_range.1 hr)).2.2
theorem open_disk {H:Type} {enc:TypeId × Value→H} {W:World} {b0:Nat} {r:Reach} {v:Value} {d:DataW H} {p:List MemPlace} (hv:Value.okWide Try.prog W r b0 56 v) (h:DataW.Trod enc Try.prog W 0 (fun _=>true) true 56 v d p) :
  ∃ A n c A' n' c' S C,v=diskV A n c A' n' c'∧Dsk W A n c A' n' c' S C∧∀ p ∈ C,(Lit.int .i64 p.1).wf=true:=by
 obtain ⟨v0,v1,y0,y1,n,rfl,_,_,h0,h1⟩:=open_agg2 Try.underlying56 (by kernel_rfl) (by kernel_rfl) hv h
 obtain ⟨A,l,c,S,rfl,hs⟩:=open_secs h0
 obtain ⟨A',l',c',C,rfl,hp,hw⟩:=open_pnds h1
 exact ⟨A,l,c,A',l',c',S,C,rfl,⟨hs,hp⟩,hw⟩
end Go.Proofs.Ytdbeiikaeccbhaa
