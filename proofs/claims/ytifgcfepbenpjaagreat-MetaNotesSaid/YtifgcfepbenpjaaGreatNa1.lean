/- Texts of layers 1 to 12, joined. -/
import Derived.Test.YtifgcfepbenpjaaGreatRows
import Derived.WalkKit
import Derived.WalkSpells
import Derived.WalkLawsBesides
import Derived.Lib.Hide
import Derived.Deep.Draws
import Derived.BigQuiet
import Derived.Deep.QuietTactic
import Derived.Maps.AppendAt
import Derived.Deep.AppendLies
import Derived.OpenShut
import Derived.Laws.CopyOwn
import Derived.Deep.RegionHeld3
import Derived.OrdersHeld
import Derived.Deep.RegionHeld
import Derived.Laws.BitsAllLaws
import Derived.WalkMore
import Derived.ScopeJumps
import Derived.Deep.LoopGhost
import Derived.StillTailTactics
import Derived.Deep.RegionWith
import Derived.Lib.Bytes
set_option maxRecDepth 100000
set_option maxHeartbeats 12800000
set_option linter.unusedVariables false
namespace Go.Proofs.YtifgcfepbenpjaaGreat
theorem Lh {p : Prop} (h : p) : Go.RowKit.Hid p := h
theorem gtD {α : Type _} {l : List α} {i : Nat} {a : α} : l.getD i a = l[i]?.getD a := List.getD_eq_getElem?_getD
theorem gcZ {α : Type _} {a : α} {l : List α} : (a :: l)[0]? = some a := List.getElem?_cons_zero
theorem gcS {α : Type _} {a : α} {l : List α} {i : Nat} : (a :: l)[i + 1]? = l[i]? := List.getElem?_cons_succ
theorem stA {α : Type _} (l : List α) (i : Nat) (a : α) : l.toArray.setIfInBounds i a = (l.set i a).toArray := List.setIfInBounds_toArray l i a
theorem scZ {α : Type _} {x : α} {xs : List α} {a : α} : (x :: xs).set 0 a = a :: xs := List.set_cons_zero
theorem scS {α : Type _} {x : α} {xs : List α} {n : Nat} {a : α} : (x :: xs).set (n + 1) a = x :: xs.set n a := List.set_cons_succ
theorem geE {α : Type _} {l : List α} {i : Nat} (h : i < l.length) : l[i]? = some (l[i]'h) := List.getElem?_eq_getElem h
end Go.Proofs.YtifgcfepbenpjaaGreat
namespace Go.Proofs.YtifgcfepbenpjaaGreat
def isByte (z:Int):Prop:=0≤z∧z < 256
def isWord (z:Int):Prop:=0≤z∧z < 18446744073709551616
end Go.Proofs.YtifgcfepbenpjaaGreat
namespace Go.Proofs.YtifgcfepbenpjaaGreat
open Go.RowKit
def Seq (w:World) (B:Nat) (A:Option Addr) (xs:List Value):Prop :=
 ∀ (j:Nat) (v:Value),xs[j]?=some v→∃ b o,A=some ⟨b,o,none⟩∧b < B∧w.cell? ⟨b,o + j,none⟩=some v
def ints (k:IntKind) (zs:List Int):List Value:=zs.map (Value.int k)
theorem ints_length (k:IntKind) (zs:List Int):(ints k zs).length=zs.length:=by simp [ints]
theorem ints_getD (k:IntKind) (zs:List Int) (j:Nat) (h:j < zs.length):(ints k zs)[j]?=some (.int k (zs.getD j 0)):=by simp [ints,h]
theorem ints_app (k:IntKind) (xs ys:List Int):ints k (xs ++ ys)=ints k xs ++ ints k ys:=by simp [ints]
theorem ints_one (k:IntKind) (zs:List Int):∀ u ∈ ints k zs,u.oneCell'=true:=by
 intro u hu
 obtain ⟨z,_,rfl⟩:=List.mem_map.1 hu
 rfl
theorem set_ints (k:IntKind) (l:List Int) (i:Nat) (x:Int):(ints k l).set i (.int k x)=ints k (l.set i x):=by
 simp [ints,List.map_set]
section
variable {w w':World} {B B':Nat} {A:Option Addr} {xs ys:List Value}
theorem Seq.empty:Seq w B A []:=fun j v h=>by simp at h
theorem Seq.at_ (h:Seq w B A xs) (hne:0 < xs.length):∃ b o,A=some ⟨b,o,none⟩∧b < B∧∀ (j:Nat) (v:Value),xs[j]?=some v→w.cell? ⟨b,o + j,none⟩=some v:=by
 obtain ⟨b,o,rfl,hb,_⟩:=h 0 xs[0] (List.getElem?_eq_getElem hne)
 refine ⟨b,o,rfl,hb,fun j v hv=>?_⟩
 obtain ⟨b',o',e,_,hc⟩:=h j v hv
 cases e
 exact hc
theorem Seq.of {b o:Nat} (hb:b < B) (h:∀ (j:Nat) (v:Value),xs[j]?=some v→w.cell? ⟨b,o + j,none⟩=some v):Seq w B (some ⟨b,o,none⟩) xs :=
 fun j v hv=>⟨b,o,rfl,hb,h j v hv⟩
theorem Seq.int {k:IntKind} {zs:List Int} (h:Seq w B A (ints k zs)) {j:Nat} (hj:j < zs.length) :
  ∃ b o,A=some ⟨b,o,none⟩∧b < B∧w.cell? ⟨b,o + j,none⟩=some (.int k (zs.getD j 0)):=h j _ (ints_getD k zs j hj)
theorem Seq.keep (h:Seq w B A xs) (hk:∀ p:Addr,p.block < B→w'.cell? p=w.cell? p):Seq w' B A xs:=fun j v hv=>by
 obtain ⟨b,o,e,hb,hc⟩:=h j v hv
 exact ⟨b,o,e,hb,(hk _ hb).trans hc⟩
theorem Seq.more (h:Seq w B A xs) (hB:B≤B'):Seq w B' A xs:=fun j v hv=>by
 obtain ⟨b,o,e,hb,hc⟩:=h j v hv
 exact ⟨b,o,e,by omega,hc⟩
theorem Seq.below (h:Seq w B A xs) (hb:Below B w w'):Seq w' B A xs:=h.keep fun _ hp=>hb.cell hp
theorem Seq.grown (h:Seq w B A xs) {row:Option Nat} (hg:w.grownBy w' row) (hB:B≤w.heap.size) (hr:∀ g,row=some g→B≤g):Seq w' B A xs :=
 h.keep fun p hp=>World.cell?_of_block (hg.block p.block (by omega) (fun e=>by have:=hr _ e.symm;omega))
theorem Seq.alloc (h:Seq w B A xs) (hB:B≤w.heap.size) (o:Obj):Seq (w.alloc o) B A xs:=h.keep fun p hp=>World.cell?_alloc_lt w o p (by omega)
theorem Seq.take (h:Seq w B A xs) (n:Nat):Seq w B A (xs.take n):=fun j v hv=>by
 rw [List.getElem?_take] at hv
 split at hv
 ·exact h j v hv
 ·cases hv
theorem Seq.drop {b o:Nat} (h:Seq w B (some ⟨b,o,none⟩) xs) (n:Nat):Seq w B (some ⟨b,o + n,none⟩) (xs.drop n):=fun j v hv=>by
 rw [List.getElem?_drop] at hv
 obtain ⟨b',o',e,hb,hc⟩:=h (n + j) v hv
 cases e
 exact ⟨_,_,rfl,hb,by rw [show o + n + j=o + (n + j) from by omega];exact hc⟩
theorem Seq.own {base:Nat} {e:TypeId} {n c:Nat} (h:w.ownsRow base e 1 (.slice A n c) n xs):Seq w w.heap.size A xs:=by
 rcases h.2 with ⟨_,h0⟩ | ⟨g,cap,cur,hv,_,hg,_,_,_,_⟩
 ·have:xs=[]:=List.eq_nil_of_length_eq_zero (by have:=h.1;omega)
  subst this
  exact Seq.empty
 ·cases hv
  refine Seq.of (Array.getElem?_eq_some_iff.1 hg).1 fun j v hv=>?_
  have hc:=h.cells (g:=g) rfl j v hv
  have e:(⟨g,0,none⟩:Addr).add j=⟨g,0 + j,none⟩:=by unfold Addr.add;split <;> simp_all
  rwa [e] at hc
end
def IsRow (k:IntKind) (w:World) (a:Option Addr) (len cap:Nat) (zs:List Int):Prop :=
 (a=none∧len=0∧cap=0∧zs=[]) ∨
 ∃ x,a=some x∧len≤cap∧cap≤maxLen∧zs.length=cap∧(∀ i,i < zs.length→w.cell? (x.add i)=some (.int k (zs.getD i 0)))∧∀ n ∈ zs,(Lit.int k n).wf=true
theorem IsRow.read {k:IntKind} {w:World} {a:Option Addr} {len cap:Nat} {zs:List Int} (h:IsRow k w a len cap zs) :
  ∃ l:List Int,l.length=len∧len≤cap∧cap≤maxLen∧Seq w w.heap.size a (ints k l)∧∀ z ∈ l,(Lit.int k z).wf=true:=by
 rcases h with ⟨rfl,rfl,rfl,rfl⟩ | ⟨x,rfl,hl,hm,hz,hc,hw⟩
 ·exact ⟨[],rfl,Nat.le_refl _,by decide,Seq.empty,by simp⟩
 ·refine ⟨zs.take len,by simp;omega,hl,hm,?_,fun z hz=>hw z (List.mem_of_mem_take hz)⟩
  intro j v hv
  have hj:j < len∧j < zs.length:=by
   have:j < (ints k (zs.take len)).length:=by
    rcases Nat.lt_or_ge j (ints k (zs.take len)).length with h | h
    ·exact h
    ·rw [List.getElem?_eq_none h] at hv;cases hv
   simp [ints] at this
   omega
  have hv':v=.int k (zs.getD j 0):=by
   have e:=ints_getD k (zs.take len) j (by simp;omega)
   rw [e] at hv
   injection hv with hv
   rw [← hv]
   simp [hj.1]
  subst hv'
  obtain ⟨b,o,spot⟩:=x
  have h0:=hc 0 (by omega)
  have hs:spot=none:=by simpa [Addr.add] using World.cell?_spot h0
  subst hs
  have hcj:=hc j hj.2
  have e:(⟨b,o,none⟩:Addr).add j=⟨b,o + j,none⟩:=by unfold Addr.add;split <;> simp_all
  rw [e] at hcj
  exact ⟨b,o,rfl,World.block_lt_of_cell? w _ hcj,hcj⟩
def Blk (w:World) (g:Nat) (t:TypeId) (cs:List Value):Prop:=w.heap[g]?=some (.cells cs.toArray t (0,0))
section
variable {w w':World} {g:Nat} {t:TypeId} {cs:List Value}
theorem Blk.lt (h:Blk w g t cs):g < w.heap.size:=(Array.getElem?_eq_some_iff.1 h).1
theorem Blk.cell (h:Blk w g t cs) (i:Nat):w.cell? ⟨g,i,none⟩=cs[i]?:=by
 have:=cell_of_row w g i cs.toArray t (0,0) h
 simpa using this
theorem Blk.free (h:Blk w g t cs) (i:Nat):w.frozen? ⟨g,i,none⟩=false:=by
 unfold Blk at h
 simp [World.frozen?,h]
theorem Blk.set (h:Blk w g t cs) (i:Nat) (u:Value):Blk (w.setCell ⟨g,i,none⟩ u) g t (cs.set i u):=by
 unfold Blk at h ⊢
 simp [World.setCell,Array.getElem?_modify,h]
theorem Blk.ty {t':TypeId} {cs':List Value} (h:Blk w g t cs) (h':Blk w g t' cs'):t=t':=by
 unfold Blk at h h'
 rw [h] at h'
 injection h' with h'
 injection h' with _ e
theorem Blk.grown {row:Option Nat} (h:Blk w g t cs) (hb:w.grownBy w' row) (hg:some g≠row):Blk w' g t cs:=(hb.block g h.lt hg).trans h
theorem Blk.below {B:Nat} (h:Blk w g t cs) (hb:Below B w w') (hg:g < B):Blk w' g t cs:=(hb.block g hg).trans h
theorem Blk.seq (h:Blk w g t cs) (o n:Nat):Seq w (g + 1) (some ⟨g,o,none⟩) ((cs.drop o).take n):=fun j v hv=>by
 refine ⟨g,o,rfl,by omega,?_⟩
 rw [h.cell]
 rw [List.getElem?_take] at hv
 split at hv
 ·rwa [List.getElem?_drop] at hv
 ·cases hv
end
theorem Blk.owns {w:World} {g:Nat} {t:TypeId} {cs:List Value} (h:Blk w g t cs) {base n:Nat} (hb:base≤g) (hn:cs.length=n) (hm:n≤maxLen):w.ownsRow base t 1 (.slice (some ⟨g,0,none⟩) n n) n cs :=
 ⟨by omega,.inr ⟨g,n,cs.toArray,rfl,hb,h,Nat.le_refl _,hm,by simp [hn],by simp [← hn]⟩⟩
theorem below_of_grown {w w':World} (h:w.grownBy w' none):Below w.heap.size w w':=(Below.refl _ _).grown h (Nat.le_refl _) (fun _ e=>by cases e)
def RowOut (k:IntKind) (t:TypeId) (w:World) (zs:List Int) (E:Int) (e:Ending) (w':World):Prop :=
 ∃ A c,e=.returned (.tuple #[.slice A zs.length c,.int .i64 E])∧w'.ownsRow w.heap.size t 1 (.slice A zs.length c) zs.length (ints k zs)∧Below w.heap.size w w'
theorem RowOut.len {k:IntKind} {t:TypeId} {w:World} {zs zs':List Int} {E:Int} {e:Ending} {w':World} (h:RowOut k t w zs E e w') {n:Nat} (hz:zs=zs') (hn:zs'.length=n) :
  ∃ A c,e=.returned (.tuple #[.slice A n c,.int .i64 E])∧w'.ownsRow w.heap.size t 1 (.slice A n c) n (ints k zs')∧Below w.heap.size w w':=by
 subst hz;subst hn;exact h
theorem _root_.Go.World.grownBy.weak {w w':World} {row row':Option Nat} (h:w.grownBy w' row) (hr:∀ k,row=some k→k < w.heap.size→row'=some k):w.grownBy w' row' :=
 ⟨h.os,h.tape,h.output,h.size,fun k hk he=>h.block k hk (fun e=>he (hr k e.symm hk).symm)⟩
theorem grownBy_drew {w wr:World} {row:Option Nat} (h:w.grownBy wr row):w.grownBy wr.drew row:=⟨h.os,h.tape,h.output,h.size,h.block⟩
theorem grownBy_then {a b c:World} {row:Option Nat} (h:a.grownBy b none) (k:b.grownBy c row) (hr:∀ g,row=some g→a.heap.size≤g):a.grownBy c none :=
 ⟨k.os.trans h.os,k.tape.trans h.tape,k.output.trans h.output,Nat.le_trans h.size k.size,fun i hi _=>(k.block i (by have:=h.size;omega) (fun e=>by have:=hr i e.symm;omega)).trans (h.block i hi (by simp))⟩
theorem grownBy_set (w:World) (g i:Nat) (u:Value):w.grownBy (w.setCell ⟨g,i,none⟩ u) (some g) :=
 ⟨rfl,rfl,rfl,by simp [World.setCell],fun k _ hk=>Below.heap_setCell w _ u k (fun e=>hk (by rw [e]))⟩
theorem grownBy_trans {a b c:World} {row:Option Nat} (h:a.grownBy b row) (k:b.grownBy c row):a.grownBy c row :=
 ⟨k.os.trans h.os,k.tape.trans h.tape,k.output.trans h.output,Nat.le_trans h.size k.size,fun i hi hr=>(k.block i (by have:=h.size;omega) hr).trans (h.block i hi hr)⟩
theorem grownBy_set_new {w wr:World} {row:Option Nat} (h:w.grownBy wr row) {g:Nat} (hg:w.heap.size≤g) (i:Nat) (u:Value):w.grownBy (wr.setCell ⟨g,i,none⟩ u) row :=
 ⟨h.os,h.tape,h.output,by have:=h.size;simp [World.setCell];omega,fun k hk hr=>(Below.heap_setCell wr _ u k (fun e=>by simp at e;omega)).trans (h.block k hk hr)⟩
theorem grownBy_refl (w:World) (row:Option Nat):w.grownBy w row:=⟨rfl,rfl,rfl,Nat.le_refl _,fun _ _ _=>rfl⟩
def rep (n:Nat) (z:Value):Array Value:=(List.replicate n z).toArray
theorem run_make1 {P:Program} (t e:TypeId) (i:TypeInfo) (z:Value) (ht:P.underlying t=some (.slice e)) (hi:P.info? e=some i) (hz:i.zero=some z) (h1:i.size=1) (hzc:z.cells=#[z])
  (n:Nat) (hb:i.bytes * n≤281474976710656) (hm:n≤maxLen) (w:World) :
  (Instr.makeSlice t (.int .i64 (n:Int)) (.int .i64 (n:Int))).run P w=.ok (.slice (some ⟨w.heap.size,0,none⟩) n n) (w.alloc (.cells (rep n z) e)):=by
 have hm':(n:Int)≤9223372036854775807:=by simp only [maxLen] at hm;omega
 have hb':(i.bytes:Int) * (n:Int)≤281474976710656:=by
  have h:((i.bytes * n:Nat):Int)≤281474976710656:=by omega
  rwa [Int.natCast_mul] at h
 have hr:=run_make (P:=P) w t e i z ht hi hz .i64 .i64 n n (by omega) (Int.le_refl _) hb' hm'
 simp only [Int.toNat_natCast,h1,Nat.mul_one,hzc] at hr
 rw [hr]
 have he:madeCells #[z] n=rep n z:=by
  have:=toList_madeCells_one z n
  rw [rep,← this]
 rw [he]
theorem Blk.new (w:World) (t:TypeId) (cs:List Value):Blk (w.alloc (.cells cs.toArray t)) w.heap.size t cs:=heap_alloc_new w _
theorem grown_of_below {w w':World} (h:Below w.heap.size w w'):w.grownBy w' none:=⟨h.os,h.tape,h.output,h.size,fun k hk _=>h.block k hk⟩
theorem owns_below {w w':World} {base:Nat} {e:TypeId} {size:Nat} {v:Value} {n:Nat} {xs:List Value} (h:w.ownsRow base e size v n xs) (hb:Below w.heap.size w w'):w'.ownsRow base e size v n xs :=
 h.kept (grown_of_below hb) (by cases v.ownBlock <;> simp)
theorem run_app {P:Program} (w:World) (base:Nat) (t ty e:TypeId) (i:TypeInfo) (z:Value) (bytes:Nat) (ht:P.underlying t=some (.slice e)) (hi:P.info? e=some i) (hz:i.zero=some z)
  (hsize:i.size=1) (hby:i.bytes=bytes) (hzs:z.cells.size=1) (v:Value) (n:Nat) (xs:List Value) (hown:w.ownsRow base e 1 v n xs)
  (B:Nat) (A:Option Addr) (m c:Nat) (news:List Value) (hl:news.length=m) (hr:Seq w B A news) (h1:∀ u ∈ news,u.oneCell'=true)
  (h63:n + m≤maxLen) (hbytes:(n + m) * bytes≤140737488355328) (hbase:base≤w.heap.size) :
  ∃ v' w',(Builtin.append_ #[t,t] ty #[v,.slice A m c]).run P w=.ok v' w'∧w'.ownsRow base e 1 v' (n + m) (xs ++ news)∧w.grownBy w' v.ownBlock∧(v'.ownBlock=v.ownBlock∨v'.ownBlock=some w.heap.size):=by
 cases A with
 | none =>
  have hm:news=[]:=by
   cases news with
   | nil=>rfl
   | cons x r=>obtain ⟨_,_,e,_⟩:=hr 0 x rfl;cases e
  subst hm
  have hm0:m=0:=by simpa using hl.symm
  subst hm0
  refine ⟨v,w,?_,by simpa using hown,grownBy_refl _ _,.inl rfl⟩
  rcases hown.2 with ⟨rfl,rfl⟩ | ⟨g,cap,cur,rfl,_,_,hnc,_⟩
  ·simp [Builtin.append_,run_underlying ht,sizeOf,typeInfo,hi,Builtin.lenOf,Builtin.firstCells]
  ·simp [Builtin.append_,run_underlying ht,sizeOf,typeInfo,hi,Builtin.lenOf,Builtin.firstCells,hnc,storeCells]
 | some a =>
  have hcs:∀ j u,news[j]?=some u→w.cell? (a.add j)=some u:=by
   intro j u hu
   obtain ⟨b,o,e,_,hc⟩:=hr j u hu
   injection e with e
   subst e
   have e2:(⟨b,o,none⟩:Addr).add j=⟨b,o + j,none⟩:=by unfold Addr.add;split <;> simp_all
   rw [e2];exact hc
  obtain ⟨v',w',h,h2,h3,_,h5⟩:=run_append_own_at (P:=P) w base t ty e i z 1 bytes ht hi hz hsize hby hzs (by omega) v n xs hown a m c news (by omega) hcs h1 h63 hbytes hbase
  exact ⟨v',w',h,h2,h3,h5⟩
theorem wpList_app {P:Program} (w:World) {ops:Array Oper} {rest:List Oper} {o:Oper} {a:Act} {Q:Exit→Act→World→Prop} (hgd:o.guard=none) (s x:Operand) (t:TypeId)
  (ho:o.op=.call { callee:=.builtin .append,args:=#[s,x],argTypes:=#[t,t] })
  (base:Nat) (e:TypeId) (i:TypeInfo) (z:Value) (bytes:Nat) (ht:P.underlying t=some (.slice e)) (hi:P.info? e=some i) (hz:i.zero=some z)
  (hsize:i.size=1) (hby:i.bytes=bytes) (hzs:z.cells.size=1) (v:Value) (n:Nat) (xs:List Value) (hs:a.eval s=v) (hown:w.ownsRow base e 1 v n xs)
  (B:Nat) (A:Option Addr) (m c:Nat) (news:List Value) (hx:a.eval x=.slice A m c) (hl:news.length=m) (hr:Seq w B A news) (h1:∀ u ∈ news,u.oneCell'=true)
  (h63:n + m≤maxLen) (hbytes:(n + m) * bytes≤140737488355328) (hbase:base≤w.heap.size)
  (h:∀ v' w',w'.ownsRow base e 1 v' (n + m) (xs ++ news)→w.grownBy w' v.ownBlock→(v'.ownBlock=v.ownBlock∨v'.ownBlock=some w.heap.size)→wpList P ops Q rest (a.put o.dst v') w'):wpList P ops Q (o :: rest) a w:=by
 refine wpList_plain hgd fun K hK=>?_
 obtain ⟨v',w',hrun,h2,h3,h4⟩:=run_app (P:=P) w base t o.type e i z bytes ht hi hz hsize hby hzs v n xs hown B A m c news hl hr h1 h63 hbytes hbase
 unfold Oper.wp execOp
 simp only [ho,resolve,invoke,builtin,Sem.run_bind,Sem.run_pure,Result.andThen_ok,List.map_toArray,List.map_cons,List.map_nil,hs,hx,hrun]
 exact hK _ _ (h v' w' h2 h3 h4)
theorem owns_base {w:World} {base base':Nat} {e:TypeId} {size:Nat} {v:Value} {n:Nat} {xs:List Value} (h:w.ownsRow base e size v n xs) (hb:base'≤base):w.ownsRow base' e size v n xs:=by
 refine ⟨h.1,?_⟩
 rcases h.2 with h2 | ⟨g,cap,cur,hv,hg,r⟩
 ·exact .inl h2
 ·exact .inr ⟨g,cap,cur,hv,Nat.le_trans hb hg,r⟩
theorem owns_slice {w:World} {base:Nat} {e:TypeId} {v:Value} {n:Nat} {xs:List Value} (h:w.ownsRow base e 1 v n xs):∃ A c,v=.slice A n c:=by
 rcases h.2 with ⟨rfl,rfl⟩ | ⟨g,cap,cur,rfl,_⟩
 ·exact ⟨_,_,rfl⟩
 ·exact ⟨_,_,rfl⟩
theorem lit_seq (w:World) (t:TypeId) (k:IntKind) (zs:List Int):Seq (w.alloc (.cells (ints k zs).toArray t)) (w.heap.size + 1) (some ⟨w.heap.size,0,none⟩) (ints k zs):=by
 have h:=(Blk.new w t (ints k zs)).seq 0 (ints k zs).length
 simpa using h
theorem lit_row (w:World) (t:TypeId) (k:IntKind) (zs:List Int) (cs:Array Value) (b B:Nat) (h:cs=(ints k zs).toArray) (hb:b=w.heap.size) (hB:w.heap.size < B):Seq (w.alloc (.cells cs t)) B (some ⟨b,0,none⟩) (ints k zs):=by
 subst h;subst hb;exact (lit_seq w t k zs).more hB
theorem run_str {P:Program} (w:World) (src dst e:TypeId) (hs:P.underlying src=some (.slice e)) (he:P.underlying e=some (.int .u8)) (hd:P.underlying dst=some .string) {B:Nat} {A:Option Addr} {n c:Nat} {zs:List Int}
  (h:Seq w B A (ints .u8 zs)) (hl:zs.length=n):(convert src dst (.slice A n c)).run P w=.ok (.string (strOfNums zs)) w:=by
 cases A with
 | none =>
  have hz:zs=[]:=by
   cases zs with
   | nil=>rfl
   | cons x r=>obtain ⟨_,_,e,_⟩:=h 0 _ rfl;cases e
  subst hz
  have:n=0:=by simpa using hl.symm
  subst this
  exact run_convert_bytes_nil w src e hs he 0 c dst hd
 | some a =>
  rcases Nat.eq_zero_or_pos n with h0 | h0
  ·subst h0
   have hz:zs=[]:=List.eq_nil_of_length_eq_zero hl
   subst hz
   obtain ⟨b,o,s⟩:=a
   have hr:(loadCells ⟨b,o,s⟩ 0).run P w=.ok (([]:List Int).map (Value.int .u8)).toArray w:=run_loadCells_list (P:=P) w ⟨b,o,s⟩ [] (fun j v hj=>by simp at hj)
   rw [run_convert_bytes_string w src dst e _ 0 c hs he hd,run_bytesToString w _ 0 c [] hr]
   rfl
  ·obtain ⟨b,o,e',_,hc⟩:=h.at_ (by rw [ints_length];omega)
   rw [e']
   exact run_convert_bytes_arg w src e hs he b o n c zs hl (fun i hi=>by
    have:=hc i _ (ints_getD .u8 zs i (by omega))
    exact this) dst hd
theorem wpList_dup {P:Program} (w:World) {ops:Array Oper} {rest:List Oper} {o:Oper} {a:Act} {Q:Exit→Act→World→Prop} (hgd:o.guard=none) (s x:Operand) (t:TypeId)
  (ho:o.op=.call { callee:=.builtin .append,args:=#[s,x],argTypes:=#[t,t] })
  (e:TypeId) (i:TypeInfo) (z:Value) (bytes:Nat) (ht:P.underlying t=some (.slice e)) (hi:P.info? e=some i) (hz:i.zero=some z)
  (hsize:i.size=1) (hby:i.bytes=bytes) (hzs:z.cells.size=1) (hs:a.eval s=.slice (some ⟨w.heap.size,0,none⟩) 0 0)
  (A:Option Addr) (m c:Nat) (news:List Value) (hx:a.eval x=.slice A m c) (hl:news.length=m) (hr:Seq w w.heap.size A news) (h1:∀ u ∈ news,u.oneCell'=true)
  (h63:m≤maxLen) (hbytes:m * bytes≤140737488355328)
  (h:∀ A' c' w',w'.ownsRow w.heap.size e 1 (.slice A' m c') m news→Below w.heap.size w w'→wpList P ops Q rest (a.put o.dst (.slice A' m c')) w'):wpList P ops Q (o :: rest) a (w.alloc (.cells #[] e)):=by
 have hlit:(w.alloc (.cells #[] e)).ownsRow w.heap.size e 1 (.slice (some ⟨w.heap.size,0,none⟩) 0 0) 0 []:=World.ownsRow_lit w #[] 0 (Nat.le_refl _) (by decide) rfl
 refine wpList_app _ hgd s x t ho w.heap.size e i z bytes ht hi hz hsize hby hzs _ 0 [] hs hlit w.heap.size A m c news hx hl (hr.alloc (Nat.le_refl _) _) h1 (by omega) (by rw [Nat.zero_add];exact hbytes) (by simp) ?_
 intro v' w' hown hg _
 rw [Nat.zero_add,List.nil_append] at hown
 obtain ⟨A',c',rfl⟩:=owns_slice hown
 exact h A' c' w' hown (((Below.refl _ _).alloc (Nat.le_refl _) _).grown hg (by simp) (fun g e=>by have e:some w.heap.size=some g:=e;injection e with e;omega))
theorem owns_at {w:World} {base:Nat} {e:TypeId} {A:Option Addr} {n c k:Nat} {xs:List Value} (h:w.ownsRow base e 1 (.slice A n c) n xs) (hk:k < n) :
  ∃ g v,A=some ⟨g,0,none⟩∧base≤g∧w.cell? ⟨g,k,none⟩=some v∧w.frozen? ⟨g,k,none⟩=false∧∀ u,(w.setCell ⟨g,k,none⟩ u).ownsRow base e 1 (.slice A n c) n (xs.set k u):=by
 have hl:=h.1
 rcases h.2 with ⟨_,h0⟩ | ⟨g,cap,cur,hv,hb,_⟩
 ·omega
 ·cases hv
  have hkl:k < xs.length:=by omega
  exact ⟨g,xs[k],rfl,hb,by rw [h.cellAt k (by omega),geE hkl],h.frozenAt k,fun u=>(h.stored k u).1⟩
theorem owns_int_at {w:World} {base:Nat} {e:TypeId} {A:Option Addr} {n c j:Nat} {k:IntKind} {zs:List Int} (h:w.ownsRow base e 1 (.slice A n c) n (ints k zs)) (hj:j < n) :
  ∃ g,A=some ⟨g,0,none⟩∧base≤g∧w.cell? ⟨g,j,none⟩=some (.int k (zs.getD j 0))∧w.frozen? ⟨g,j,none⟩=false∧∀ x,(w.setCell ⟨g,j,none⟩ (.int k x)).ownsRow base e 1 (.slice A n c) n (ints k (zs.set j x)):=by
 have hl:=h.1
 rw [ints_length] at hl
 obtain ⟨g,v,rfl,hb,hc,hf,hset⟩:=owns_at h hj
 refine ⟨g,rfl,hb,?_,hf,fun x=>?_⟩
 ·have:=h.cellAt j (by omega)
  rw [this,ints_getD k zs j (by omega)]
 ·have:=hset (.int k x)
  rwa [show (ints k zs).set j (.int k x)=ints k (zs.set j x) from by simp [ints,List.map_set]] at this
theorem _root_.Go.World.ownsRow.allocated {w:World} {base:Nat} {e:TypeId} {size:Nat} {v:Value} {n:Nat} {xs:List Value} (h:w.ownsRow base e size v n xs) (o:Obj):(w.alloc o).ownsRow base e size v n xs :=
 owns_below h ((Below.refl _ _).alloc (Nat.le_refl _) o)
end Go.Proofs.YtifgcfepbenpjaaGreat
namespace Go.Proofs.YtifgcfepbenpjaaGreat
open Go.RowKit Go.OpenShut
structure Arg (w:World) (k:IntKind) (A:Option Addr) (n c:Nat) (zs:List Int):Prop where
 seq:Seq w w.heap.size A (ints k zs)
 len:zs.length=n
 cap:n≤c
 max:c≤maxLen
theorem Arg.below {w w':World} {k:IntKind} {A:Option Addr} {n c:Nat} {zs:List Int} (h:Arg w k A n c zs) (hb:Below w.heap.size w w'):Arg w' k A n c zs :=
 ⟨(h.seq.below hb).more hb.size,h.len,h.cap,h.max⟩
theorem Arg.nil (w:World) (k:IntKind):Arg w k none 0 0 []:=⟨Seq.empty,rfl,Nat.le_refl _,by decide⟩
theorem Arg.own {w:World} {k:IntKind} {base:Nat} {t:TypeId} {A:Option Addr} {n c:Nat} {zs:List Int} (h:w.ownsRow base t 1 (.slice A n c) n (ints k zs)):Arg w k A n c zs:=by
 refine ⟨Seq.own h,by have:=h.1;rw [ints_length] at this;omega,?_,?_⟩
 ·rcases h.2 with ⟨e,rfl⟩ | ⟨g,cap,cur,e,_,_,h1,h2,_⟩ <;> cases e
  ·exact Nat.le_refl _
  ·exact h1
 ·rcases h.2 with ⟨e,rfl⟩ | ⟨g,cap,cur,e,_,_,h1,h2,_⟩ <;> cases e
  ·decide
  ·exact h2
theorem IsRow.arg {k:IntKind} {w:World} {a:Option Addr} {len cap:Nat} {zs:List Int} (h:IsRow k w a len cap zs):∃ l:List Int,Arg w k a len cap l∧∀ z ∈ l,(Lit.int k z).wf=true:=by
 obtain ⟨l,h1,h2,h3,h4,h5⟩:=h.read
 exact ⟨l,⟨h4,h1,h2,h3⟩,h5⟩
theorem wf_byte {z:Int} (h:(Lit.int .u8 z).wf=true):isByte z:=by
 have:=bounds_u8 h
 exact ⟨this.1,by omega⟩
theorem byte_info:(Tryz.prog.info? 5).map (fun i=>(i.zero,i.size,i.bytes))=some (some (.int .u8 0),1,1):=by kernel_rfl
theorem byte_size:(Tryz.prog.info? 5).map (·.size)=some 1:=by kernel_rfl
end Go.Proofs.YtifgcfepbenpjaaGreat
namespace Go.Proofs.YtifgcfepbenpjaaGreat
open Go.RowKit
theorem run_dup {P:Program} (w:World) (t ty e:TypeId) (i:TypeInfo) (z:Value) (bytes:Nat) (ht:P.underlying t=some (.slice e)) (hi:P.info? e=some i) (hz:i.zero=some z)
  (hsize:i.size=1) (hby:i.bytes=bytes) (hzs:z.cells.size=1) (A:Option Addr) (m c:Nat) (news:List Value) (hl:news.length=m) (hr:Seq w w.heap.size A news) (h1:∀ u ∈ news,u.oneCell'=true)
  (h63:m≤maxLen) (hbytes:m * bytes≤140737488355328) :
  ∃ A' c' w',(Builtin.append_ #[t,t] ty #[.slice (some ⟨w.heap.size,0,none⟩) 0 0,.slice A m c]).run P (w.alloc (.cells #[] e))=.ok (.slice A' m c') w'∧w'.ownsRow w.heap.size e 1 (.slice A' m c') m news∧Below w.heap.size w w':=by
 have hlit:(w.alloc (.cells #[] e)).ownsRow w.heap.size e 1 (.slice (some ⟨w.heap.size,0,none⟩) 0 0) 0 []:=World.ownsRow_lit w #[] 0 (Nat.le_refl _) (by decide) rfl
 obtain ⟨v',w',hrun,hown,hg,_⟩:=run_app (P:=P) (w.alloc (.cells #[] e)) w.heap.size t ty e i z bytes ht hi hz hsize hby hzs _ 0 [] hlit w.heap.size A m c news hl (hr.alloc (Nat.le_refl _) _) h1 (by omega) (by rw [Nat.zero_add];exact hbytes) (by simp)
 rw [Nat.zero_add,List.nil_append] at hown
 obtain ⟨A',c',rfl⟩:=owns_slice hown
 exact ⟨A',c',w',hrun,hown,((Below.refl _ _).alloc (Nat.le_refl _) _).grown hg (by simp) (fun g e=>by have e:some w.heap.size=some g:=e;injection e with e;omega)⟩
theorem run_behind {P:Program} (w0 w:World) (base:Nat) (t ty e:TypeId) (i:TypeInfo) (z:Value) (bytes:Nat) (ht:P.underlying t=some (.slice e)) (hi:P.info? e=some i) (hz:i.zero=some z)
  (hsize:i.size=1) (hby:i.bytes=bytes) (hzs:z.cells.size=1) (A0:Option Addr) (n c0:Nat) (xs:List Value) (hown:w.ownsRow base e 1 (.slice A0 n c0) n xs)
  (B:Nat) (A:Option Addr) (m c:Nat) (news:List Value) (hl:news.length=m) (hr:Seq w B A news) (h1:∀ u ∈ news,u.oneCell'=true)
  (h63:n + m≤maxLen) (hbytes:(n + m) * bytes≤140737488355328) (hb:Below base w0 w) (hw0:base≤w0.heap.size) :
  ∃ A' c' w',(Builtin.append_ #[t,t] ty #[.slice A0 n c0,.slice A m c]).run P w=.ok (.slice A' (n + m) c') w'∧w'.ownsRow base e 1 (.slice A' (n + m) c') (n + m) (xs ++ news)∧Below base w0 w':=by
 have hbase:base≤w.heap.size:=Nat.le_trans hw0 hb.size
 obtain ⟨v',w',hrun,hown',hg,_⟩:=run_app (P:=P) w base t ty e i z bytes ht hi hz hsize hby hzs _ n xs hown B A m c news hl hr h1 h63 hbytes hbase
 obtain ⟨A',c',rfl⟩:=owns_slice hown'
 exact ⟨A',c',w',hrun,hown',hb.grown hg hbase (fun g e=>(hown.lt g e).1)⟩
theorem wpList_want {P:Program} {ops:Array Oper} {Q:Exit→Act→World→Prop} {a:Act} {w:World} {rest:List Oper} {o:Oper} (hw:Region.wanted o (yielded ops a.tmps)=true)
  (h:∀ K:Act→World→Prop,(∀ a w,wpList P ops Q rest a w→K a w)→o.wp P a w K Q):wpList P ops Q (o :: rest) a w :=
 wpList_step fun K hK=>by simp only [hw,if_true];exact h K hK
theorem wpList_dup_g {P:Program} (w:World) {ops:Array Oper} {rest:List Oper} {o:Oper} {a:Act} {Q:Exit→Act→World→Prop} (hw:Region.wanted o (yielded ops a.tmps)=true) (s x:Operand) (t:TypeId)
  (ho:o.op=.call { callee:=.builtin .append,args:=#[s,x],argTypes:=#[t,t] })
  (e:TypeId) (i:TypeInfo) (z:Value) (bytes:Nat) (ht:P.underlying t=some (.slice e)) (hi:P.info? e=some i) (hz:i.zero=some z)
  (hsize:i.size=1) (hby:i.bytes=bytes) (hzs:z.cells.size=1) (hs:a.eval s=.slice (some ⟨w.heap.size,0,none⟩) 0 0)
  (A:Option Addr) (m c:Nat) (news:List Value) (hx:a.eval x=.slice A m c) (hl:news.length=m) (hr:Seq w w.heap.size A news) (h1:∀ u ∈ news,u.oneCell'=true)
  (h63:m≤maxLen) (hbytes:m * bytes≤140737488355328)
  (h:∀ A' c' w',w'.ownsRow w.heap.size e 1 (.slice A' m c') m news→Below w.heap.size w w'→wpList P ops Q rest (a.put o.dst (.slice A' m c')) w'):wpList P ops Q (o :: rest) a (w.alloc (.cells #[] e)):=by
 refine wpList_want hw fun K hK=>?_
 obtain ⟨A',c',w',hrun,h2,h3⟩:=run_dup (P:=P) w t o.type e i z bytes ht hi hz hsize hby hzs A m c news hl hr h1 h63 hbytes
 unfold Oper.wp execOp
 simp only [ho,resolve,invoke,builtin,Sem.run_bind,Sem.run_pure,Result.andThen_ok,List.map_toArray,List.map_cons,List.map_nil,hs,hx,hrun]
 exact hK _ _ (h A' c' w' h2 h3)
theorem wpList_behind_g {P:Program} (w0 w:World) {ops:Array Oper} {rest:List Oper} {o:Oper} {a:Act} {Q:Exit→Act→World→Prop} (hw:Region.wanted o (yielded ops a.tmps)=true) (s x:Operand) (t:TypeId)
  (ho:o.op=.call { callee:=.builtin .append,args:=#[s,x],argTypes:=#[t,t] }) (base:Nat)
  (e:TypeId) (i:TypeInfo) (z:Value) (bytes:Nat) (ht:P.underlying t=some (.slice e)) (hi:P.info? e=some i) (hz:i.zero=some z)
  (hsize:i.size=1) (hby:i.bytes=bytes) (hzs:z.cells.size=1) (A0:Option Addr) (n c0:Nat) (xs:List Value) (hs:a.eval s=.slice A0 n c0) (hown:w.ownsRow base e 1 (.slice A0 n c0) n xs)
  (B:Nat) (A:Option Addr) (m c:Nat) (news:List Value) (hx:a.eval x=.slice A m c) (hl:news.length=m) (hr:Seq w B A news) (h1:∀ u ∈ news,u.oneCell'=true)
  (h63:n + m≤maxLen) (hbytes:(n + m) * bytes≤140737488355328) (hb:Below base w0 w) (hw0:base≤w0.heap.size)
  (h:∀ A' c' w',w'.ownsRow base e 1 (.slice A' (n + m) c') (n + m) (xs ++ news)→Below base w0 w'→wpList P ops Q rest (a.put o.dst (.slice A' (n + m) c')) w'):wpList P ops Q (o :: rest) a w:=by
 refine wpList_want hw fun K hK=>?_
 obtain ⟨A',c',w',hrun,h2,h3⟩:=run_behind (P:=P) w0 w base t o.type e i z bytes ht hi hz hsize hby hzs A0 n c0 xs hown B A m c news hl hr h1 h63 hbytes hb hw0
 unfold Oper.wp execOp
 simp only [ho,resolve,invoke,builtin,Sem.run_bind,Sem.run_pure,Result.andThen_ok,List.map_toArray,List.map_cons,List.map_nil,hs,hx,hrun]
 exact hK _ _ (h A' c' w' h2 h3)
theorem wpList_copy_seq {P:Program} {w:World} {ops:Array Oper} {rest:List Oper} {o:Oper} {a:Act} {Q:Exit→Act→World→Prop} (hgd:o.guard=none) (d s:Operand) (dT sT:TypeId)
  (ho:o.op=.call { callee:=.builtin .copy,args:=#[d,s],argTypes:=#[dT,sT] }) (elem:TypeId) (hu:P.underlying dT=some (.slice elem)) (hsz:(P.info? elem).map (·.size)=some 1)
  (A:Option Addr) (g off dLen dCap sLen sCap:Nat) (hd:a.eval d=.slice (some ⟨g,off,none⟩) dLen dCap) (hs:a.eval s=.slice A sLen sCap)
  (cur:List Value) (t:TypeId) (hg:Blk w g t cur) (cs:List Value) (hn:cs.length=Nat.min sLen dLen) (B0:Nat) (hsrc:Seq w B0 A cs)
  (hfit:off + cs.length≤cur.length) (h1:∀ v ∈ cs,v.oneCell'=true) (B:Nat) (w0:World) (hb:Below B w0 w) (hBg:B≤g)
  (h:∀ w',Hid (Blk w' g t (splice cur off cs))→Below B w0 w'→wpList P ops Q rest (a.put o.dst (goInt cs.length)) w') :
  wpList P ops Q (o :: rest) a w:=by
 refine wpList_copy_splice hgd d s dT sT ho elem hu hsz (some ⟨g,off,none⟩) A dLen dCap sLen sCap hd hs g off cur t hg cs hn ?_ hfit h1 B w0 hb hBg (fun w' hw' hb'=>h w' (Lh hw'.out) hb')
 intro hp
 obtain ⟨bb,o,e,hlt,hc⟩:=hsrc.at_ hp
 refine ⟨rfl,_,e,fun j v hv=>?_⟩
 have e2:(⟨bb,o,none⟩:Addr).add j=⟨bb,o + j,none⟩:=by unfold Addr.add;split <;> simp_all
 rw [e2];exact hc j v hv
theorem step_dup_g {P:Program} (w:World) {ops:Array Oper} {o:Oper} {a:Act} {K:Act→World→Prop} {Q:Exit→Act→World→Prop} {E:Prop} (hgd:o.guard=none) (s x:Operand) (t:TypeId)
  (ho:o.op=.call { callee:=.builtin .append,args:=#[s,x],argTypes:=#[t,t] })
  (e:TypeId) (i:TypeInfo) (z:Value) (bytes:Nat) (ht:P.underlying t=some (.slice e)) (hi:P.info? e=some i) (hz:i.zero=some z)
  (hsize:i.size=1) (hby:i.bytes=bytes) (hzs:z.cells.size=1) (hs:a.eval s=.slice (some ⟨w.heap.size,0,none⟩) 0 0)
  (A:Option Addr) (m c:Nat) (news:List Value) (hx:a.eval x=.slice A m c) (hl:news.length=m) (hr:Seq w w.heap.size A news) (h1:∀ u ∈ news,u.oneCell'=true)
  (h63:m≤maxLen) (hbytes:m * bytes≤140737488355328)
  (h:∀ A' c' w',w'.ownsRow w.heap.size e 1 (.slice A' m c') m news→Below w.heap.size w w'→K (a.put o.dst (.slice A' m c')) w') :
  if Region.wanted o (yielded ops a.tmps)=true then Oper.wp P o a (w.alloc (.cells #[] e)) K Q else E:=by
 have hw:Region.wanted o (yielded ops a.tmps)=true:=by simp [Region.wanted,hgd]
 rw [if_pos hw]
 obtain ⟨A',c',w',hrun,h2,h3⟩:=run_dup (P:=P) w t o.type e i z bytes ht hi hz hsize hby hzs A m c news hl hr h1 h63 hbytes
 unfold Oper.wp execOp
 simp only [ho,resolve,invoke,builtin,Sem.run_bind,Sem.run_pure,Result.andThen_ok,List.map_toArray,List.map_cons,List.map_nil,hs,hx,hrun]
 exact h A' c' w' h2 h3
end Go.Proofs.YtifgcfepbenpjaaGreat
namespace Go.Proofs.YtifgcfepbenpjaaGreat
section
variable {P:Program} {ops:Array Oper} {Q:Exit→Act→World→Prop} {md:Region.Mode} {S:World→Prop} {st:Nat}
def wpAnyG (P:Program) (md:Region.Mode) (ops:Array Oper) (Q:Exit→Act→World→Prop) (S:World→Prop) (st:Nat):Nat→Array Bool→Act→World→Prop
 | 0,listed,a,w=>Region.ready md ops listed=[]∧Q .normal a w
 | fuel + 1,listed,a,w =>
  (Region.ready md ops listed=[]→Q .normal a w) ∧
  ∀ i ∈ Region.ready md ops listed,wpOp P ops Q i (fun a' w'=>(i≠st→S w')∧wpAnyG P md ops Q S st fuel (listed.setIfInBounds i true) a' w') a w
theorem wpAny_of_to:∀ (fuel:Nat) (listed:Array Bool) (a:Act) (w:World),wpAnyG P md ops Q S st fuel listed a w→wpAny P md ops Q fuel listed a w
 | 0,_,_,_,h=>h
 | fuel + 1,_,_,_,h=>⟨h.1,fun i hi=>wpOp_mono (fun a' w' h'=>wpAny_of_to fuel _ a' w' h'.2) (h.2 i hi)⟩
def depB (md:Region.Mode) (ops:Array Oper) (i:Nat):Nat→Nat→Bool
 | 0,_=>false
 | f + 1,k=>match ops[k]? with
  | some o=>o.after.any fun e=>Region.binds md e && (e.on == i || depB md ops i f e.on)
  | none=>false
def closedB (md:Region.Mode) (ops:Array Oper) (listed:Array Bool):Bool :=
 (List.range ops.size).all fun k=>!listed.getD k false || match ops[k]? with
  | some o=>o.after.all fun e=>!Region.binds md e || listed.getD e.on false
  | none=>true
def Closed (md:Region.Mode) (ops:Array Oper) (listed:Array Bool):Prop :=
 ∀ k o,ops[k]?=some o→listed.getD k false=true→∀ e ∈ o.after,Region.binds md e=true→listed.getD e.on false=true
theorem closed_of {listed:Array Bool} (h:closedB md ops listed=true):Closed md ops listed:=fun k o hk hl e he hb=>by
 unfold closedB at h
 rw [List.all_eq_true] at h
 have hks:k < ops.size:=(Array.getElem?_eq_some_iff.1 hk).1
 have:=h k (List.mem_range.2 hks)
 rw [hk,hl] at this
 simp only [Bool.not_true,Bool.false_or,Array.all_eq_true',Bool.or_eq_true,Bool.not_eq_true'] at this
 rcases this e he with h1 | h1
 ·rw [hb] at h1;cases h1
 ·exact h1
theorem closed_set {listed:Array Bool} {j:Nat} (h:Closed md ops listed) (hj:j ∈ Region.ready md ops listed):Closed md ops (listed.setIfInBounds j true):=fun k o hk hl e he hb=>by
 by_cases hkj:j=k
 ·subst hkj
  obtain ⟨_,oj,hoj,hall⟩:=mem_ready.1 hj
  rw [hoj] at hk
  cases hk
  exact getD_set_true (hall e he hb)
 ·rw [getD_set_ne false hkj] at hl
  exact getD_set_true (h k o hk hl e he hb)
theorem dep_listed {listed:Array Bool} (h:Closed md ops listed) {i:Nat}:∀ (f k:Nat) (o:Oper),ops[k]?=some o→(∀ e ∈ o.after,Region.binds md e=true→listed.getD e.on false=true)→depB md ops i f k=true→listed.getD i false=true
 | 0,_,_,_,_,hd=>by cases hd
 | f + 1,k,o,hk,hall,hd=>by
  unfold depB at hd
  rw [hk] at hd
  simp only [Array.any_eq_true',Bool.and_eq_true,Bool.or_eq_true,beq_iff_eq] at hd
  obtain ⟨e,he,hb,hor⟩:=hd
  have hl:=hall e he hb
  rcases hor with rfl | hor
  ·exact hl
  ·cases hk':ops[e.on]? with
   | none =>
    exfalso
    cases f with
    | zero=>cases hor
    | succ f=>unfold depB at hor;rw [hk'] at hor;cases hor
   | some o'=>exact dep_listed h f e.on o' hk' (fun e' he' hb'=>h e.on o' hk' hl e' he' hb') hor
theorem wpAnyG_first {i:Nat} {oi:Oper} {v:Value} (hi:ops[i]?=some oi) (hsel:∀ (j:Nat) (o:Oper) cs b,ops[j]?=some o→o.op≠.select cs b) (f:Nat) (hwait:depB md ops i f st=true) (hist:i≠st)
  (hQ:∀ c a w,Q (.panic c) (a.put oi.dst v) w→Q (.panic c) a w) :
  ∀ (fuel:Nat) (listed:Array Bool) (a:Act) (w:World),Closed md ops listed →
   (∀ j oj,ops[j]?=some oj→j≠i→listed.getD j true=false→(∀ e ∈ oj.after,Region.binds md e=true→e.on≠i)→oi.apart ops oj=true) →
   i ∈ Region.ready md ops listed→YieldsIf P ops S oi v a→S w →
   wpAnyG P md ops Q S st fuel (listed.setIfInBounds i true) (a.put oi.dst v) w→wpAnyG P md ops Q S st (fuel + 1) listed a w:=by
 intro fuel
 induction fuel with
 | zero =>
  intro listed a w hcl _ hr hy hS H
  refine ⟨fun h=>(by rw [h] at hr;cases hr),fun j hj=>?_⟩
  by_cases hji:j=i
  ·subst hji;exact hy.wpOp hi hS ⟨fun _=>hS,H⟩
  ·have:=ready_mono hj hji
   rw [H.1] at this
   cases this
 | succ fuel ih =>
  intro listed a w hcl hfree hr hy hS H
  refine ⟨fun h=>(by rw [h] at hr;cases hr),fun j hj=>?_⟩
  by_cases hji:j=i
  ·subst hji;exact hy.wpOp hi hS ⟨fun _=>hS,H⟩
  ·have h1:=H.2 j (ready_mono hj hji)
   obtain ⟨hjun,oj,hoj,hall⟩:=mem_ready.1 hj
   have hnot:∀ e ∈ oj.after,Region.binds md e=true→e.on≠i:=fun e he hb heq=>by
    have h1:=hall e he hb
    have h0:=(mem_ready.1 hr).1
    rw [heq] at h1
    rcases Nat.lt_or_ge i listed.size with h' | h'
    ·simp [h'] at h0 h1;rw [h0] at h1;cases h1
    ·simp [Array.getElem?_eq_none h'] at h1
   have hjst:j≠st:=fun e=>by
    subst e
    have hli:=dep_listed hcl f j oj hoj hall hwait
    have h0:=(mem_ready.1 hr).1
    rcases Nat.lt_or_ge i listed.size with h' | h'
    ·simp [h'] at h0 hli;rw [h0] at hli;cases hli
    ·simp [Array.getElem?_eq_none h'] at hli
   have h2:=wpOp_putIf hoj (hfree j oj hoj hji hjun hnot) (fun cs b=>hsel i oi cs b hi) (fun cs b=>hsel j oj cs b hoj) hQ hy h1
   have hfree':∀ k ok,ops[k]?=some ok→k≠i→(listed.setIfInBounds j true).getD k true=false →
     (∀ e ∈ ok.after,Region.binds md e=true→e.on≠i)→oi.apart ops ok=true:=fun k ok hk hki hun hno=>by
    refine hfree k ok hk hki ?_ hno
    by_cases hjk:j=k
    ·subst hjk;exact hjun
    ·rw [getD_set_ne true hjk] at hun;exact hun
   refine wpOp_mono (fun a' w' h3=>⟨h3.2.1,ih (listed.setIfInBounds j true) a' w' (closed_set hcl hj) hfree' (ready_mono hr (Ne.symm hji)) h3.1 (h3.2.1 hjst) ?_⟩) h2
   rw [Array.setIfInBounds_comm _ _ hji]
   exact h3.2.2
theorem wpAnyG_take {i:Nat} {oi:Oper} {v:Value} {fuel:Nat} {listed:Array Bool} {a:Act} {w:World} (hi:ops[i]?=some oi)
  (hs:Region.noSelect ops=true) (hf:Region.free md ops listed i=true) (hr:(Region.ready md ops listed).contains i=true) (hw:depB md ops i ops.size st=true) (hcl:closedB md ops listed=true) (hist:(i != st)=true)
  (hQ:∀ c a w,Q (.panic c) (a.put oi.dst v) w→Q (.panic c) a w) (hy:YieldsIf P ops S oi v a) (hS:S w)
  (h:wpAnyG P md ops Q S st fuel (listed.setIfInBounds i true) (a.put oi.dst v) w):wpAnyG P md ops Q S st (fuel + 1) listed a w :=
 wpAnyG_first hi (Region.noSelect_spec hs) _ hw (bne_iff_ne.1 hist) hQ fuel listed a w (closed_of hcl) (Region.free_spec hi hf) (by simpa using hr) hy hS h
theorem wpAnyG_done {listed:Array Bool} {a:Act} {w:World} (hr:Region.ready md ops listed=[]) (h:Q .normal a w):∀ fuel,wpAnyG P md ops Q S st fuel listed a w
 | 0=>⟨hr,h⟩
 | _ + 1=>⟨fun _=>h,by rw [hr];simp⟩
theorem wpAnyG_one {i:Nat} {o:Oper} {fuel:Nat} {listed:Array Bool} {a:Act} {w:World} (hr:Region.ready md ops listed=[i]) (ho:ops[i]?=some o)
  (h:∀ K':Act→World→Prop,Shut (∀ a w,(i≠st→S w)→((i≠st→S w)→wpAnyG P md ops Q S st fuel (listed.setIfInBounds i true) a w)→K' a w)→if Region.wanted o (yielded ops a.tmps)=true then Oper.wp P o a w K' Q else K' (a.put o.dst undef) w) :
  wpAnyG P md ops Q S st (fuel + 1) listed a w:=by
 refine ⟨fun h0=>(by rw [hr] at h0;cases h0),fun j hj=>?_⟩
 rw [hr,List.mem_singleton] at hj
 subst hj
 exact wpOp_step ho (fun K' hK=>h K' (fun a w hS hW=>hK a w ⟨hS,hW hS⟩))
theorem wp_region_to {id:Nat} {a:Act} {w:World} (st:Nat) (S:World→Prop) (hm:P.follows .mixedOrders=true) (h:wpAnyG P .any ops Q S st ops.size (Array.replicate ops.size false) a w.drew):(Code.region id ops true).wp P Q a w :=
 wp_region_any hm (wpAny_of_to _ _ _ _ h)
end
end Go.Proofs.YtifgcfepbenpjaaGreat
namespace Go.Proofs.YtifgcfepbenpjaaGreat
section
variable {P:Program} {ops:Array Oper} {Q:Exit→Act→World→Prop} {md:Region.Mode} {S:World→Prop} {st:Nat}
theorem wpAnyG_two {i j:Nat} {oi oj:Oper} {fuel:Nat} {listed:Array Bool} {a:Act} {w:World} (hr:Region.ready md ops listed=[i,j]) (hi:ops[i]?=some oi) (hj:ops[j]?=some oj)
  (h1:∀ K':Act→World→Prop,Shut (∀ a w,(i≠st→S w)→((i≠st→S w)→wpAnyG P md ops Q S st fuel (listed.setIfInBounds i true) a w)→K' a w)→if Region.wanted oi (yielded ops a.tmps)=true then Oper.wp P oi a w K' Q else K' (a.put oi.dst undef) w)
  (h2:∀ K':Act→World→Prop,Shut (∀ a w,(j≠st→S w)→((j≠st→S w)→wpAnyG P md ops Q S st fuel (listed.setIfInBounds j true) a w)→K' a w)→if Region.wanted oj (yielded ops a.tmps)=true then Oper.wp P oj a w K' Q else K' (a.put oj.dst undef) w) :
  wpAnyG P md ops Q S st (fuel + 1) listed a w:=by
 refine ⟨fun h0=>(by rw [hr] at h0;cases h0),fun k hk=>?_⟩
 rw [hr] at hk
 rcases List.mem_cons.1 hk with rfl | hk
 ·exact wpOp_step hi (fun K' hK=>h1 K' (fun a w hS hW=>hK a w ⟨hS,hW hS⟩))
 ·rw [List.mem_singleton] at hk
  subst hk
  exact wpOp_step hj (fun K' hK=>h2 K' (fun a w hS hW=>hK a w ⟨hS,hW hS⟩))
end
end Go.Proofs.YtifgcfepbenpjaaGreat
namespace Go.Proofs.YtifgcfepbenpjaaGreat
section
variable {P:Program} {ops:Array Oper} {Q:Exit→Act→World→Prop} {md:Region.Mode} {S:World→Prop} {st:Nat}
theorem wpAnyG_take1 {i:Nat} {oi:Oper} {v:Value} {fuel:Nat} {listed:Array Bool} {a:Act} {w:World} (hi:ops[i]?=some oi)
  (hs:Region.noSelect ops=true) (hf:Region.free md ops listed i=true) (hr:(Region.ready md ops listed).contains i=true) (hw:depB md ops i 1 st=true) (hcl:closedB md ops listed=true) (hist:(i != st)=true)
  (hQ:∀ c a w,Q (.panic c) (a.put oi.dst v) w→Q (.panic c) a w) (hy:YieldsIf P ops S oi v a) (hS:S w)
  (h:wpAnyG P md ops Q S st fuel (listed.setIfInBounds i true) (a.put oi.dst v) w):wpAnyG P md ops Q S st (fuel + 1) listed a w :=
 wpAnyG_first hi (Region.noSelect_spec hs) 1 hw (bne_iff_ne.1 hist) hQ fuel listed a w (closed_of hcl) (Region.free_spec hi hf) (by simpa using hr) hy hS h
end
end Go.Proofs.YtifgcfepbenpjaaGreat
namespace Go.Proofs.YtifgcfepbenpjaaGreat
end Go.Proofs.YtifgcfepbenpjaaGreat
namespace Go.Proofs.YtifgcfepbenpjaaGreat
open Go.RowKit
end Go.Proofs.YtifgcfepbenpjaaGreat
