/- Texts of layers 1 to 12, joined. -/
import Derived.Test.YtifgcfepbenpjaaGreatRows
import Derived.WalkKit
import Derived.WalkSpells
import Derived.WalkLawsBesides
import Derived.Lib.Hide
import Derived.Deep.Draws
import Derived.BigQuiet
import Derived.Deep.QuietTactic
import Derived.Maps.AppendAt
import Derived.Deep.AppendLies
import Derived.OpenShut
import Derived.StillTailTactics
import Derived.Deep.RegionHeld3
import Derived.OrdersHeld
import Derived.Deep.RegionHeld
set_option maxRecDepth 100000
set_option maxHeartbeats 12800000
set_option linter.unusedVariables false
namespace Go.Proofs.YtifgcfepbenpjaaGreat
theorem Lh {p : Prop} (h : p) : Go.RowKit.Hid p := h
theorem gtD {α : Type _} {l : List α} {i : Nat} {a : α} : l.getD i a = l[i]?.getD a := List.getD_eq_getElem?_getD
theorem gcZ {α : Type _} {a : α} {l : List α} : (a :: l)[0]? = some a := List.getElem?_cons_zero
theorem gcS {α : Type _} {a : α} {l : List α} {i : Nat} : (a :: l)[i + 1]? = l[i]? := List.getElem?_cons_succ
theorem stA {α : Type _} (l : List α) (i : Nat) (a : α) : l.toArray.setIfInBounds i a = (l.set i a).toArray := List.setIfInBounds_toArray l i a
theorem scZ {α : Type _} {x : α} {xs : List α} {a : α} : (x :: xs).set 0 a = a :: xs := List.set_cons_zero
theorem scS {α : Type _} {x : α} {xs : List α} {n : Nat} {a : α} : (x :: xs).set (n + 1) a = x :: xs.set n a := List.set_cons_succ
theorem geE {α : Type _} {l : List α} {i : Nat} (h : i < l.length) : l[i]? = some (l[i]'h) := List.getElem?_eq_getElem h
end Go.Proofs.YtifgcfepbenpjaaGreat
namespace Go.Proofs.YtifgcfepbenpjaaGreat
def isByte (z:Int):Prop:=0≤z∧z < 256
def isWord (z:Int):Prop:=0≤z∧z < 18446744073709551616
end Go.Proofs.YtifgcfepbenpjaaGreat
namespace Go.Proofs.YtifgcfepbenpjaaGreat
open Go.RowKit
def Seq (w:World) (B:Nat) (A:Option Addr) (xs:List Value):Prop :=
 ∀ (j:Nat) (v:Value),xs[j]?=some v→∃ b o,A=some ⟨b,o,none⟩∧b < B∧w.cell? ⟨b,o + j,none⟩=some v
def ints (k:IntKind) (zs:List Int):List Value:=zs.map (Value.int k)
theorem ints_length (k:IntKind) (zs:List Int):(ints k zs).length=zs.length:=by simp [ints]
theorem ints_getD (k:IntKind) (zs:List Int) (j:Nat) (h:j < zs.length):(ints k zs)[j]?=some (.int k (zs.getD j 0)):=by simp [ints,h]
theorem ints_app (k:IntKind) (xs ys:List Int):ints k (xs ++ ys)=ints k xs ++ ints k ys:=by simp [ints]
theorem ints_one (k:IntKind) (zs:List Int):∀ u ∈ ints k zs,u.oneCell'=true:=by
 intro u hu
 obtain ⟨z,_,rfl⟩:=List.mem_map.1 hu
 rfl
theorem set_ints (k:IntKind) (l:List Int) (i:Nat) (x:Int):(ints k l).set i (.int k x)=ints k (l.set i x):=by
 simp [ints,List.map_set]
section
variable {w w':World} {B B':Nat} {A:Option Addr} {xs ys:List Value}
theorem Seq.empty:Seq w B A []:=fun j v h=>by simp at h
theorem Seq.at_ (h:Seq w B A xs) (hne:0 < xs.length):∃ b o,A=some ⟨b,o,none⟩∧b < B∧∀ (j:Nat) (v:Value),xs[j]?=some v→w.cell? ⟨b,o + j,none⟩=some v:=by
 obtain ⟨b,o,rfl,hb,_⟩:=h 0 xs[0] (List.getElem?_eq_getElem hne)
 refine ⟨b,o,rfl,hb,fun j v hv=>?_⟩
 obtain ⟨b',o',e,_,hc⟩:=h j v hv
 cases e
 exact hc
theorem Seq.of {b o:Nat} (hb:b < B) (h:∀ (j:Nat) (v:Value),xs[j]?=some v→w.cell? ⟨b,o + j,none⟩=some v):Seq w B (some ⟨b,o,none⟩) xs :=
 fun j v hv=>⟨b,o,rfl,hb,h j v hv⟩
theorem Seq.int {k:IntKind} {zs:List Int} (h:Seq w B A (ints k zs)) {j:Nat} (hj:j < zs.length) :
  ∃ b o,A=some ⟨b,o,none⟩∧b < B∧w.cell? ⟨b,o + j,none⟩=some (.int k (zs.getD j 0)):=h j _ (ints_getD k zs j hj)
theorem Seq.keep (h:Seq w B A xs) (hk:∀ p:Addr,p.block < B→w'.cell? p=w.cell? p):Seq w' B A xs:=fun j v hv=>by
 obtain ⟨b,o,e,hb,hc⟩:=h j v hv
 exact ⟨b,o,e,hb,(hk _ hb).trans hc⟩
theorem Seq.more (h:Seq w B A xs) (hB:B≤B'):Seq w B' A xs:=fun j v hv=>by
 obtain ⟨b,o,e,hb,hc⟩:=h j v hv
 exact ⟨b,o,e,by omega,hc⟩
theorem Seq.below (h:Seq w B A xs) (hb:Below B w w'):Seq w' B A xs:=h.keep fun _ hp=>hb.cell hp
theorem Seq.grown (h:Seq w B A xs) {row:Option Nat} (hg:w.grownBy w' row) (hB:B≤w.heap.size) (hr:∀ g,row=some g→B≤g):Seq w' B A xs :=
 h.keep fun p hp=>World.cell?_of_block (hg.block p.block (by omega) (fun e=>by have:=hr _ e.symm;omega))
theorem Seq.alloc (h:Seq w B A xs) (hB:B≤w.heap.size) (o:Obj):Seq (w.alloc o) B A xs:=h.keep fun p hp=>World.cell?_alloc_lt w o p (by omega)
theorem Seq.take (h:Seq w B A xs) (n:Nat):Seq w B A (xs.take n):=fun j v hv=>by
 rw [List.getElem?_take] at hv
 split at hv
 ·exact h j v hv
 ·cases hv
theorem Seq.drop {b o:Nat} (h:Seq w B (some ⟨b,o,none⟩) xs) (n:Nat):Seq w B (some ⟨b,o + n,none⟩) (xs.drop n):=fun j v hv=>by
 rw [List.getElem?_drop] at hv
 obtain ⟨b',o',e,hb,hc⟩:=h (n + j) v hv
 cases e
 exact ⟨_,_,rfl,hb,by rw [show o + n + j=o + (n + j) from by omega];exact hc⟩
theorem Seq.own {base:Nat} {e:TypeId} {n c:Nat} (h:w.ownsRow base e 1 (.slice A n c) n xs):Seq w w.heap.size A xs:=by
 rcases h.2 with ⟨_,h0⟩ | ⟨g,cap,cur,hv,_,hg,_,_,_,_⟩
 ·have:xs=[]:=List.eq_nil_of_length_eq_zero (by have:=h.1;omega)
  subst this
  exact Seq.empty
 ·cases hv
  refine Seq.of (Array.getElem?_eq_some_iff.1 hg).1 fun j v hv=>?_
  have hc:=h.cells (g:=g) rfl j v hv
  have e:(⟨g,0,none⟩:Addr).add j=⟨g,0 + j,none⟩:=by unfold Addr.add;split <;> simp_all
  rwa [e] at hc
end
def Blk (w:World) (g:Nat) (t:TypeId) (cs:List Value):Prop:=w.heap[g]?=some (.cells cs.toArray t (0,0))
section
variable {w w':World} {g:Nat} {t:TypeId} {cs:List Value}
theorem Blk.lt (h:Blk w g t cs):g < w.heap.size:=(Array.getElem?_eq_some_iff.1 h).1
theorem Blk.cell (h:Blk w g t cs) (i:Nat):w.cell? ⟨g,i,none⟩=cs[i]?:=by
 have:=cell_of_row w g i cs.toArray t (0,0) h
 simpa using this
theorem Blk.free (h:Blk w g t cs) (i:Nat):w.frozen? ⟨g,i,none⟩=false:=by
 unfold Blk at h
 simp [World.frozen?,h]
theorem Blk.set (h:Blk w g t cs) (i:Nat) (u:Value):Blk (w.setCell ⟨g,i,none⟩ u) g t (cs.set i u):=by
 unfold Blk at h ⊢
 simp [World.setCell,Array.getElem?_modify,h]
theorem Blk.ty {t':TypeId} {cs':List Value} (h:Blk w g t cs) (h':Blk w g t' cs'):t=t':=by
 unfold Blk at h h'
 rw [h] at h'
 injection h' with h'
 injection h' with _ e
theorem Blk.grown {row:Option Nat} (h:Blk w g t cs) (hb:w.grownBy w' row) (hg:some g≠row):Blk w' g t cs:=(hb.block g h.lt hg).trans h
theorem Blk.below {B:Nat} (h:Blk w g t cs) (hb:Below B w w') (hg:g < B):Blk w' g t cs:=(hb.block g hg).trans h
theorem Blk.seq (h:Blk w g t cs) (o n:Nat):Seq w (g + 1) (some ⟨g,o,none⟩) ((cs.drop o).take n):=fun j v hv=>by
 refine ⟨g,o,rfl,by omega,?_⟩
 rw [h.cell]
 rw [List.getElem?_take] at hv
 split at hv
 ·rwa [List.getElem?_drop] at hv
 ·cases hv
end
theorem Blk.owns {w:World} {g:Nat} {t:TypeId} {cs:List Value} (h:Blk w g t cs) {base n:Nat} (hb:base≤g) (hn:cs.length=n) (hm:n≤maxLen):w.ownsRow base t 1 (.slice (some ⟨g,0,none⟩) n n) n cs :=
 ⟨by omega,.inr ⟨g,n,cs.toArray,rfl,hb,h,Nat.le_refl _,hm,by simp [hn],by simp [← hn]⟩⟩
theorem below_of_grown {w w':World} (h:w.grownBy w' none):Below w.heap.size w w':=(Below.refl _ _).grown h (Nat.le_refl _) (fun _ e=>by cases e)
def RowOut (k:IntKind) (t:TypeId) (w:World) (zs:List Int) (E:Int) (e:Ending) (w':World):Prop :=
 ∃ A c,e=.returned (.tuple #[.slice A zs.length c,.int .i64 E])∧w'.ownsRow w.heap.size t 1 (.slice A zs.length c) zs.length (ints k zs)∧Below w.heap.size w w'
theorem RowOut.len {k:IntKind} {t:TypeId} {w:World} {zs zs':List Int} {E:Int} {e:Ending} {w':World} (h:RowOut k t w zs E e w') {n:Nat} (hz:zs=zs') (hn:zs'.length=n) :
  ∃ A c,e=.returned (.tuple #[.slice A n c,.int .i64 E])∧w'.ownsRow w.heap.size t 1 (.slice A n c) n (ints k zs')∧Below w.heap.size w w':=by
 subst hz;subst hn;exact h
theorem _root_.Go.World.grownBy.weak {w w':World} {row row':Option Nat} (h:w.grownBy w' row) (hr:∀ k,row=some k→k < w.heap.size→row'=some k):w.grownBy w' row' :=
 ⟨h.os,h.tape,h.output,h.size,fun k hk he=>h.block k hk (fun e=>he (hr k e.symm hk).symm)⟩
theorem grownBy_drew {w wr:World} {row:Option Nat} (h:w.grownBy wr row):w.grownBy wr.drew row:=⟨h.os,h.tape,h.output,h.size,h.block⟩
theorem grownBy_then {a b c:World} {row:Option Nat} (h:a.grownBy b none) (k:b.grownBy c row) (hr:∀ g,row=some g→a.heap.size≤g):a.grownBy c none :=
 ⟨k.os.trans h.os,k.tape.trans h.tape,k.output.trans h.output,Nat.le_trans h.size k.size,fun i hi _=>(k.block i (by have:=h.size;omega) (fun e=>by have:=hr i e.symm;omega)).trans (h.block i hi (by simp))⟩
theorem grownBy_set (w:World) (g i:Nat) (u:Value):w.grownBy (w.setCell ⟨g,i,none⟩ u) (some g) :=
 ⟨rfl,rfl,rfl,by simp [World.setCell],fun k _ hk=>Below.heap_setCell w _ u k (fun e=>hk (by rw [e]))⟩
theorem grownBy_trans {a b c:World} {row:Option Nat} (h:a.grownBy b row) (k:b.grownBy c row):a.grownBy c row :=
 ⟨k.os.trans h.os,k.tape.trans h.tape,k.output.trans h.output,Nat.le_trans h.size k.size,fun i hi hr=>(k.block i (by have:=h.size;omega) hr).trans (h.block i hi hr)⟩
theorem grownBy_set_new {w wr:World} {row:Option Nat} (h:w.grownBy wr row) {g:Nat} (hg:w.heap.size≤g) (i:Nat) (u:Value):w.grownBy (wr.setCell ⟨g,i,none⟩ u) row :=
 ⟨h.os,h.tape,h.output,by have:=h.size;simp [World.setCell];omega,fun k hk hr=>(Below.heap_setCell wr _ u k (fun e=>by simp at e;omega)).trans (h.block k hk hr)⟩
theorem grownBy_refl (w:World) (row:Option Nat):w.grownBy w row:=⟨rfl,rfl,rfl,Nat.le_refl _,fun _ _ _=>rfl⟩
def rep (n:Nat) (z:Value):Array Value:=(List.replicate n z).toArray
theorem run_make1 {P:Program} (t e:TypeId) (i:TypeInfo) (z:Value) (ht:P.underlying t=some (.slice e)) (hi:P.info? e=some i) (hz:i.zero=some z) (h1:i.size=1) (hzc:z.cells=#[z])
  (n:Nat) (hb:i.bytes * n≤281474976710656) (hm:n≤maxLen) (w:World) :
  (Instr.makeSlice t (.int .i64 (n:Int)) (.int .i64 (n:Int))).run P w=.ok (.slice (some ⟨w.heap.size,0,none⟩) n n) (w.alloc (.cells (rep n z) e)):=by
 have hm':(n:Int)≤9223372036854775807:=by simp only [maxLen] at hm;omega
 have hb':(i.bytes:Int) * (n:Int)≤281474976710656:=by
  have h:((i.bytes * n:Nat):Int)≤281474976710656:=by omega
  rwa [Int.natCast_mul] at h
 have hr:=run_make (P:=P) w t e i z ht hi hz .i64 .i64 n n (by omega) (Int.le_refl _) hb' hm'
 simp only [Int.toNat_natCast,h1,Nat.mul_one,hzc] at hr
 rw [hr]
 have he:madeCells #[z] n=rep n z:=by
  have:=toList_madeCells_one z n
  rw [rep,← this]
 rw [he]
theorem Blk.new (w:World) (t:TypeId) (cs:List Value):Blk (w.alloc (.cells cs.toArray t)) w.heap.size t cs:=heap_alloc_new w _
theorem grown_of_below {w w':World} (h:Below w.heap.size w w'):w.grownBy w' none:=⟨h.os,h.tape,h.output,h.size,fun k hk _=>h.block k hk⟩
theorem owns_below {w w':World} {base:Nat} {e:TypeId} {size:Nat} {v:Value} {n:Nat} {xs:List Value} (h:w.ownsRow base e size v n xs) (hb:Below w.heap.size w w'):w'.ownsRow base e size v n xs :=
 h.kept (grown_of_below hb) (by cases v.ownBlock <;> simp)
theorem run_app {P:Program} (w:World) (base:Nat) (t ty e:TypeId) (i:TypeInfo) (z:Value) (bytes:Nat) (ht:P.underlying t=some (.slice e)) (hi:P.info? e=some i) (hz:i.zero=some z)
  (hsize:i.size=1) (hby:i.bytes=bytes) (hzs:z.cells.size=1) (v:Value) (n:Nat) (xs:List Value) (hown:w.ownsRow base e 1 v n xs)
  (B:Nat) (A:Option Addr) (m c:Nat) (news:List Value) (hl:news.length=m) (hr:Seq w B A news) (h1:∀ u ∈ news,u.oneCell'=true)
  (h63:n + m≤maxLen) (hbytes:(n + m) * bytes≤140737488355328) (hbase:base≤w.heap.size) :
  ∃ v' w',(Builtin.append_ #[t,t] ty #[v,.slice A m c]).run P w=.ok v' w'∧w'.ownsRow base e 1 v' (n + m) (xs ++ news)∧w.grownBy w' v.ownBlock∧(v'.ownBlock=v.ownBlock∨v'.ownBlock=some w.heap.size):=by
 cases A with
 | none =>
  have hm:news=[]:=by
   cases news with
   | nil=>rfl
   | cons x r=>obtain ⟨_,_,e,_⟩:=hr 0 x rfl;cases e
  subst hm
  have hm0:m=0:=by simpa using hl.symm
  subst hm0
  refine ⟨v,w,?_,by simpa using hown,grownBy_refl _ _,.inl rfl⟩
  rcases hown.2 with ⟨rfl,rfl⟩ | ⟨g,cap,cur,rfl,_,_,hnc,_⟩
  ·simp [Builtin.append_,run_underlying ht,sizeOf,typeInfo,hi,Builtin.lenOf,Builtin.firstCells]
  ·simp [Builtin.append_,run_underlying ht,sizeOf,typeInfo,hi,Builtin.lenOf,Builtin.firstCells,hnc,storeCells]
 | some a =>
  have hcs:∀ j u,news[j]?=some u→w.cell? (a.add j)=some u:=by
   intro j u hu
   obtain ⟨b,o,e,_,hc⟩:=hr j u hu
   injection e with e
   subst e
   have e2:(⟨b,o,none⟩:Addr).add j=⟨b,o + j,none⟩:=by unfold Addr.add;split <;> simp_all
   rw [e2];exact hc
  obtain ⟨v',w',h,h2,h3,_,h5⟩:=run_append_own_at (P:=P) w base t ty e i z 1 bytes ht hi hz hsize hby hzs (by omega) v n xs hown a m c news (by omega) hcs h1 h63 hbytes hbase
  exact ⟨v',w',h,h2,h3,h5⟩
theorem wpList_app {P:Program} (w:World) {ops:Array Oper} {rest:List Oper} {o:Oper} {a:Act} {Q:Exit→Act→World→Prop} (hgd:o.guard=none) (s x:Operand) (t:TypeId)
  (ho:o.op=.call { callee:=.builtin .append,args:=#[s,x],argTypes:=#[t,t] })
  (base:Nat) (e:TypeId) (i:TypeInfo) (z:Value) (bytes:Nat) (ht:P.underlying t=some (.slice e)) (hi:P.info? e=some i) (hz:i.zero=some z)
  (hsize:i.size=1) (hby:i.bytes=bytes) (hzs:z.cells.size=1) (v:Value) (n:Nat) (xs:List Value) (hs:a.eval s=v) (hown:w.ownsRow base e 1 v n xs)
  (B:Nat) (A:Option Addr) (m c:Nat) (news:List Value) (hx:a.eval x=.slice A m c) (hl:news.length=m) (hr:Seq w B A news) (h1:∀ u ∈ news,u.oneCell'=true)
  (h63:n + m≤maxLen) (hbytes:(n + m) * bytes≤140737488355328) (hbase:base≤w.heap.size)
  (h:∀ v' w',w'.ownsRow base e 1 v' (n + m) (xs ++ news)→w.grownBy w' v.ownBlock→(v'.ownBlock=v.ownBlock∨v'.ownBlock=some w.heap.size)→wpList P ops Q rest (a.put o.dst v') w'):wpList P ops Q (o :: rest) a w:=by
 refine wpList_plain hgd fun K hK=>?_
 obtain ⟨v',w',hrun,h2,h3,h4⟩:=run_app (P:=P) w base t o.type e i z bytes ht hi hz hsize hby hzs v n xs hown B A m c news hl hr h1 h63 hbytes hbase
 unfold Oper.wp execOp
 simp only [ho,resolve,invoke,builtin,Sem.run_bind,Sem.run_pure,Result.andThen_ok,List.map_toArray,List.map_cons,List.map_nil,hs,hx,hrun]
 exact hK _ _ (h v' w' h2 h3 h4)
theorem owns_base {w:World} {base base':Nat} {e:TypeId} {size:Nat} {v:Value} {n:Nat} {xs:List Value} (h:w.ownsRow base e size v n xs) (hb:base'≤base):w.ownsRow base' e size v n xs:=by
 refine ⟨h.1,?_⟩
 rcases h.2 with h2 | ⟨g,cap,cur,hv,hg,r⟩
 ·exact .inl h2
 ·exact .inr ⟨g,cap,cur,hv,Nat.le_trans hb hg,r⟩
theorem owns_slice {w:World} {base:Nat} {e:TypeId} {v:Value} {n:Nat} {xs:List Value} (h:w.ownsRow base e 1 v n xs):∃ A c,v=.slice A n c:=by
 rcases h.2 with ⟨rfl,rfl⟩ | ⟨g,cap,cur,rfl,_⟩
 ·exact ⟨_,_,rfl⟩
 ·exact ⟨_,_,rfl⟩
theorem lit_seq (w:World) (t:TypeId) (k:IntKind) (zs:List Int):Seq (w.alloc (.cells (ints k zs).toArray t)) (w.heap.size + 1) (some ⟨w.heap.size,0,none⟩) (ints k zs):=by
 have h:=(Blk.new w t (ints k zs)).seq 0 (ints k zs).length
 simpa using h
theorem lit_row (w:World) (t:TypeId) (k:IntKind) (zs:List Int) (cs:Array Value) (b B:Nat) (h:cs=(ints k zs).toArray) (hb:b=w.heap.size) (hB:w.heap.size < B):Seq (w.alloc (.cells cs t)) B (some ⟨b,0,none⟩) (ints k zs):=by
 subst h;subst hb;exact (lit_seq w t k zs).more hB
theorem run_str {P:Program} (w:World) (src dst e:TypeId) (hs:P.underlying src=some (.slice e)) (he:P.underlying e=some (.int .u8)) (hd:P.underlying dst=some .string) {B:Nat} {A:Option Addr} {n c:Nat} {zs:List Int}
  (h:Seq w B A (ints .u8 zs)) (hl:zs.length=n):(convert src dst (.slice A n c)).run P w=.ok (.string (strOfNums zs)) w:=by
 cases A with
 | none =>
  have hz:zs=[]:=by
   cases zs with
   | nil=>rfl
   | cons x r=>obtain ⟨_,_,e,_⟩:=h 0 _ rfl;cases e
  subst hz
  have:n=0:=by simpa using hl.symm
  subst this
  exact run_convert_bytes_nil w src e hs he 0 c dst hd
 | some a =>
  rcases Nat.eq_zero_or_pos n with h0 | h0
  ·subst h0
   have hz:zs=[]:=List.eq_nil_of_length_eq_zero hl
   subst hz
   obtain ⟨b,o,s⟩:=a
   have hr:(loadCells ⟨b,o,s⟩ 0).run P w=.ok (([]:List Int).map (Value.int .u8)).toArray w:=run_loadCells_list (P:=P) w ⟨b,o,s⟩ [] (fun j v hj=>by simp at hj)
   rw [run_convert_bytes_string w src dst e _ 0 c hs he hd,run_bytesToString w _ 0 c [] hr]
   rfl
  ·obtain ⟨b,o,e',_,hc⟩:=h.at_ (by rw [ints_length];omega)
   rw [e']
   exact run_convert_bytes_arg w src e hs he b o n c zs hl (fun i hi=>by
    have:=hc i _ (ints_getD .u8 zs i (by omega))
    exact this) dst hd
theorem wpList_dup {P:Program} (w:World) {ops:Array Oper} {rest:List Oper} {o:Oper} {a:Act} {Q:Exit→Act→World→Prop} (hgd:o.guard=none) (s x:Operand) (t:TypeId)
  (ho:o.op=.call { callee:=.builtin .append,args:=#[s,x],argTypes:=#[t,t] })
  (e:TypeId) (i:TypeInfo) (z:Value) (bytes:Nat) (ht:P.underlying t=some (.slice e)) (hi:P.info? e=some i) (hz:i.zero=some z)
  (hsize:i.size=1) (hby:i.bytes=bytes) (hzs:z.cells.size=1) (hs:a.eval s=.slice (some ⟨w.heap.size,0,none⟩) 0 0)
  (A:Option Addr) (m c:Nat) (news:List Value) (hx:a.eval x=.slice A m c) (hl:news.length=m) (hr:Seq w w.heap.size A news) (h1:∀ u ∈ news,u.oneCell'=true)
  (h63:m≤maxLen) (hbytes:m * bytes≤140737488355328)
  (h:∀ A' c' w',w'.ownsRow w.heap.size e 1 (.slice A' m c') m news→Below w.heap.size w w'→wpList P ops Q rest (a.put o.dst (.slice A' m c')) w'):wpList P ops Q (o :: rest) a (w.alloc (.cells #[] e)):=by
 have hlit:(w.alloc (.cells #[] e)).ownsRow w.heap.size e 1 (.slice (some ⟨w.heap.size,0,none⟩) 0 0) 0 []:=World.ownsRow_lit w #[] 0 (Nat.le_refl _) (by decide) rfl
 refine wpList_app _ hgd s x t ho w.heap.size e i z bytes ht hi hz hsize hby hzs _ 0 [] hs hlit w.heap.size A m c news hx hl (hr.alloc (Nat.le_refl _) _) h1 (by omega) (by rw [Nat.zero_add];exact hbytes) (by simp) ?_
 intro v' w' hown hg _
 rw [Nat.zero_add,List.nil_append] at hown
 obtain ⟨A',c',rfl⟩:=owns_slice hown
 exact h A' c' w' hown (((Below.refl _ _).alloc (Nat.le_refl _) _).grown hg (by simp) (fun g e=>by have e:some w.heap.size=some g:=e;injection e with e;omega))
theorem owns_at {w:World} {base:Nat} {e:TypeId} {A:Option Addr} {n c k:Nat} {xs:List Value} (h:w.ownsRow base e 1 (.slice A n c) n xs) (hk:k < n) :
  ∃ g v,A=some ⟨g,0,none⟩∧base≤g∧w.cell? ⟨g,k,none⟩=some v∧w.frozen? ⟨g,k,none⟩=false∧∀ u,(w.setCell ⟨g,k,none⟩ u).ownsRow base e 1 (.slice A n c) n (xs.set k u):=by
 have hl:=h.1
 rcases h.2 with ⟨_,h0⟩ | ⟨g,cap,cur,hv,hb,_⟩
 ·omega
 ·cases hv
  have hkl:k < xs.length:=by omega
  exact ⟨g,xs[k],rfl,hb,by rw [h.cellAt k (by omega),geE hkl],h.frozenAt k,fun u=>(h.stored k u).1⟩
theorem owns_int_at {w:World} {base:Nat} {e:TypeId} {A:Option Addr} {n c j:Nat} {k:IntKind} {zs:List Int} (h:w.ownsRow base e 1 (.slice A n c) n (ints k zs)) (hj:j < n) :
  ∃ g,A=some ⟨g,0,none⟩∧base≤g∧w.cell? ⟨g,j,none⟩=some (.int k (zs.getD j 0))∧w.frozen? ⟨g,j,none⟩=false∧∀ x,(w.setCell ⟨g,j,none⟩ (.int k x)).ownsRow base e 1 (.slice A n c) n (ints k (zs.set j x)):=by
 have hl:=h.1
 rw [ints_length] at hl
 obtain ⟨g,v,rfl,hb,hc,hf,hset⟩:=owns_at h hj
 refine ⟨g,rfl,hb,?_,hf,fun x=>?_⟩
 ·have:=h.cellAt j (by omega)
  rw [this,ints_getD k zs j (by omega)]
 ·have:=hset (.int k x)
  rwa [show (ints k zs).set j (.int k x)=ints k (zs.set j x) from by simp [ints,List.map_set]] at this
theorem _root_.Go.World.ownsRow.allocated {w:World} {base:Nat} {e:TypeId} {size:Nat} {v:Value} {n:Nat} {xs:List Value} (h:w.ownsRow base e size v n xs) (o:Obj):(w.alloc o).ownsRow base e size v n xs :=
 owns_below h ((Below.refl _ _).alloc (Nat.le_refl _) o)
end Go.Proofs.YtifgcfepbenpjaaGreat
namespace Go.Proofs.YtifgcfepbenpjaaGreat
open Go.RowKit Go.OpenShut
structure Arg (w:World) (k:IntKind) (A:Option Addr) (n c:Nat) (zs:List Int):Prop where
 seq:Seq w w.heap.size A (ints k zs)
 len:zs.length=n
 cap:n≤c
 max:c≤maxLen
theorem Arg.below {w w':World} {k:IntKind} {A:Option Addr} {n c:Nat} {zs:List Int} (h:Arg w k A n c zs) (hb:Below w.heap.size w w'):Arg w' k A n c zs :=
 ⟨(h.seq.below hb).more hb.size,h.len,h.cap,h.max⟩
theorem Arg.nil (w:World) (k:IntKind):Arg w k none 0 0 []:=⟨Seq.empty,rfl,Nat.le_refl _,by decide⟩
theorem Arg.own {w:World} {k:IntKind} {base:Nat} {t:TypeId} {A:Option Addr} {n c:Nat} {zs:List Int} (h:w.ownsRow base t 1 (.slice A n c) n (ints k zs)):Arg w k A n c zs:=by
 refine ⟨Seq.own h,by have:=h.1;rw [ints_length] at this;omega,?_,?_⟩
 ·rcases h.2 with ⟨e,rfl⟩ | ⟨g,cap,cur,e,_,_,h1,h2,_⟩ <;> cases e
  ·exact Nat.le_refl _
  ·exact h1
 ·rcases h.2 with ⟨e,rfl⟩ | ⟨g,cap,cur,e,_,_,h1,h2,_⟩ <;> cases e
  ·decide
  ·exact h2
theorem byte_info:(Tryz.prog.info? 5).map (fun i=>(i.zero,i.size,i.bytes))=some (some (.int .u8 0),1,1):=by kernel_rfl
theorem byte_size:(Tryz.prog.info? 5).map (·.size)=some 1:=by kernel_rfl
end Go.Proofs.YtifgcfepbenpjaaGreat
namespace Go.Proofs.YtifgcfepbenpjaaGreat
theorem snoc_ind {α:Type} {P:List α→Prop} (h0:P []) (h1:∀ l a,P l→P (l ++ [a])):∀ l,P l:=by
 intro l
 rw [← l.reverse_reverse]
 induction l.reverse with
 | nil=>exact h0
 | cons a t ih=>rw [List.reverse_cons];exact h1 _ _ ih
def val (zs:List Int):Int:=zs.foldl (fun v z=>v * 256 + z) 0
def digs:Nat→Int→List Int
 | 0,_=>[]
 | k + 1,v=>digs k (v / 256) ++ [v % 256]
theorem val_snoc (zs:List Int) (z:Int):val (zs ++ [z])=val zs * 256 + z:=by simp [val,List.foldl_append]
theorem digs_length (k:Nat) (v:Int):(digs k v).length=k:=by
 induction k generalizing v with
 | zero=>rfl
 | succ k ih=>simp [digs,ih]
theorem digs_byte (k:Nat) (v:Int):∀ z ∈ digs k v,isByte z:=by
 induction k generalizing v with
 | zero=>simp [digs]
 | succ k ih =>
  intro z hz
  simp only [digs,List.mem_append,List.mem_singleton] at hz
  rcases hz with hz | rfl
  ·exact ih _ z hz
  ·exact ⟨Int.emod_nonneg _ (by omega),Int.emod_lt_of_pos _ (by omega)⟩
theorem div_pow (v:Int) (k:Nat):v / 256 / 256 ^ k=v / 256 ^ (k + 1):=by
 rw [Int.ediv_ediv_of_nonneg (by omega),Int.pow_succ,Int.mul_comm]
theorem digs_cons (k:Nat) (v:Int):digs (k + 1) v=v / 256 ^ k % 256 :: digs k v:=by
 induction k generalizing v with
 | zero=>simp [digs]
 | succ k ih =>
  rw [digs,ih (v / 256),div_pow]
  rfl
theorem val_bounds (zs:List Int) (h:∀ z ∈ zs,isByte z):0≤val zs∧val zs < 256 ^ zs.length:=by
 revert h
 refine snoc_ind (P:=fun zs=>(∀ z ∈ zs,isByte z)→0≤val zs∧val zs < 256 ^ zs.length) ?_ ?_ zs
 ·intro _;simp [val]
 ·intro l a ih h
  have h1:=ih fun z hz=>h z (by simp [hz])
  have h2:isByte a:=h a (by simp)
  unfold isByte at h2
  rw [val_snoc,List.length_append,List.length_singleton,Int.pow_succ]
  omega
theorem val_digs (k:Nat) (v:Int) (h0:0≤v) (h:v / 256 ^ k=0):val (digs k v)=v:=by
 induction k generalizing v with
 | zero=>simp at h;simp [digs,val,h]
 | succ k ih =>
  rw [digs,val_snoc,ih (v / 256) (by omega) (by rw [div_pow];exact h)]
  omega
theorem digs_val (zs:List Int) (h:∀ z ∈ zs,isByte z):digs zs.length (val zs)=zs:=by
 revert h
 refine snoc_ind (P:=fun zs=>(∀ z ∈ zs,isByte z)→digs zs.length (val zs)=zs) ?_ ?_ zs
 ·intro _;rfl
 ·intro l a ih h
  have h1:=ih fun z hz=>h z (by simp [hz])
  have h2:isByte a:=h a (by simp)
  unfold isByte at h2
  rw [val_snoc,List.length_append,List.length_singleton,digs]
  rw [show (val l * 256 + a) / 256=val l from by omega,h1,show (val l * 256 + a) % 256=a from by omega]
def szOf (s:List Int) (k:Nat):Nat:=(s.getD k 0).toNat
def atTo (s:List Int):Nat→Nat
 | 0=>0
 | k + 1=>atTo s k + szOf s k
def okTo (s:List Int):Nat→Bool
 | 0=>true
 | k + 1=>okTo s k && (decide (1≤s.getD k 0) && decide (s.getD k 0≤8))
def okB (s:List Int):Bool:=decide (s.length≤16) && okTo s s.length
def rowTo (l s:List Int):Nat→List Int
 | 0=>[]
 | k + 1=>rowTo l s k ++ digs (szOf s k) (l.getD k 0)
def fitsTo (l s:List Int):Nat→Bool
 | 0=>true
 | k + 1=>fitsTo l s k && decide (l.getD k 0 / 256 ^ szOf s k=0)
def numsTo (b s:List Int):Nat→List Int
 | 0=>[]
 | k + 1=>numsTo b s k ++ [val ((b.drop (atTo s k)).take (szOf s k))]
theorem okTo_le {s:List Int} {n k:Nat} (h:okTo s n=true) (hk:k≤n):okTo s k=true:=by
 induction n with
 | zero=>simp [show k=0 from by omega,okTo]
 | succ n ih =>
  rcases Nat.lt_or_ge k (n + 1) with h1 | h1
  ·exact ih (by simp [okTo] at h;exact h.1) (by omega)
  ·rw [show k=n + 1 from by omega];exact h
theorem okTo_at {s:List Int} {n k:Nat} (h:okTo s n=true) (hk:k < n):1≤s.getD k 0∧s.getD k 0≤8:=by
 have:=okTo_le (k:=k + 1) h (by omega)
 simp only [okTo,Bool.and_eq_true,decide_eq_true_eq] at this
 exact this.2
theorem okTo_sz {s:List Int} {n k:Nat} (h:okTo s n=true) (hk:k < n):1≤szOf s k∧szOf s k≤8∧(szOf s k:Int)=s.getD k 0:=by
 have:=okTo_at h hk
 unfold szOf
 omega
theorem atTo_le {s:List Int} {n k:Nat} (h:okTo s n=true) (hk:k≤n):atTo s k≤8 * k:=by
 induction k with
 | zero=>simp [atTo]
 | succ k ih =>
  have:=ih (by omega)
  have:=okTo_sz h (show k < n by omega)
  rw [atTo]
  omega
theorem atTo_mono (s:List Int) {k n:Nat} (hk:k≤n):atTo s k≤atTo s n:=by
 induction n with
 | zero=>simp [show k=0 from by omega]
 | succ n ih =>
  rcases Nat.lt_or_ge k (n + 1) with h1 | h1
  ·have:=ih (by omega);rw [atTo];omega
  ·rw [show k=n + 1 from by omega];omega
theorem rowTo_length (l s:List Int) (k:Nat):(rowTo l s k).length=atTo s k:=by
 induction k with
 | zero=>rfl
 | succ k ih=>simp [rowTo,atTo,ih,digs_length]
theorem rowTo_byte (l s:List Int) (k:Nat):∀ z ∈ rowTo l s k,isByte z:=by
 induction k with
 | zero=>simp [rowTo]
 | succ k ih =>
  intro z hz
  simp only [rowTo,List.mem_append] at hz
  rcases hz with hz | hz
  ·exact ih z hz
  ·exact digs_byte _ _ z hz
theorem numsTo_length (b s:List Int) (k:Nat):(numsTo b s k).length=k:=by
 induction k with
 | zero=>rfl
 | succ k ih=>simp [numsTo,ih]
theorem fitsTo_le {l s:List Int} {n k:Nat} (h:fitsTo l s n=true) (hk:k≤n):fitsTo l s k=true:=by
 induction n with
 | zero=>simp [show k=0 from by omega,fitsTo]
 | succ n ih =>
  rcases Nat.lt_or_ge k (n + 1) with h1 | h1
  ·exact ih (by simp [fitsTo] at h;exact h.1) (by omega)
  ·rw [show k=n + 1 from by omega];exact h
theorem pow_le (k n:Nat) (h:k≤n):(256:Int) ^ k≤256 ^ n:=by
 have e:∀ m:Nat,(256:Int) ^ m=((256 ^ m:Nat):Int):=fun m=>(Int.natCast_pow 256 m).symm
 rw [e k,e n]
 exact Int.ofNat_le.2 (Nat.pow_le_pow_right (by omega) h)
theorem take_take_drop (b:List Int) (m n:Nat):b.take m ++ (b.drop m).take n=b.take (m + n):=by
 rw [List.take_add]
theorem numsTo_getD (b s:List Int):∀ n k,k < n→(numsTo b s n).getD k 0=val ((b.drop (atTo s k)).take (szOf s k)):=by
 intro n
 induction n with
 | zero=>intro k hk;omega
 | succ n ih =>
  intro k hk
  rw [numsTo,gtD,List.getElem?_append]
  rcases Nat.lt_or_ge k n with h1 | h1
  ·rw [if_pos (by rw [numsTo_length];exact h1),← gtD,ih k h1]
  ·rw [if_neg (by rw [numsTo_length];omega),numsTo_length,show k=n from by omega]
   simp
theorem rowTo_numsTo (b s:List Int) (n:Nat) (hb:∀ z ∈ b,isByte z) (hlen:atTo s n=b.length) :
  ∀ k,k≤n→rowTo (numsTo b s n) s k=b.take (atTo s k):=by
 intro k
 induction k with
 | zero=>intro _;simp [rowTo,atTo]
 | succ k ih =>
  intro hk
  rw [rowTo,ih (by omega),numsTo_getD b s n k (by omega)]
  have hm:=atTo_mono s hk
  rw [atTo] at hm
  have hl:((b.drop (atTo s k)).take (szOf s k)).length=szOf s k:=by simp;omega
  have:=digs_val ((b.drop (atTo s k)).take (szOf s k)) fun z hz=>hb z (List.mem_of_mem_drop (List.mem_of_mem_take hz))
  rw [hl] at this
  rw [this,take_take_drop,atTo]
theorem write_read (b s:List Int) (hb:∀ z ∈ b,isByte z) (hlen:atTo s s.length=b.length):rowTo (numsTo b s s.length) s s.length=b:=by
 rw [rowTo_numsTo b s s.length hb hlen s.length (Nat.le_refl _),hlen,List.take_length]
end Go.Proofs.YtifgcfepbenpjaaGreat
namespace Go.Proofs.YtifgcfepbenpjaaGreat
open Go.RowKit
theorem or_byte (m z:Int) (h0:0≤m) (h1:m * 256 < 18446744073709551616) (h2:0≤z) (h3:z < 256) :
  bits .or .u64 (m * 256) z=m * 256 + z:=by
 obtain ⟨a,rfl⟩:=Int.eq_ofNat_of_zero_le h0
 obtain ⟨b,rfl⟩:=Int.eq_ofNat_of_zero_le h2
 have e:=bits_or_u64_nat (a * 256) b (by omega) (by omega)
 have e2:=Nat.shiftLeft_add_eq_or_of_lt (i:=8) (b:=b) (by omega) a
 rw [Nat.shiftLeft_eq] at e2
 have e3:((a:Int) * 256)=((a * 256:Nat):Int):=by omega
 rw [e3,e,← e2]
 omega
theorem get_any (A:Option Addr) (n c:Nat) (zs:List Int) (w:World) (B:Nat) (h:Seq w B A (ints .u8 zs)) (hz:zs.length=n) (hn:n≤8) (hb:∀ z ∈ zs,isByte z) :
  Calls Tryz.prog 159 #[.slice A n c] w fun e w'=>e=.returned (.int .u64 (val zs))∧w=w':=by
 subst hz
 go_enter Tryz.func159,Tryz.ntmps159
 go_wp2
 go_loop [3,7] (fun v i=>∃ k:Nat,k≤zs.length∧i=.int .i64 k∧v=.int .u64 (val (zs.take k))) (fun _ i=>zs.length - (intOf i).toNat)
 case atStart=>exact ⟨0,Nat.zero_le _,rfl,rfl⟩
 case round =>
  obtain ⟨k,hk,rfl,rfl⟩:=hrel
  by_cases hkn:k < zs.length
  ·obtain ⟨b,o,rfl,hlt,hc⟩:=h.int hkn
   have hv:=val_bounds (zs.take k) fun z hz=>hb z (List.mem_of_mem_take hz)
   have hp:=pow_le (zs.take k).length 7 (by simp;omega)
   have h7:(256:Int) ^ 7=72057594037927936:=by decide
   rw [h7] at hp
   have hzb:=hb _ (List.getElem_mem hkn)
   obtain ⟨z,hz⟩:∃ z,z=zs.getD k 0:=⟨_,rfl⟩
   have hzz:zs[k]=z:=by rw [hz];simp [hkn]
   obtain ⟨m,hm⟩:∃ m,m=val (zs.take k):=⟨_,rfl⟩
   have hs:val (zs.take (k + 1))=m * 256 + z:=by rw [← List.take_append_getElem hkn,val_snoc,hzz,← hm]
   rw [hzz] at hzb
   rw [← hm] at hv
   have hm0:=hv.1
   have hm1:m < 72057594037927936:=by omega
   have hz0:=hzb.1
   have hz1:=hzb.2
   rw [← hz] at hc
   rw [← hm]
   have ho:=or_byte m z hm0 (by omega) hz0 hz1
   have HS:=Lh hs
   have HO:=Lh ho
   clear hz hzz hm hs ho hzb hv hp h7 h hb
   go_wp2
   go_round
   case rel=>exact ⟨k + 1,by omega,by go_num,by rw [HS.out];simp [← HO.out]⟩
   case measure=>simp [intOf];omega
  ·obtain rfl:k=zs.length:=by omega
   go_wp2
   go_ret
   exact ⟨by simp,rfl⟩
theorem size_ok (A:Option Addr) (n c:Nat) (s:List Int) (w:World) (B:Nat) (h:Seq w B A (ints .i64 s)) (hs:s.length=n) (hok:okB s=true) :
  Calls Tryz.prog 117 #[.slice A n c] w fun e w'=>e=.returned (.tuple #[.int .i64 (atTo s n),.int .i64 0])∧w=w':=by
 subst hs
 have h16:s.length≤16:=by simp [okB] at hok;exact hok.1
 have hoo:=Lh (show okTo s s.length=true by simp [okB] at hok;exact hok.2)
 clear hok
 go_enter Tryz.func117,Tryz.ntmps117
 go_wp2
 go_loop [4,11] (fun v i=>∃ k:Nat,k≤s.length∧i=.int .i64 k∧v=.int .i64 (atTo s k)) (fun _ i=>s.length - (intOf i).toNat)
 case atStart=>exact ⟨0,Nat.zero_le _,rfl,rfl⟩
 case round =>
  obtain ⟨k,hk,rfl,rfl⟩:=hrel
  by_cases hkn:k < s.length
  ·obtain ⟨b,o,rfl,hlt,hc⟩:=h.int hkn
   have hat:=okTo_at hoo.out hkn
   have hle:=atTo_le hoo.out hk
   obtain ⟨z,hz⟩:∃ z,z=s.getD k 0:=⟨_,rfl⟩
   rw [← hz] at hc hat
   have HZ:=Lh hz
   obtain ⟨h1,h2⟩:=hat
   clear hz h
   go_wp2
   go_round
   case rel=>exact ⟨k + 1,by omega,by go_num,by rw [atTo,szOf,← HZ.out];congr 1;omega⟩
   case measure=>simp [intOf];omega
  ·obtain rfl:k=s.length:=by omega
   go_wp2
   go_ret2
   exact ⟨rfl,rfl⟩
theorem set_mid (P M D:List Int) (j:Nat) (x:Int) (h:j < M.length) (rest:List Int) :
  (P ++ M.take (j + 1) ++ D ++ rest).set (P.length + j) x=P ++ M.take j ++ (x :: D) ++ rest:=by
 have e:M.take (j + 1)=M.take j ++ [M[j]]:=(List.take_append_getElem h).symm
 rw [e,List.append_assoc,List.append_assoc,List.append_assoc,List.set_append,if_neg (by omega),show P.length + j - P.length=j from by omega,
  List.append_assoc,List.set_append,if_neg (by rw [List.length_take];omega),show j - (M.take j).length=0 from by rw [List.length_take];omega]
 simp
theorem put_any (g o n c:Nat) (P M R:List Int) (v:Int) (w:World) (hb:Blk w g 5 (ints .u8 (P ++ M ++ R))) (hP:P.length=o) (hM:M.length=n) (hn:1≤n) (hn8:n≤100) (h0:0≤v) :
  Calls Tryz.prog 119 #[.slice (some ⟨g,o,none⟩) n c,.int .u64 v] w fun e w'=>e=.returned (.bool (decide (v / 256 ^ n=0)))∧Blk w' g 5 (ints .u8 (P ++ digs n v ++ R))∧w.grownBy w' (some g):=by
 go_enter Tryz.func119,Tryz.ntmps119
 go_wp2
 go_loopw [1,8] (fun u i wr=>∃ k:Nat,k≤n∧i=.int .i64 k∧u=.int .u64 (v / 256 ^ k)∧Blk wr g 5 (ints .u8 (P ++ M.take (n - k) ++ digs k v ++ R))∧w.grownBy wr (some g)) (fun _ i _=>n - (intOf i).toNat)
 case atStart=>exact ⟨0,Nat.zero_le _,rfl,by simp,by simpa [digs,← hM] using hb,grownBy_refl _ _⟩
 case round =>
  obtain ⟨k,hk,rfl,rfl,hbk,hg⟩:=hrel
  have hq:0≤v / 256 ^ k:=Int.ediv_nonneg h0 (Int.le_of_lt (Int.pow_pos (by omega)))
  by_cases hkn:k < n
  ·have hlen:o + (n - 1 - k) < (ints .u8 (P ++ M.take (n - k) ++ digs k v ++ R)).length:=by simp [ints,digs_length];omega
   have hc:=hbk.cell (o + (n - 1 - k))
   rw [geE hlen] at hc
   obtain ⟨x,hx⟩:∃ x,x=(ints .u8 (P ++ M.take (n - k) ++ digs k v ++ R))[o + (n - 1 - k)]:=⟨_,rfl⟩
   rw [← hx] at hc
   have hf:=hbk.free (o + (n - 1 - k))
   obtain ⟨q,hqe⟩:∃ q,q=v / 256 ^ k:=⟨_,rfl⟩
   rw [← hqe] at hq ⊢
   have HB:=Lh hbk
   have HQ:=Lh hqe
   have HM:=Lh hM
   have HP:=Lh hP
   have HG:=Lh hg
   clear hx hqe hbk hlen hb hM hP hg
   go_wp2
   go_roundw
   case rel =>
    refine ⟨k + 1,by omega,by go_num,by rw [HQ.out,Int.pow_succ,← Int.ediv_ediv_of_nonneg (Int.le_of_lt (Int.pow_pos (by omega)))],?_,grownBy_trans HG.out (grownBy_set _ _ _ _)⟩
    have hs:=HB.out.set (o + (n - 1 - k)) (.int .u8 (q % 256))
    rw [set_ints] at hs
    have hm:=set_mid P M (digs k v) (n - 1 - k) (q % 256) (by have:=HM.out;omega) R
    rw [show n - 1 - k + 1=n - k from by omega,HP.out] at hm
    rw [hm] at hs
    rw [digs_cons,← HQ.out,show n - (k + 1)=n - 1 - k from by omega]
    exact hs
   case measure=>simp [intOf];omega
  ·obtain rfl:k=n:=by omega
   obtain ⟨q,hqe⟩:∃ q,q=v / 256 ^ k:=⟨_,rfl⟩
   rw [← hqe] at hq ⊢
   have HB:=Lh hbk
   have HQ:=Lh hqe
   have HG:=Lh hg
   clear hqe hbk hb hM hP hg
   go_wp2
   go_ret
   have hb:=HB.out
   rw [show k - k=0 from by omega] at hb
   exact ⟨by rw [← HQ.out];rfl,by simpa using hb,HG.out⟩
def partsTo (g o:Nat) (s:List Int):Nat→List Value
 | 0=>[]
 | k + 1=>partsTo g o s k ++ [.slice (some ⟨g,o + atTo s k,none⟩) (szOf s k) (szOf s k)]
theorem partsTo_length (g o:Nat) (s:List Int) (k:Nat):(partsTo g o s k).length=k:=by
 induction k with
 | zero=>rfl
 | succ k ih=>simp [partsTo,ih]
theorem slices_info:(Tryz.prog.info? 42).map (fun i=>(i.zero,i.size,i.bytes))=some (some (.slice none 0 0),1,24):=by kernel_rfl
theorem parts_any (A S:Option Addr) (g o n c cs:Nat) (s:List Int) (w:World) (B:Nat) (h:Seq w B S (ints .i64 s)) (hok:okB s=true) (hn:n=atTo s s.length) (hnc:n≤c) (hc:c≤maxLen) (hA:0 < s.length→A=some ⟨g,o,none⟩) (hB:B≤w.heap.size) :
  Calls Tryz.prog 118 #[.slice A n c,.slice S s.length cs] w fun e w'=>e=.returned (.slice (some ⟨w.heap.size,0,none⟩) s.length s.length)∧Blk w' w.heap.size 42 (partsTo g o s s.length)∧w.grownBy w' none:=by
 have h16:s.length≤16:=by simp [okB] at hok;exact hok.1
 have hoo:=Lh (show okTo s s.length=true by simp [okB] at hok;exact hok.2)
 obtain ⟨i0,hi0,hz0,hz1,hz2⟩:=info_parts slices_info
 have hmk:=fun wx=>run_make1 (P:=Tryz.prog) 103 42 i0 _ Tryz.underlying103 hi0 hz0 hz1 rfl s.length (by rw [hz2];omega) (by simp only [maxLen];omega) wx
 have HA:=Lh hA
 have HN:=Lh hn
 clear hok hA hn hi0 hz0 hz1 hz2
 go_enter Tryz.func118,Tryz.ntmps118
 go_wp2
 clear hmk
 go_loopw [6,14] (fun v i wr=>∃ k:Nat,k≤s.length∧i=.int .i64 k∧v=.int .i64 (atTo s k)∧Blk wr w.heap.size 42 (partsTo g o s k ++ List.replicate (s.length - k) (.slice none 0 0))∧w.grownBy wr none) (fun _ i _=>s.length - (intOf i).toNat)
 case atStart=>exact ⟨0,Nat.zero_le _,rfl,rfl,Blk.new _ _ _,World.grownBy_alloc _ _ _⟩
 case round =>
  obtain ⟨k,hk,rfl,rfl,hb,hg⟩:=hrel
  by_cases hkn:k < s.length
  ·obtain ⟨b,os,rfl,hlt,hcs⟩:=(h.grown hg hB (fun _ h=>by cases h)).int hkn
   obtain rfl:=HA.out (by omega)
   have hz:=okTo_sz hoo.out hkn
   have hm:=atTo_mono s (show k + 1≤s.length by omega)
   rw [← HN.out,atTo] at hm
   have hle:=atTo_le hoo.out (show k≤s.length by omega)
   rw [← hz.2.2] at hcs
   obtain ⟨hz1,hz2,_⟩:=hz
   have hcell:=hb.cell k
   rw [List.getElem?_append_right (by rw [partsTo_length];omega),partsTo_length,Nat.sub_self] at hcell
   have hcell2:wr.cell? ⟨w.heap.size,k,none⟩=some (.slice none 0 0):=by rw [hcell];simp [List.getElem?_replicate];omega
   have hfr:=hb.free k
   have HB:=Lh hb
   have HG:=Lh hg
   obtain ⟨z,hzz⟩:∃ z,z=szOf s k:=⟨_,rfl⟩
   obtain ⟨a,ha⟩:∃ a,a=atTo s k:=⟨_,rfl⟩
   rw [← hzz] at hcs hm hz1 hz2
   rw [← ha] at hm hle ⊢
   have HZ:=Lh hzz
   have HAT:=Lh ha
   clear hcell hb hg hzz ha h
   unfold maxLen at hc
   go_wp2
   go_roundw
   case rel =>
    refine ⟨k + 1,by omega,by go_num,by rw [atTo,← HZ.out,← HAT.out];go_num,?_,grownBy_set_new HG.out (Nat.le_refl _) _ _⟩
    have hs:=HB.out.set k (.slice (some ⟨g,o + a,none⟩) z z)
    rw [List.set_append,if_neg (by rw [partsTo_length];omega),partsTo_length,Nat.sub_self,show s.length - k=(s.length - (k + 1)) + 1 from by omega,List.replicate_succ,scZ] at hs
    rw [partsTo,← HZ.out,← HAT.out,List.append_assoc]
    exact hs
   case measure=>simp [intOf];omega
  ·obtain rfl:k=s.length:=by omega
   have HB:=Lh hb
   have HG:=Lh hg
   clear hb hg h
   go_wp2
   go_ret
   have hb:=HB.out
   rw [Nat.sub_self,List.replicate_zero,List.append_nil] at hb
   exact ⟨rfl,hb,HG.out⟩
theorem word_info:(Tryz.prog.info? 27).map (fun i=>(i.zero,i.size,i.bytes))=some (some (.int .u64 0),1,8):=by kernel_rfl
theorem partsTo_get (g o:Nat) (s:List Int) (n k:Nat) (h:k < n):(partsTo g o s n)[k]?=some (.slice (some ⟨g,o + atTo s k,none⟩) (szOf s k) (szOf s k)):=by
 induction n with
 | zero=>omega
 | succ n ih =>
  rw [partsTo,List.getElem?_append,partsTo_length]
  rcases Nat.lt_or_ge k n with h1 | h1
  ·rw [if_pos h1];exact ih h1
  ·rw [if_neg (by omega),show k=n from by omega];simp
theorem read_short (A S:Option Addr) (n c m cs:Nat) (s:List Int) (w:World) (B:Nat) (h:Seq w B S (ints .i64 s)) (hs:s.length=m) (hok:okB s=true) (hne:n≠atTo s m) (hn:n≤1000) :
  Calls Tryz.prog 123 #[.slice A n c,.slice S m cs] w fun e w'=>e=.returned (.tuple #[.slice none 0 0,.int .i64 10])∧w=w':=by
 have hoo:okTo s s.length=true:=by simp [okB] at hok;exact hok.2
 have hle:=atTo_le hoo (Nat.le_refl _)
 have h16:s.length≤16:=by simp [okB] at hok;exact hok.1
 rw [hs] at hle
 go_enter Tryz.func123,Tryz.ntmps123
 go_wp2_with fail
 refine (size_ok S m cs s _ B h hs hok).mono ?_
 rintro e w' ⟨rfl,rfl⟩
 obtain ⟨t,ht⟩:∃ t,t=atTo s m:=⟨_,rfl⟩
 rw [← ht] at hne hle ⊢
 have hb:((n:Int) != (t:Int))=true:=by rw [bne_iff_ne];omega
 clear ht
 go_wp2
 go_ret2
 exact ⟨rfl,rfl⟩
theorem read_ok (A S:Option Addr) (n c m cs:Nat) (b s:List Int) (w:World) (h:Seq w w.heap.size S (ints .i64 s)) (hs:s.length=m) (hok:okB s=true) (hb:Seq w w.heap.size A (ints .u8 b)) (hbl:b.length=n) (hn:n=atTo s m) (hnc:n≤c) (hc:c≤maxLen) (hby:∀ z ∈ b,isByte z) :
  Calls Tryz.prog 123 #[.slice A n c,.slice S m cs] w (RowOut .u64 27 w (numsTo b s m) 0):=by
 subst hs
 have hoo:okTo s s.length=true:=by simp [okB] at hok;exact hok.2
 have hle:=atTo_le hoo (Nat.le_refl _)
 have h16:s.length≤16:=by simp [okB] at hok;exact hok.1
 have HN:=Lh hn
 have hn0:((n:Int) != (atTo s s.length:Int))=false:=by rw [hn];simp
 obtain ⟨i0,hi0,hz0,hz1,hz2⟩:=info_parts word_info
 have hmk:=fun wx=>run_make1 (P:=Tryz.prog) 154 27 i0 _ Tryz.underlying154 hi0 hz0 hz1 rfl s.length (by rw [hz2];omega) (by simp only [maxLen];omega) wx
 obtain ⟨g,o,hA⟩:∃ g o,0 < s.length→A=some ⟨g,o,none⟩:=by
  by_cases h0:0 < s.length
  ·have h1:=okTo_sz hoo h0
   have h2:=atTo_mono s (show 1≤s.length by omega)
   rw [atTo,atTo] at h2
   obtain ⟨g,o,e,_,_⟩:=hb.int (j:=0) (by omega)
   exact ⟨g,o,fun _=>e⟩
  ·exact ⟨0,0,fun h=>absurd h h0⟩
 have HA:=Lh hA
 have HOO:=Lh hoo
 have HBL:=Lh hbl
 have HBY:=Lh hby
 clear hi0 hz0 hz1 hz2 hn hoo hA hbl hby
 go_enter Tryz.func123,Tryz.ntmps123
 go_wp2_with fail
 refine (size_ok S s.length cs s _ _ h rfl hok).mono ?_
 rintro e w' ⟨rfl,rfl⟩
 go_wp2_with fail
 refine (parts_any A S g o n c cs s _ _ h hok HN.out hnc hc HA.out (Nat.le_refl _)).mono ?_
 rintro e w1 ⟨rfl,hp,hg1⟩
 have HP:=Lh hp
 have HG:=Lh hg1
 have hsz1:=hg1.size
 clear hp hg1 hn0
 go_wp2
 clear hmk
 go_loopw [31] (fun i wr=>∃ k:Nat,k≤s.length∧i=.int .i64 k∧Blk wr w1.heap.size 27 (ints .u64 (numsTo b s k) ++ List.replicate (s.length - k) (.int .u64 0))∧Blk wr w.heap.size 42 (partsTo g o s s.length)∧w.grownBy wr none) (fun i _=>s.length - (intOf i).toNat)
 case atStart=>exact ⟨0,Nat.zero_le _,rfl,Blk.new _ _ _,HP.out.grown (World.grownBy_alloc _ _ none) (by simp),grownBy_trans HG.out (World.grownBy_alloc _ _ none)⟩
 case round =>
  obtain ⟨k,hk,rfl,hbk,hpk,hgk⟩:=hrel
  by_cases hkn:k < s.length
  ·obtain rfl:=HA.out (by omega)
   have hz:=okTo_sz HOO.out hkn
   have hm:=atTo_mono s (show k + 1≤s.length by omega)
   rw [← HN.out,atTo] at hm
   have hpc:=hpk.cell k
   rw [partsTo_get _ _ _ _ _ hkn] at hpc
   have hcell:=hbk.cell k
   rw [List.getElem?_append_right (by rw [ints_length,numsTo_length];omega),ints_length,numsTo_length,Nat.sub_self] at hcell
   have hcell2:wr.cell? ⟨w1.heap.size,k,none⟩=some (.int .u64 0):=by rw [hcell];simp [List.getElem?_replicate];omega
   have hfr:=hbk.free k
   have hpiece:=(hb.drop (atTo s k)).take (szOf s k)
   have hbr:=hpiece.grown hgk (Nat.le_refl _) (fun _ h=>by cases h)
   have hbr2:Seq wr w.heap.size (some ⟨g,o + atTo s k,none⟩) (ints .u8 ((b.drop (atTo s k)).take (szOf s k))):=by
    have e:ints .u8 ((b.drop (atTo s k)).take (szOf s k))=((ints .u8 b).drop (atTo s k)).take (szOf s k):=by simp [ints,List.map_take,List.map_drop]
    rw [e];exact hbr
   have hpl:((b.drop (atTo s k)).take (szOf s k)).length=szOf s k:=by have:=HBL.out;simp;omega
   have hpb:∀ z ∈ (b.drop (atTo s k)).take (szOf s k),isByte z:=fun z hz=>HBY.out z (List.mem_of_mem_drop (List.mem_of_mem_take hz))
   have HBR:=Lh hbr2
   have HPL:=Lh hpl
   have HPB:=Lh hpb
   have HB:=Lh hbk
   have HP2:=Lh hpk
   have HG2:=Lh hgk
   obtain ⟨zs,hzs⟩:∃ zs,zs=(b.drop (atTo s k)).take (szOf s k):=⟨_,rfl⟩
   have hvs:numsTo b s (k + 1)=numsTo b s k ++ [val zs]:=by rw [numsTo,hzs]
   rw [← hzs] at HBR HPL HPB
   have HV:=Lh hvs
   obtain ⟨hs1,hs2,_⟩:=hz
   clear hcell hbk hpk hgk hpiece hbr hbr2 hpl hpb hzs hvs hb h
   go_wp2_with fail
   refine (get_any _ _ _ zs _ _ HBR.out HPL.out hs2 HPB.out).mono ?_
   rintro e w' ⟨rfl,rfl⟩
   go_wp2
   go_roundw
   case rel =>
    refine ⟨k + 1,by omega,by go_num,?_,?_,grownBy_set_new HG2.out hsz1 _ _⟩
    ·have hs:=HB.out.set k (.int .u64 (val zs))
     rw [List.set_append,if_neg (by rw [ints_length,numsTo_length];omega),ints_length,numsTo_length,Nat.sub_self,show s.length - k=(s.length - (k + 1)) + 1 from by omega,List.replicate_succ,scZ] at hs
     rw [HV.out,ints_app,List.append_assoc]
     exact hs
    ·exact HP2.out.grown (grownBy_set _ _ _ _) (by simp;intro e;exact absurd (Blk.ty HB.out (e ▸ HP2.out)) (by decide))
   case measure=>simp [intOf];omega
  ·obtain rfl:k=s.length:=by omega
   have HB:=Lh hbk
   have HG2:=Lh hgk
   clear hbk hpk hgk h hb
   go_wp2
   have hb2:=HB.out
   rw [Nat.sub_self,List.replicate_zero,List.append_nil] at hb2
   have hl:(numsTo b s s.length).length=s.length:=numsTo_length _ _ _
   go_ret2
   refine ⟨some ⟨w1.heap.size,0,none⟩,s.length,by rw [hl];rfl,?_,below_of_grown HG2.out⟩
   rw [hl]
   exact hb2.owns hsz1 (by rw [ints_length,hl]) (by simp only [maxLen];omega)
def WroteOut (w:World) (l s:List Int) (e:Ending) (w':World):Prop :=
 (fitsTo l s s.length=true∧RowOut .u8 5 w (rowTo l s s.length) 0 e w')∨(fitsTo l s s.length=false∧e=.returned (.tuple #[.slice none 0 0,.int .i64 4])∧Below w.heap.size w w')
theorem WroteOut.yes {w:World} {l s:List Int} {e:Ending} {w':World} (h:WroteOut w l s e w') (hf:fitsTo l s s.length=true):RowOut .u8 5 w (rowTo l s s.length) 0 e w':=by
 rcases h with ⟨_,h⟩ | ⟨h,_⟩
 ·exact h
 ·rw [hf] at h;cases h
theorem write_ok (A S:Option Addr) (n c m cs:Nat) (l s:List Int) (w:World) (h:Seq w w.heap.size S (ints .i64 s)) (hs:s.length=m) (hok:okB s=true) (hl:Seq w w.heap.size A (ints .u64 l)) (hln:l.length=n) (hnm:n=m) (hw:∀ z ∈ l,isWord z) :
  Calls Tryz.prog 74 #[.slice A n c,.slice S m cs] w (WroteOut w l s):=by
 subst hs
 subst hnm
 have hoo:okTo s s.length=true:=by simp [okB] at hok;exact hok.2
 have hle:=atTo_le hoo (Nat.le_refl _)
 have h16:s.length≤16:=by simp [okB] at hok;exact hok.1
 obtain ⟨i0,hi0,hz0,hz1,hz2⟩:=info_parts byte_info
 obtain ⟨t,ht⟩:∃ t,t=atTo s s.length:=⟨_,rfl⟩
 have hmk:=fun wx=>run_make1 (P:=Tryz.prog) 42 5 i0 _ Tryz.underlying42 hi0 hz0 hz1 rfl t (by rw [hz2];omega) (by simp only [maxLen];omega) wx
 have HOO:=Lh hoo
 have HLN:=Lh hln
 have HW:=Lh hw
 have HT:=Lh ht
 rw [← ht] at hle
 clear hi0 hz0 hz1 hz2 hoo hln hw ht
 go_enter Tryz.func74,Tryz.ntmps74
 go_wp2_with fail
 refine (size_ok S s.length cs s _ _ h rfl hok).mono ?_
 rintro e w' ⟨rfl,rfl⟩
 rw [← HT.out]
 go_wp2_with fail
 refine (parts_any _ S w.heap.size 0 t t cs s _ _ (h.alloc (Nat.le_refl _) _) hok HT.out (Nat.le_refl _) (by simp only [maxLen];omega) (fun _=>rfl) (by simp)).mono ?_
 rintro e w1 ⟨rfl,hp,hg1⟩
 have hp2:Blk w1 (w.heap.size + 1) 42 (partsTo w.heap.size 0 s s.length):=by simpa using hp
 have hb1:Blk w1 w.heap.size 5 (ints .u8 (List.replicate t 0)):=by
  have e:rep t (.int .u8 0)=(ints .u8 (List.replicate t 0)).toArray:=by simp [rep,ints]
  rw [e] at hg1
  exact (Blk.new w 5 (ints .u8 (List.replicate t 0))).grown hg1 (by simp)
 have HP:=Lh hp2
 have HB1:=Lh hb1
 have HG:=Lh (grownBy_trans (World.grownBy_alloc w _ none) (hg1.weak (by simp)))
 clear hp hg1 hmk hp2 hb1
 go_wp2
 go_loopw [31] (fun i wr=>∃ k:Nat,k≤s.length∧i=.int .i64 k∧Hid (fitsTo l s k=true)∧Blk wr w.heap.size 5 (ints .u8 (rowTo l s k ++ List.replicate (t - atTo s k) 0))∧Blk wr (w.heap.size + 1) 42 (partsTo w.heap.size 0 s s.length)∧w.grownBy wr none) (fun i _=>s.length - (intOf i).toNat)
 case atStart=>exact ⟨0,Nat.zero_le _,rfl,rfl,by simpa [rowTo,atTo] using HB1.out,HP.out,HG.out⟩
 case round =>
  obtain ⟨k,hk,rfl,hfk,hbk,hpk,hgk⟩:=hrel
  by_cases hkn:k < s.length
  ·obtain ⟨ba,oa,rfl,hba,hac⟩:=(hl.grown hgk (Nat.le_refl _) (fun _ h=>by cases h)).int (j:=k) (by have:=HLN.out;omega)
   have hz:=okTo_sz HOO.out hkn
   have hm:=atTo_mono s (show k + 1≤s.length by omega)
   rw [← HT.out,atTo] at hm
   have hpc:=hpk.cell k
   rw [partsTo_get _ _ _ _ _ hkn,Nat.zero_add] at hpc
   have hput:=put_any w.heap.size (atTo s k) (szOf s k) (szOf s k) (rowTo l s k) (List.replicate (szOf s k) 0) (List.replicate (t - atTo s (k + 1)) 0) (l.getD k 0) wr.drew
    (by rw [List.append_assoc,List.replicate_append_replicate,atTo,show szOf s k + (t - (atTo s k + szOf s k))=t - atTo s k from by omega];exact hbk) (rowTo_length _ _ _) (by simp) hz.1 (by omega)
    (by rw [show l.getD k 0=l[k]'(by have:=HLN.out;omega) from by simp [List.getD,show k < l.length from by have:=HLN.out;omega]];exact (HW.out _ (List.getElem_mem _)).1)
   rw [List.append_assoc] at hput
   have hrow:rowTo l s (k + 1)=rowTo l s k ++ digs (szOf s k) (l.getD k 0):=rfl
   have hft:fitsTo l s (k + 1)=(fitsTo l s k && decide (l.getD k 0 / 256 ^ szOf s k=0)):=rfl
   obtain ⟨v,hv⟩:∃ v,v=l.getD k 0:=⟨_,rfl⟩
   rw [← hv] at hput hac hrow hft
   have HROW:=Lh hrow
   have HFT:=Lh hft
   have HPK:=Lh hpk
   have HGK:=Lh hgk
   clear hv hrow hft
   by_cases hfit:v / 256 ^ szOf s k=0
   ·rw [decide_eq_true hfit] at hput HFT
    have HPUT:=Lh hput
    clear hput h hl hbk hpk hgk hfit
    go_wp2
    go_still_tail 8,(by kernel_rfl)
    change wpList _ _ _ _ _ wr.drew
    go_wp2_with fail
    refine HPUT.out.mono ?_
    rintro e w2 ⟨rfl,hb2,hg2⟩
    have HB2:=Lh hb2
    have HG2:=Lh hg2
    clear hb2 hg2
    go_wp2
    go_roundw
    case rel =>
     refine ⟨k + 1,by omega,by go_num,?_,?_,?_,?_⟩
     ·show fitsTo l s (k + 1)=true
      rw [HFT.out,hfk.out];rfl
     ·rw [HROW.out,List.append_assoc];exact HB2.out
     ·exact Blk.grown (w:=wr.drew) HPK.out HG2.out (by simp)
     ·exact grownBy_then (grownBy_drew HGK.out) HG2.out (fun g e=>by injection e with e;omega)
    case measure=>simp [intOf];omega
   ·rw [decide_eq_false hfit] at hput HFT
    have HPUT:=Lh hput
    clear hput h hl hbk hpk hgk hfit
    go_wp2
    go_still_tail 8,(by kernel_rfl)
    change wpList _ _ _ _ _ wr.drew
    go_wp2_with fail
    refine HPUT.out.mono ?_
    rintro e w2 ⟨rfl,hb2,hg2⟩
    have HB2:=Lh hb2
    have HG2:=Lh hg2
    clear hb2 hg2
    go_wp2
    go_ret2
    refine .inr ⟨?_,rfl,?_⟩
    ·have hno:fitsTo l s (k + 1)=false:=by rw [HFT.out];simp
     rcases hft:fitsTo l s s.length with _ | _
     ·rfl
     ·rw [fitsTo_le hft hkn] at hno;cases hno
    ·exact below_of_grown (grownBy_then (grownBy_drew HGK.out) HG2.out (fun g e=>by injection e with e;omega))
  ·obtain rfl:k=s.length:=by omega
   have HB:=Lh hbk
   have HGK:=Lh hgk
   clear hbk hpk hgk h hl
   go_wp2
   have hl:(rowTo l s s.length).length=t:=by rw [rowTo_length,HT.out]
   have hb2:=HB.out
   rw [← HT.out,Nat.sub_self,List.replicate_zero,List.append_nil] at hb2
   go_ret2
   refine .inl ⟨hfk.out,some ⟨w.heap.size,0,none⟩,t,by rw [hl];rfl,?_,below_of_grown HGK.out⟩
   rw [hl]
   exact hb2.owns (Nat.le_refl _) (by rw [ints_length,hl]) (by simp only [maxLen];omega)
end Go.Proofs.YtifgcfepbenpjaaGreat
namespace Go.Proofs.YtifgcfepbenpjaaGreat
section
variable {P:Program} {ops:Array Oper} {Q:Exit→Act→World→Prop} {md:Region.Mode} {S:World→Prop} {st:Nat}
def wpAnyG (P:Program) (md:Region.Mode) (ops:Array Oper) (Q:Exit→Act→World→Prop) (S:World→Prop) (st:Nat):Nat→Array Bool→Act→World→Prop
 | 0,listed,a,w=>Region.ready md ops listed=[]∧Q .normal a w
 | fuel + 1,listed,a,w =>
  (Region.ready md ops listed=[]→Q .normal a w) ∧
  ∀ i ∈ Region.ready md ops listed,wpOp P ops Q i (fun a' w'=>(i≠st→S w')∧wpAnyG P md ops Q S st fuel (listed.setIfInBounds i true) a' w') a w
theorem wpAny_of_to:∀ (fuel:Nat) (listed:Array Bool) (a:Act) (w:World),wpAnyG P md ops Q S st fuel listed a w→wpAny P md ops Q fuel listed a w
 | 0,_,_,_,h=>h
 | fuel + 1,_,_,_,h=>⟨h.1,fun i hi=>wpOp_mono (fun a' w' h'=>wpAny_of_to fuel _ a' w' h'.2) (h.2 i hi)⟩
def depB (md:Region.Mode) (ops:Array Oper) (i:Nat):Nat→Nat→Bool
 | 0,_=>false
 | f + 1,k=>match ops[k]? with
  | some o=>o.after.any fun e=>Region.binds md e && (e.on == i || depB md ops i f e.on)
  | none=>false
def closedB (md:Region.Mode) (ops:Array Oper) (listed:Array Bool):Bool :=
 (List.range ops.size).all fun k=>!listed.getD k false || match ops[k]? with
  | some o=>o.after.all fun e=>!Region.binds md e || listed.getD e.on false
  | none=>true
def Closed (md:Region.Mode) (ops:Array Oper) (listed:Array Bool):Prop :=
 ∀ k o,ops[k]?=some o→listed.getD k false=true→∀ e ∈ o.after,Region.binds md e=true→listed.getD e.on false=true
theorem closed_of {listed:Array Bool} (h:closedB md ops listed=true):Closed md ops listed:=fun k o hk hl e he hb=>by
 unfold closedB at h
 rw [List.all_eq_true] at h
 have hks:k < ops.size:=(Array.getElem?_eq_some_iff.1 hk).1
 have:=h k (List.mem_range.2 hks)
 rw [hk,hl] at this
 simp only [Bool.not_true,Bool.false_or,Array.all_eq_true',Bool.or_eq_true,Bool.not_eq_true'] at this
 rcases this e he with h1 | h1
 ·rw [hb] at h1;cases h1
 ·exact h1
theorem closed_set {listed:Array Bool} {j:Nat} (h:Closed md ops listed) (hj:j ∈ Region.ready md ops listed):Closed md ops (listed.setIfInBounds j true):=fun k o hk hl e he hb=>by
 by_cases hkj:j=k
 ·subst hkj
  obtain ⟨_,oj,hoj,hall⟩:=mem_ready.1 hj
  rw [hoj] at hk
  cases hk
  exact getD_set_true (hall e he hb)
 ·rw [getD_set_ne false hkj] at hl
  exact getD_set_true (h k o hk hl e he hb)
theorem dep_listed {listed:Array Bool} (h:Closed md ops listed) {i:Nat}:∀ (f k:Nat) (o:Oper),ops[k]?=some o→(∀ e ∈ o.after,Region.binds md e=true→listed.getD e.on false=true)→depB md ops i f k=true→listed.getD i false=true
 | 0,_,_,_,_,hd=>by cases hd
 | f + 1,k,o,hk,hall,hd=>by
  unfold depB at hd
  rw [hk] at hd
  simp only [Array.any_eq_true',Bool.and_eq_true,Bool.or_eq_true,beq_iff_eq] at hd
  obtain ⟨e,he,hb,hor⟩:=hd
  have hl:=hall e he hb
  rcases hor with rfl | hor
  ·exact hl
  ·cases hk':ops[e.on]? with
   | none =>
    exfalso
    cases f with
    | zero=>cases hor
    | succ f=>unfold depB at hor;rw [hk'] at hor;cases hor
   | some o'=>exact dep_listed h f e.on o' hk' (fun e' he' hb'=>h e.on o' hk' hl e' he' hb') hor
theorem wpAnyG_first {i:Nat} {oi:Oper} {v:Value} (hi:ops[i]?=some oi) (hsel:∀ (j:Nat) (o:Oper) cs b,ops[j]?=some o→o.op≠.select cs b) (f:Nat) (hwait:depB md ops i f st=true) (hist:i≠st)
  (hQ:∀ c a w,Q (.panic c) (a.put oi.dst v) w→Q (.panic c) a w) :
  ∀ (fuel:Nat) (listed:Array Bool) (a:Act) (w:World),Closed md ops listed →
   (∀ j oj,ops[j]?=some oj→j≠i→listed.getD j true=false→(∀ e ∈ oj.after,Region.binds md e=true→e.on≠i)→oi.apart ops oj=true) →
   i ∈ Region.ready md ops listed→YieldsIf P ops S oi v a→S w →
   wpAnyG P md ops Q S st fuel (listed.setIfInBounds i true) (a.put oi.dst v) w→wpAnyG P md ops Q S st (fuel + 1) listed a w:=by
 intro fuel
 induction fuel with
 | zero =>
  intro listed a w hcl _ hr hy hS H
  refine ⟨fun h=>(by rw [h] at hr;cases hr),fun j hj=>?_⟩
  by_cases hji:j=i
  ·subst hji;exact hy.wpOp hi hS ⟨fun _=>hS,H⟩
  ·have:=ready_mono hj hji
   rw [H.1] at this
   cases this
 | succ fuel ih =>
  intro listed a w hcl hfree hr hy hS H
  refine ⟨fun h=>(by rw [h] at hr;cases hr),fun j hj=>?_⟩
  by_cases hji:j=i
  ·subst hji;exact hy.wpOp hi hS ⟨fun _=>hS,H⟩
  ·have h1:=H.2 j (ready_mono hj hji)
   obtain ⟨hjun,oj,hoj,hall⟩:=mem_ready.1 hj
   have hnot:∀ e ∈ oj.after,Region.binds md e=true→e.on≠i:=fun e he hb heq=>by
    have h1:=hall e he hb
    have h0:=(mem_ready.1 hr).1
    rw [heq] at h1
    rcases Nat.lt_or_ge i listed.size with h' | h'
    ·simp [h'] at h0 h1;rw [h0] at h1;cases h1
    ·simp [Array.getElem?_eq_none h'] at h1
   have hjst:j≠st:=fun e=>by
    subst e
    have hli:=dep_listed hcl f j oj hoj hall hwait
    have h0:=(mem_ready.1 hr).1
    rcases Nat.lt_or_ge i listed.size with h' | h'
    ·simp [h'] at h0 hli;rw [h0] at hli;cases hli
    ·simp [Array.getElem?_eq_none h'] at hli
   have h2:=wpOp_putIf hoj (hfree j oj hoj hji hjun hnot) (fun cs b=>hsel i oi cs b hi) (fun cs b=>hsel j oj cs b hoj) hQ hy h1
   have hfree':∀ k ok,ops[k]?=some ok→k≠i→(listed.setIfInBounds j true).getD k true=false →
     (∀ e ∈ ok.after,Region.binds md e=true→e.on≠i)→oi.apart ops ok=true:=fun k ok hk hki hun hno=>by
    refine hfree k ok hk hki ?_ hno
    by_cases hjk:j=k
    ·subst hjk;exact hjun
    ·rw [getD_set_ne true hjk] at hun;exact hun
   refine wpOp_mono (fun a' w' h3=>⟨h3.2.1,ih (listed.setIfInBounds j true) a' w' (closed_set hcl hj) hfree' (ready_mono hr (Ne.symm hji)) h3.1 (h3.2.1 hjst) ?_⟩) h2
   rw [Array.setIfInBounds_comm _ _ hji]
   exact h3.2.2
theorem wpAnyG_take {i:Nat} {oi:Oper} {v:Value} {fuel:Nat} {listed:Array Bool} {a:Act} {w:World} (hi:ops[i]?=some oi)
  (hs:Region.noSelect ops=true) (hf:Region.free md ops listed i=true) (hr:(Region.ready md ops listed).contains i=true) (hw:depB md ops i ops.size st=true) (hcl:closedB md ops listed=true) (hist:(i != st)=true)
  (hQ:∀ c a w,Q (.panic c) (a.put oi.dst v) w→Q (.panic c) a w) (hy:YieldsIf P ops S oi v a) (hS:S w)
  (h:wpAnyG P md ops Q S st fuel (listed.setIfInBounds i true) (a.put oi.dst v) w):wpAnyG P md ops Q S st (fuel + 1) listed a w :=
 wpAnyG_first hi (Region.noSelect_spec hs) _ hw (bne_iff_ne.1 hist) hQ fuel listed a w (closed_of hcl) (Region.free_spec hi hf) (by simpa using hr) hy hS h
theorem wpAnyG_done {listed:Array Bool} {a:Act} {w:World} (hr:Region.ready md ops listed=[]) (h:Q .normal a w):∀ fuel,wpAnyG P md ops Q S st fuel listed a w
 | 0=>⟨hr,h⟩
 | _ + 1=>⟨fun _=>h,by rw [hr];simp⟩
theorem wpAnyG_one {i:Nat} {o:Oper} {fuel:Nat} {listed:Array Bool} {a:Act} {w:World} (hr:Region.ready md ops listed=[i]) (ho:ops[i]?=some o)
  (h:∀ K':Act→World→Prop,Shut (∀ a w,(i≠st→S w)→((i≠st→S w)→wpAnyG P md ops Q S st fuel (listed.setIfInBounds i true) a w)→K' a w)→if Region.wanted o (yielded ops a.tmps)=true then Oper.wp P o a w K' Q else K' (a.put o.dst undef) w) :
  wpAnyG P md ops Q S st (fuel + 1) listed a w:=by
 refine ⟨fun h0=>(by rw [hr] at h0;cases h0),fun j hj=>?_⟩
 rw [hr,List.mem_singleton] at hj
 subst hj
 exact wpOp_step ho (fun K' hK=>h K' (fun a w hS hW=>hK a w ⟨hS,hW hS⟩))
theorem wp_region_to {id:Nat} {a:Act} {w:World} (st:Nat) (S:World→Prop) (hm:P.follows .mixedOrders=true) (h:wpAnyG P .any ops Q S st ops.size (Array.replicate ops.size false) a w.drew):(Code.region id ops true).wp P Q a w :=
 wp_region_any hm (wpAny_of_to _ _ _ _ h)
end
end Go.Proofs.YtifgcfepbenpjaaGreat
namespace Go.Proofs.YtifgcfepbenpjaaGreat
section
variable {P:Program} {ops:Array Oper} {Q:Exit→Act→World→Prop} {md:Region.Mode} {S:World→Prop} {st:Nat}
theorem wpAnyG_two {i j:Nat} {oi oj:Oper} {fuel:Nat} {listed:Array Bool} {a:Act} {w:World} (hr:Region.ready md ops listed=[i,j]) (hi:ops[i]?=some oi) (hj:ops[j]?=some oj)
  (h1:∀ K':Act→World→Prop,Shut (∀ a w,(i≠st→S w)→((i≠st→S w)→wpAnyG P md ops Q S st fuel (listed.setIfInBounds i true) a w)→K' a w)→if Region.wanted oi (yielded ops a.tmps)=true then Oper.wp P oi a w K' Q else K' (a.put oi.dst undef) w)
  (h2:∀ K':Act→World→Prop,Shut (∀ a w,(j≠st→S w)→((j≠st→S w)→wpAnyG P md ops Q S st fuel (listed.setIfInBounds j true) a w)→K' a w)→if Region.wanted oj (yielded ops a.tmps)=true then Oper.wp P oj a w K' Q else K' (a.put oj.dst undef) w) :
  wpAnyG P md ops Q S st (fuel + 1) listed a w:=by
 refine ⟨fun h0=>(by rw [hr] at h0;cases h0),fun k hk=>?_⟩
 rw [hr] at hk
 rcases List.mem_cons.1 hk with rfl | hk
 ·exact wpOp_step hi (fun K' hK=>h1 K' (fun a w hS hW=>hK a w ⟨hS,hW hS⟩))
 ·rw [List.mem_singleton] at hk
  subst hk
  exact wpOp_step hj (fun K' hK=>h2 K' (fun a w hS hW=>hK a w ⟨hS,hW hS⟩))
end
end Go.Proofs.YtifgcfepbenpjaaGreat
namespace Go.Proofs.YtifgcfepbenpjaaGreat
section
variable {P:Program} {ops:Array Oper} {Q:Exit→Act→World→Prop} {md:Region.Mode} {S:World→Prop} {st:Nat}
theorem wpAnyG_take1 {i:Nat} {oi:Oper} {v:Value} {fuel:Nat} {listed:Array Bool} {a:Act} {w:World} (hi:ops[i]?=some oi)
  (hs:Region.noSelect ops=true) (hf:Region.free md ops listed i=true) (hr:(Region.ready md ops listed).contains i=true) (hw:depB md ops i 1 st=true) (hcl:closedB md ops listed=true) (hist:(i != st)=true)
  (hQ:∀ c a w,Q (.panic c) (a.put oi.dst v) w→Q (.panic c) a w) (hy:YieldsIf P ops S oi v a) (hS:S w)
  (h:wpAnyG P md ops Q S st fuel (listed.setIfInBounds i true) (a.put oi.dst v) w):wpAnyG P md ops Q S st (fuel + 1) listed a w :=
 wpAnyG_first hi (Region.noSelect_spec hs) 1 hw (bne_iff_ne.1 hist) hQ fuel listed a w (closed_of hcl) (Region.free_spec hi hf) (by simpa using hr) hy hS h
end
end Go.Proofs.YtifgcfepbenpjaaGreat
