/- Texts of the layers below, joined. -/
import Derived.Test.YtdbeiikaeccbhaaDa1
import Derived.Test.YtdbeiikaeccbhaaRows
import Derived.WalkKit
import Derived.WalkSpells
import Derived.WalkLawsBesides
import Derived.Lib.Hide
import Derived.Deep.Draws
import Derived.BigQuiet
import Derived.Deep.QuietTactic
import Derived.Maps.AppendAt
import Derived.Deep.AppendLies
import Derived.OpenShut
import Derived.Laws.BitsAllLaws
import Derived.Laws.ShiftsVarLaws
import Derived.WalkMore
import Derived.ScopeJumps
import Derived.Deep.LoopGhost
import Derived.Deep.RegionWith
import Derived.StillTailTactics
import Derived.Lib.QuoteBits
set_option maxRecDepth 100000
set_option maxHeartbeats 12800000
set_option linter.unusedVariables false
namespace Go.Proofs.Ytdbeiikaeccbhaa
open Go.RowKit
def Seq (w:World) (B:Nat) (A:Option Addr) (xs:List Value):Prop :=
 ∀ (j:Nat) (v:Value),xs[j]?=some v→∃ b o,A=some ⟨b,o,none⟩∧b < B∧w.cell? ⟨b,o + j,none⟩=some v
def ints (k:IntKind) (zs:List Int):List Value:=zs.map (Value.int k)
theorem ints_length (k:IntKind) (zs:List Int):(ints k zs).length=zs.length:=by simp [ints]
theorem ints_getD (k:IntKind) (zs:List Int) (j:Nat) (h:j < zs.length):(ints k zs)[j]?=some (.int k (zs.getD j 0)):=by simp [ints,h]
theorem ints_app (k:IntKind) (xs ys:List Int):ints k (xs ++ ys)=ints k xs ++ ints k ys:=by simp [ints]
theorem ints_one (k:IntKind) (zs:List Int):∀ u ∈ ints k zs,u.oneCell'=true:=by
 intro u hu
 obtain ⟨z,_,rfl⟩:=List.mem_map.1 hu
 rfl
section
variable {w w':World} {B B':Nat} {A:Option Addr} {xs ys:List Value}
theorem Seq.empty:Seq w B A []:=fun j v h=>by simp at h
theorem Seq.at_ (h:Seq w B A xs) (hne:0 < xs.length):∃ b o,A=some ⟨b,o,none⟩∧b < B∧∀ (j:Nat) (v:Value),xs[j]?=some v→w.cell? ⟨b,o + j,none⟩=some v:=by
 obtain ⟨b,o,rfl,hb,_⟩:=h 0 xs[0] (List.getElem?_eq_getElem hne)
 refine ⟨b,o,rfl,hb,fun j v hv=>?_⟩
 obtain ⟨b',o',e,_,hc⟩:=h j v hv
 cases e
 exact hc
theorem Seq.of {b o:Nat} (hb:b < B) (h:∀ (j:Nat) (v:Value),xs[j]?=some v→w.cell? ⟨b,o + j,none⟩=some v):Seq w B (some ⟨b,o,none⟩) xs :=
 fun j v hv=>⟨b,o,rfl,hb,h j v hv⟩
theorem Seq.int {k:IntKind} {zs:List Int} (h:Seq w B A (ints k zs)) {j:Nat} (hj:j < zs.length) :
  ∃ b o,A=some ⟨b,o,none⟩∧b < B∧w.cell? ⟨b,o + j,none⟩=some (.int k (zs.getD j 0)):=h j _ (ints_getD k zs j hj)
theorem Seq.keep (h:Seq w B A xs) (hk:∀ p:Addr,p.block < B→w'.cell? p=w.cell? p):Seq w' B A xs:=fun j v hv=>by
 obtain ⟨b,o,e,hb,hc⟩:=h j v hv
 exact ⟨b,o,e,hb,(hk _ hb).trans hc⟩
theorem Seq.more (h:Seq w B A xs) (hB:B≤B'):Seq w B' A xs:=fun j v hv=>by
 obtain ⟨b,o,e,hb,hc⟩:=h j v hv
 exact ⟨b,o,e,by omega,hc⟩
theorem Seq.below (h:Seq w B A xs) (hb:Below B w w'):Seq w' B A xs:=h.keep fun _ hp=>hb.cell hp
theorem Seq.alloc (h:Seq w B A xs) (hB:B≤w.heap.size) (o:Obj):Seq (w.alloc o) B A xs:=h.keep fun p hp=>World.cell?_alloc_lt w o p (by omega)
theorem Seq.own {base:Nat} {e:TypeId} {n c:Nat} (h:w.ownsRow base e 1 (.slice A n c) n xs):Seq w w.heap.size A xs:=by
 rcases h.2 with ⟨_,h0⟩ | ⟨g,cap,cur,hv,_,hg,_,_,_,_⟩
 ·have:xs=[]:=List.eq_nil_of_length_eq_zero (by have:=h.1;omega)
  subst this
  exact Seq.empty
 ·cases hv
  refine Seq.of (Array.getElem?_eq_some_iff.1 hg).1 fun j v hv=>?_
  have hc:=h.cells (g:=g) rfl j v hv
  have e:(⟨g,0,none⟩:Addr).add j=⟨g,0 + j,none⟩:=by unfold Addr.add;split <;> simp_all
  rwa [e] at hc
end
def IsRow (k:IntKind) (w:World) (a:Option Addr) (len cap:Nat) (zs:List Int):Prop :=
 (a=none∧len=0∧cap=0∧zs=[]) ∨
 ∃ x,a=some x∧len≤cap∧cap≤maxLen∧zs.length=cap∧(∀ i,i < zs.length→w.cell? (x.add i)=some (.int k (zs.getD i 0)))∧∀ n ∈ zs,(Lit.int k n).wf=true
theorem IsRow.read {k:IntKind} {w:World} {a:Option Addr} {len cap:Nat} {zs:List Int} (h:IsRow k w a len cap zs) :
  ∃ l:List Int,l.length=len∧len≤cap∧cap≤maxLen∧Seq w w.heap.size a (ints k l)∧∀ z ∈ l,(Lit.int k z).wf=true:=by
 rcases h with ⟨rfl,rfl,rfl,rfl⟩ | ⟨x,rfl,hl,hm,hz,hc,hw⟩
 ·exact ⟨[],rfl,Nat.le_refl _,by decide,Seq.empty,by simp⟩
 ·refine ⟨zs.take len,by simp;omega,hl,hm,?_,fun z hz=>hw z (List.mem_of_mem_take hz)⟩
  intro j v hv
  have hj:j < len∧j < zs.length:=by
   have:j < (ints k (zs.take len)).length:=by
    rcases Nat.lt_or_ge j (ints k (zs.take len)).length with h | h
    ·exact h
    ·rw [List.getElem?_eq_none h] at hv;cases hv
   simp [ints] at this
   omega
  have hv':v=.int k (zs.getD j 0):=by
   have e:=ints_getD k (zs.take len) j (by simp;omega)
   rw [e] at hv
   injection hv with hv
   rw [← hv]
   simp [hj.1]
  subst hv'
  obtain ⟨b,o,spot⟩:=x
  have h0:=hc 0 (by omega)
  have hs:spot=none:=by simpa [Addr.add] using World.cell?_spot h0
  subst hs
  have hcj:=hc j hj.2
  have e:(⟨b,o,none⟩:Addr).add j=⟨b,o + j,none⟩:=by unfold Addr.add;split <;> simp_all
  rw [e] at hcj
  exact ⟨b,o,rfl,World.block_lt_of_cell? w _ hcj,hcj⟩
def Blk (w:World) (g:Nat) (t:TypeId) (cs:List Value):Prop:=w.heap[g]?=some (.cells cs.toArray t (0,0))
section
variable {w w':World} {g:Nat} {t:TypeId} {cs:List Value}
theorem Blk.lt (h:Blk w g t cs):g < w.heap.size:=(Array.getElem?_eq_some_iff.1 h).1
theorem Blk.cell (h:Blk w g t cs) (i:Nat):w.cell? ⟨g,i,none⟩=cs[i]?:=by
 have:=cell_of_row w g i cs.toArray t (0,0) h
 simpa using this
theorem Blk.free (h:Blk w g t cs) (i:Nat):w.frozen? ⟨g,i,none⟩=false:=by
 unfold Blk at h
 simp [World.frozen?,h]
theorem Blk.set (h:Blk w g t cs) (i:Nat) (u:Value):Blk (w.setCell ⟨g,i,none⟩ u) g t (cs.set i u):=by
 unfold Blk at h ⊢
 simp [World.setCell,Array.getElem?_modify,h]
theorem Blk.ty {t':TypeId} {cs':List Value} (h:Blk w g t cs) (h':Blk w g t' cs'):t=t':=by
 unfold Blk at h h'
 rw [h] at h'
 injection h' with h'
 injection h' with _ e
theorem Blk.grown {row:Option Nat} (h:Blk w g t cs) (hb:w.grownBy w' row) (hg:some g≠row):Blk w' g t cs:=(hb.block g h.lt hg).trans h
theorem Blk.below {B:Nat} (h:Blk w g t cs) (hb:Below B w w') (hg:g < B):Blk w' g t cs:=(hb.block g hg).trans h
theorem Blk.seq (h:Blk w g t cs) (o n:Nat):Seq w (g + 1) (some ⟨g,o,none⟩) ((cs.drop o).take n):=fun j v hv=>by
 refine ⟨g,o,rfl,by omega,?_⟩
 rw [h.cell]
 rw [List.getElem?_take] at hv
 split at hv
 ·rwa [List.getElem?_drop] at hv
 ·cases hv
end
theorem Blk.owns {w:World} {g:Nat} {t:TypeId} {cs:List Value} (h:Blk w g t cs) {base n:Nat} (hb:base≤g) (hn:cs.length=n) (hm:n≤maxLen):w.ownsRow base t 1 (.slice (some ⟨g,0,none⟩) n n) n cs :=
 ⟨by omega,.inr ⟨g,n,cs.toArray,rfl,hb,h,Nat.le_refl _,hm,by simp [hn],by simp [← hn]⟩⟩
theorem below_of_grown {w w':World} (h:w.grownBy w' none):Below w.heap.size w w':=(Below.refl _ _).grown h (Nat.le_refl _) (fun _ e=>by cases e)
def RowOut (k:IntKind) (t:TypeId) (w:World) (zs:List Int) (E:Int) (e:Ending) (w':World):Prop :=
 ∃ A c,e=.returned (.tuple #[.slice A zs.length c,.int .i64 E])∧w'.ownsRow w.heap.size t 1 (.slice A zs.length c) zs.length (ints k zs)∧Below w.heap.size w w'
theorem RowOut.len {k:IntKind} {t:TypeId} {w:World} {zs zs':List Int} {E:Int} {e:Ending} {w':World} (h:RowOut k t w zs E e w') {n:Nat} (hz:zs=zs') (hn:zs'.length=n) :
  ∃ A c,e=.returned (.tuple #[.slice A n c,.int .i64 E])∧w'.ownsRow w.heap.size t 1 (.slice A n c) n (ints k zs')∧Below w.heap.size w w':=by
 subst hz;subst hn;exact h
theorem RowOut.nil (k:IntKind) (t:TypeId) (w:World) (E:Int):RowOut k t w [] E (.returned (.tuple #[.slice none 0 0,.int .i64 E])) w :=
 ⟨none,0,rfl,World.ownsRow_nil _ _ _ _,Below.refl _ _⟩
theorem _root_.Go.World.grownBy.weak {w w':World} {row row':Option Nat} (h:w.grownBy w' row) (hr:∀ k,row=some k→k < w.heap.size→row'=some k):w.grownBy w' row' :=
 ⟨h.os,h.tape,h.output,h.size,fun k hk he=>h.block k hk (fun e=>he (hr k e.symm hk).symm)⟩
theorem grownBy_drew {w wr:World} {row:Option Nat} (h:w.grownBy wr row):w.grownBy wr.drew row:=⟨h.os,h.tape,h.output,h.size,h.block⟩
theorem grownBy_set (w:World) (g i:Nat) (u:Value):w.grownBy (w.setCell ⟨g,i,none⟩ u) (some g) :=
 ⟨rfl,rfl,rfl,by simp [World.setCell],fun k _ hk=>Below.heap_setCell w _ u k (fun e=>hk (by rw [e]))⟩
theorem grownBy_trans {a b c:World} {row:Option Nat} (h:a.grownBy b row) (k:b.grownBy c row):a.grownBy c row :=
 ⟨k.os.trans h.os,k.tape.trans h.tape,k.output.trans h.output,Nat.le_trans h.size k.size,fun i hi hr=>(k.block i (by have:=h.size;omega) hr).trans (h.block i hi hr)⟩
theorem grownBy_refl (w:World) (row:Option Nat):w.grownBy w row:=⟨rfl,rfl,rfl,Nat.le_refl _,fun _ _ _=>rfl⟩
def rep (n:Nat) (z:Value):Array Value:=(List.replicate n z).toArray
theorem run_make1 {P:Program} (t e:TypeId) (i:TypeInfo) (z:Value) (ht:P.underlying t=some (.slice e)) (hi:P.info? e=some i) (hz:i.zero=some z) (h1:i.size=1) (hzc:z.cells=#[z])
  (n:Nat) (hb:i.bytes * n≤281474976710656) (hm:n≤maxLen) (w:World) :
  (Instr.makeSlice t (.int .i64 (n:Int)) (.int .i64 (n:Int))).run P w=.ok (.slice (some ⟨w.heap.size,0,none⟩) n n) (w.alloc (.cells (rep n z) e)):=by
 have hm':(n:Int)≤9223372036854775807:=by simp only [maxLen] at hm;omega
 have hb':(i.bytes:Int) * (n:Int)≤281474976710656:=by
  have h:((i.bytes * n:Nat):Int)≤281474976710656:=by omega
  rwa [Int.natCast_mul] at h
 have hr:=run_make (P:=P) w t e i z ht hi hz .i64 .i64 n n (by omega) (Int.le_refl _) hb' hm'
 simp only [Int.toNat_natCast,h1,Nat.mul_one,hzc] at hr
 rw [hr]
 have he:madeCells #[z] n=rep n z:=by
  have:=toList_madeCells_one z n
  rw [rep,← this]
 rw [he]
theorem Blk.new (w:World) (t:TypeId) (cs:List Value):Blk (w.alloc (.cells cs.toArray t)) w.heap.size t cs:=heap_alloc_new w _
theorem grown_of_below {w w':World} (h:Below w.heap.size w w'):w.grownBy w' none:=⟨h.os,h.tape,h.output,h.size,fun k hk _=>h.block k hk⟩
theorem owns_below {w w':World} {base:Nat} {e:TypeId} {size:Nat} {v:Value} {n:Nat} {xs:List Value} (h:w.ownsRow base e size v n xs) (hb:Below w.heap.size w w'):w'.ownsRow base e size v n xs :=
 h.kept (grown_of_below hb) (by cases v.ownBlock <;> simp)
theorem run_app {P:Program} (w:World) (base:Nat) (t ty e:TypeId) (i:TypeInfo) (z:Value) (bytes:Nat) (ht:P.underlying t=some (.slice e)) (hi:P.info? e=some i) (hz:i.zero=some z)
  (hsize:i.size=1) (hby:i.bytes=bytes) (hzs:z.cells.size=1) (v:Value) (n:Nat) (xs:List Value) (hown:w.ownsRow base e 1 v n xs)
  (B:Nat) (A:Option Addr) (m c:Nat) (news:List Value) (hl:news.length=m) (hr:Seq w B A news) (h1:∀ u ∈ news,u.oneCell'=true)
  (h63:n + m≤maxLen) (hbytes:(n + m) * bytes≤140737488355328) (hbase:base≤w.heap.size) :
  ∃ v' w',(Builtin.append_ #[t,t] ty #[v,.slice A m c]).run P w=.ok v' w'∧w'.ownsRow base e 1 v' (n + m) (xs ++ news)∧w.grownBy w' v.ownBlock∧(v'.ownBlock=v.ownBlock∨v'.ownBlock=some w.heap.size):=by
 cases A with
 | none =>
  have hm:news=[]:=by
   cases news with
   | nil=>rfl
   | cons x r=>obtain ⟨_,_,e,_⟩:=hr 0 x rfl;cases e
  subst hm
  have hm0:m=0:=by simpa using hl.symm
  subst hm0
  refine ⟨v,w,?_,by simpa using hown,grownBy_refl _ _,.inl rfl⟩
  rcases hown.2 with ⟨rfl,rfl⟩ | ⟨g,cap,cur,rfl,_,_,hnc,_⟩
  ·simp [Builtin.append_,run_underlying ht,sizeOf,typeInfo,hi,Builtin.lenOf,Builtin.firstCells]
  ·simp [Builtin.append_,run_underlying ht,sizeOf,typeInfo,hi,Builtin.lenOf,Builtin.firstCells,hnc,storeCells]
 | some a =>
  have hcs:∀ j u,news[j]?=some u→w.cell? (a.add j)=some u:=by
   intro j u hu
   obtain ⟨b,o,e,_,hc⟩:=hr j u hu
   injection e with e
   subst e
   have e2:(⟨b,o,none⟩:Addr).add j=⟨b,o + j,none⟩:=by unfold Addr.add;split <;> simp_all
   rw [e2];exact hc
  obtain ⟨v',w',h,h2,h3,_,h5⟩:=run_append_own_at (P:=P) w base t ty e i z 1 bytes ht hi hz hsize hby hzs (by omega) v n xs hown a m c news (by omega) hcs h1 h63 hbytes hbase
  exact ⟨v',w',h,h2,h3,h5⟩
theorem wpList_app {P:Program} (w:World) {ops:Array Oper} {rest:List Oper} {o:Oper} {a:Act} {Q:Exit→Act→World→Prop} (hgd:o.guard=none) (s x:Operand) (t:TypeId)
  (ho:o.op=.call { callee:=.builtin .append,args:=#[s,x],argTypes:=#[t,t] })
  (base:Nat) (e:TypeId) (i:TypeInfo) (z:Value) (bytes:Nat) (ht:P.underlying t=some (.slice e)) (hi:P.info? e=some i) (hz:i.zero=some z)
  (hsize:i.size=1) (hby:i.bytes=bytes) (hzs:z.cells.size=1) (v:Value) (n:Nat) (xs:List Value) (hs:a.eval s=v) (hown:w.ownsRow base e 1 v n xs)
  (B:Nat) (A:Option Addr) (m c:Nat) (news:List Value) (hx:a.eval x=.slice A m c) (hl:news.length=m) (hr:Seq w B A news) (h1:∀ u ∈ news,u.oneCell'=true)
  (h63:n + m≤maxLen) (hbytes:(n + m) * bytes≤140737488355328) (hbase:base≤w.heap.size)
  (h:∀ v' w',w'.ownsRow base e 1 v' (n + m) (xs ++ news)→w.grownBy w' v.ownBlock→(v'.ownBlock=v.ownBlock∨v'.ownBlock=some w.heap.size)→wpList P ops Q rest (a.put o.dst v') w'):wpList P ops Q (o :: rest) a w:=by
 refine wpList_plain hgd fun K hK=>?_
 obtain ⟨v',w',hrun,h2,h3,h4⟩:=run_app (P:=P) w base t o.type e i z bytes ht hi hz hsize hby hzs v n xs hown B A m c news hl hr h1 h63 hbytes hbase
 unfold Oper.wp execOp
 simp only [ho,resolve,invoke,builtin,Sem.run_bind,Sem.run_pure,Result.andThen_ok,List.map_toArray,List.map_cons,List.map_nil,hs,hx,hrun]
 exact hK _ _ (h v' w' h2 h3 h4)
theorem owns_base {w:World} {base base':Nat} {e:TypeId} {size:Nat} {v:Value} {n:Nat} {xs:List Value} (h:w.ownsRow base e size v n xs) (hb:base'≤base):w.ownsRow base' e size v n xs:=by
 refine ⟨h.1,?_⟩
 rcases h.2 with h2 | ⟨g,cap,cur,hv,hg,r⟩
 ·exact .inl h2
 ·exact .inr ⟨g,cap,cur,hv,Nat.le_trans hb hg,r⟩
theorem owns_slice {w:World} {base:Nat} {e:TypeId} {v:Value} {n:Nat} {xs:List Value} (h:w.ownsRow base e 1 v n xs):∃ A c,v=.slice A n c:=by
 rcases h.2 with ⟨rfl,rfl⟩ | ⟨g,cap,cur,rfl,_⟩
 ·exact ⟨_,_,rfl⟩
 ·exact ⟨_,_,rfl⟩
theorem run_str {P:Program} (w:World) (src dst e:TypeId) (hs:P.underlying src=some (.slice e)) (he:P.underlying e=some (.int .u8)) (hd:P.underlying dst=some .string) {B:Nat} {A:Option Addr} {n c:Nat} {zs:List Int}
  (h:Seq w B A (ints .u8 zs)) (hl:zs.length=n):(convert src dst (.slice A n c)).run P w=.ok (.string (strOfNums zs)) w:=by
 cases A with
 | none =>
  have hz:zs=[]:=by
   cases zs with
   | nil=>rfl
   | cons x r=>obtain ⟨_,_,e,_⟩:=h 0 _ rfl;cases e
  subst hz
  have:n=0:=by simpa using hl.symm
  subst this
  exact run_convert_bytes_nil w src e hs he 0 c dst hd
 | some a =>
  rcases Nat.eq_zero_or_pos n with h0 | h0
  ·subst h0
   have hz:zs=[]:=List.eq_nil_of_length_eq_zero hl
   subst hz
   obtain ⟨b,o,s⟩:=a
   have hr:(loadCells ⟨b,o,s⟩ 0).run P w=.ok (([]:List Int).map (Value.int .u8)).toArray w:=run_loadCells_list (P:=P) w ⟨b,o,s⟩ [] (fun j v hj=>by simp at hj)
   rw [run_convert_bytes_string w src dst e _ 0 c hs he hd,run_bytesToString w _ 0 c [] hr]
   rfl
  ·obtain ⟨b,o,e',_,hc⟩:=h.at_ (by rw [ints_length];omega)
   rw [e']
   exact run_convert_bytes_arg w src e hs he b o n c zs hl (fun i hi=>by
    have:=hc i _ (ints_getD .u8 zs i (by omega))
    exact this) dst hd
theorem wpList_dup {P:Program} (w:World) {ops:Array Oper} {rest:List Oper} {o:Oper} {a:Act} {Q:Exit→Act→World→Prop} (hgd:o.guard=none) (s x:Operand) (t:TypeId)
  (ho:o.op=.call { callee:=.builtin .append,args:=#[s,x],argTypes:=#[t,t] })
  (e:TypeId) (i:TypeInfo) (z:Value) (bytes:Nat) (ht:P.underlying t=some (.slice e)) (hi:P.info? e=some i) (hz:i.zero=some z)
  (hsize:i.size=1) (hby:i.bytes=bytes) (hzs:z.cells.size=1) (hs:a.eval s=.slice (some ⟨w.heap.size,0,none⟩) 0 0)
  (A:Option Addr) (m c:Nat) (news:List Value) (hx:a.eval x=.slice A m c) (hl:news.length=m) (hr:Seq w w.heap.size A news) (h1:∀ u ∈ news,u.oneCell'=true)
  (h63:m≤maxLen) (hbytes:m * bytes≤140737488355328)
  (h:∀ A' c' w',w'.ownsRow w.heap.size e 1 (.slice A' m c') m news→Below w.heap.size w w'→wpList P ops Q rest (a.put o.dst (.slice A' m c')) w'):wpList P ops Q (o :: rest) a (w.alloc (.cells #[] e)):=by
 have hlit:(w.alloc (.cells #[] e)).ownsRow w.heap.size e 1 (.slice (some ⟨w.heap.size,0,none⟩) 0 0) 0 []:=World.ownsRow_lit w #[] 0 (Nat.le_refl _) (by decide) rfl
 refine wpList_app _ hgd s x t ho w.heap.size e i z bytes ht hi hz hsize hby hzs _ 0 [] hs hlit w.heap.size A m c news hx hl (hr.alloc (Nat.le_refl _) _) h1 (by omega) (by rw [Nat.zero_add];exact hbytes) (by simp) ?_
 intro v' w' hown hg _
 rw [Nat.zero_add,List.nil_append] at hown
 obtain ⟨A',c',rfl⟩:=owns_slice hown
 exact h A' c' w' hown (((Below.refl _ _).alloc (Nat.le_refl _) _).grown hg (by simp) (fun g e=>by have e:some w.heap.size=some g:=e;injection e with e;omega))
theorem owns_at {w:World} {base:Nat} {e:TypeId} {A:Option Addr} {n c k:Nat} {xs:List Value} (h:w.ownsRow base e 1 (.slice A n c) n xs) (hk:k < n) :
  ∃ g v,A=some ⟨g,0,none⟩∧base≤g∧w.cell? ⟨g,k,none⟩=some v∧w.frozen? ⟨g,k,none⟩=false∧∀ u,(w.setCell ⟨g,k,none⟩ u).ownsRow base e 1 (.slice A n c) n (xs.set k u):=by
 have hl:=h.1
 rcases h.2 with ⟨_,h0⟩ | ⟨g,cap,cur,hv,hb,_⟩
 ·omega
 ·cases hv
  have hkl:k < xs.length:=by omega
  exact ⟨g,xs[k],rfl,hb,by rw [h.cellAt k (by omega),geE hkl],h.frozenAt k,fun u=>(h.stored k u).1⟩
theorem owns_int_at {w:World} {base:Nat} {e:TypeId} {A:Option Addr} {n c j:Nat} {k:IntKind} {zs:List Int} (h:w.ownsRow base e 1 (.slice A n c) n (ints k zs)) (hj:j < n) :
  ∃ g,A=some ⟨g,0,none⟩∧base≤g∧w.cell? ⟨g,j,none⟩=some (.int k (zs.getD j 0))∧w.frozen? ⟨g,j,none⟩=false∧∀ x,(w.setCell ⟨g,j,none⟩ (.int k x)).ownsRow base e 1 (.slice A n c) n (ints k (zs.set j x)):=by
 have hl:=h.1
 rw [ints_length] at hl
 obtain ⟨g,v,rfl,hb,hc,hf,hset⟩:=owns_at h hj
 refine ⟨g,rfl,hb,?_,hf,fun x=>?_⟩
 ·have:=h.cellAt j (by omega)
  rw [this,ints_getD k zs j (by omega)]
 ·have:=hset (.int k x)
  rwa [show (ints k zs).set j (.int k x)=ints k (zs.set j x) from by simp [ints,List.map_set]] at this
theorem _root_.Go.World.ownsRow.allocated {w:World} {base:Nat} {e:TypeId} {size:Nat} {v:Value} {n:Nat} {xs:List Value} (h:w.ownsRow base e size v n xs) (o:Obj):(w.alloc o).ownsRow base e size v n xs :=
 owns_below h ((Below.refl _ _).alloc (Nat.le_refl _) o)
end Go.Proofs.Ytdbeiikaeccbhaa
namespace Go.Proofs.Ytdbeiikaeccbhaa
open Go.RowKit Go.OpenShut
structure Arg (w:World) (k:IntKind) (A:Option Addr) (n c:Nat) (zs:List Int):Prop where
 seq:Seq w w.heap.size A (ints k zs)
 len:zs.length=n
 cap:n≤c
 max:c≤maxLen
theorem Arg.below {w w':World} {k:IntKind} {A:Option Addr} {n c:Nat} {zs:List Int} (h:Arg w k A n c zs) (hb:Below w.heap.size w w'):Arg w' k A n c zs :=
 ⟨(h.seq.below hb).more hb.size,h.len,h.cap,h.max⟩
theorem Arg.nil (w:World) (k:IntKind):Arg w k none 0 0 []:=⟨Seq.empty,rfl,Nat.le_refl _,by decide⟩
theorem Arg.own {w:World} {k:IntKind} {base:Nat} {t:TypeId} {A:Option Addr} {n c:Nat} {zs:List Int} (h:w.ownsRow base t 1 (.slice A n c) n (ints k zs)):Arg w k A n c zs:=by
 refine ⟨Seq.own h,by have:=h.1;rw [ints_length] at this;omega,?_,?_⟩
 ·rcases h.2 with ⟨e,rfl⟩ | ⟨g,cap,cur,e,_,_,h1,h2,_⟩ <;> cases e
  ·exact Nat.le_refl _
  ·exact h1
 ·rcases h.2 with ⟨e,rfl⟩ | ⟨g,cap,cur,e,_,_,h1,h2,_⟩ <;> cases e
  ·decide
  ·exact h2
theorem IsRow.arg {k:IntKind} {w:World} {a:Option Addr} {len cap:Nat} {zs:List Int} (h:IsRow k w a len cap zs):∃ l:List Int,Arg w k a len cap l∧∀ z ∈ l,(Lit.int k z).wf=true:=by
 obtain ⟨l,h1,h2,h3,h4,h5⟩:=h.read
 exact ⟨l,⟨h4,h1,h2,h3⟩,h5⟩
theorem wf_byte {z:Int} (h:(Lit.int .u8 z).wf=true):isByte z:=by
 have:=bounds_u8 h
 exact ⟨this.1,by omega⟩
theorem byte_info:(Try.prog.info? 5).map (fun i=>(i.zero,i.size,i.bytes))=some (some (.int .u8 0),1,1):=by kernel_rfl
theorem byte_size:(Try.prog.info? 5).map (·.size)=some 1:=by kernel_rfl
end Go.Proofs.Ytdbeiikaeccbhaa
namespace Go.Proofs.Ytdbeiikaeccbhaa
open Go.RowKit
set_option maxRecDepth 100000
theorem many_yes (n:Int) (w:World) (h1:1≤n) (h2:n≤16):Calls Try.prog 46 #[.int .i64 n] w fun e w'=>e=.returned (.bool true)∧w=w':=by
 go_enter Try.func46,Try.ntmps46
 go_wp2
 go_ret
 exact ⟨rfl,rfl⟩
theorem many_no (n:Int) (w:World) (h:¬ (1≤n∧n≤16)):Calls Try.prog 46 #[.int .i64 n] w fun e w'=>e=.returned (.bool false)∧w=w':=by
 by_cases h1:n < 1
 ·clear h
  go_enter Try.func46,Try.ntmps46
  go_wp2
  go_ret
  exact ⟨rfl,rfl⟩
 ·have h2:16 < n:=by omega
  have h3:1≤n:=by omega
  clear h h1
  go_enter Try.func46,Try.ntmps46
  go_wp2
  go_ret
  exact ⟨by simp;omega,rfl⟩
theorem pages_any (m:Nat) (w:World) (h1:1≤m) (h2:m≤16):Calls Try.prog 47 #[.int .i64 (m:Int)] w fun e w'=>e=.returned (.int .i64 (pgs m:Nat))∧w=w':=by
 go_enter Try.func47,Try.ntmps47
 go_wp2
 go_ret
 exact ⟨by unfold pgs;go_num,rfl⟩
theorem track_yes (n t:Int) (w:World) (h1:0≤t) (h2:t < n):Calls Try.prog 48 #[.int .i64 n,.int .i64 t] w fun e w'=>e=.returned (.bool true)∧w=w':=by
 go_enter Try.func48,Try.ntmps48
 go_wp2
 go_ret
 exact ⟨rfl,rfl⟩
theorem track_no (n t:Int) (w:World) (h:¬ (0≤t∧t < n)):Calls Try.prog 48 #[.int .i64 n,.int .i64 t] w fun e w'=>e=.returned (.bool false)∧w=w':=by
 by_cases h1:t < 0
 ·clear h
  go_enter Try.func48,Try.ntmps48
  go_wp2
  go_ret
  exact ⟨rfl,rfl⟩
 ·have h2:n≤t:=by omega
  have h3:0≤t:=by omega
  clear h h1
  go_enter Try.func48,Try.ntmps48
  go_wp2
  go_ret
  exact ⟨by simp;omega,rfl⟩
theorem bit_any (t:Nat) (w:World) (h:t < 16):Calls Try.prog 74 #[.int .i64 (t:Int)] w fun e w'=>e=.returned (.int .u8 ((2 ^ (t % 8):Nat):Int))∧w=w':=by
 go_enter Try.func74,Try.ntmps74
 go_wp2
 go_ret
 have hp:=pow_lt t
 have e:((2:Int) ^ (t % 8))=((2 ^ (t % 8):Nat):Int):=by simp
 rw [e]
 obtain ⟨y,hy⟩:∃ y,y=2 ^ (t % 8):=⟨_,rfl⟩
 rw [← hy] at hp ⊢
 exact ⟨by go_num,rfl⟩
theorem and_bit {x i:Nat}:(x &&& 2 ^ i != 0)=x.testBit i:=by
 cases hx:x.testBit i
 ·have:x &&& 2 ^ i=0:=Nat.eq_of_testBit_eq fun j=>by
   rw [Nat.testBit_and,Nat.testBit_two_pow,Nat.zero_testBit]
   by_cases e:i=j
   ·subst e;simp [hx]
   ·simp [e]
  simp [this]
 ·have:x &&& 2 ^ i≠0:=fun e=>by
   have:=congrArg (fun y=>y.testBit i) e
   simp [hx] at this
  simp [this]
theorem u8_and_bit {x i:Nat} (hx:x < 256) (hp:2 ^ i < 256):(bits .and .u8 (x:Int) ((2 ^ i:Nat):Int) != 0)=x.testBit i:=by
 rw [u8_and_nat x _ hx hp,← and_bit]
 generalize x &&& 2 ^ i=y
 cases y <;> rfl
theorem b_has_any (A:Option Addr) (n c:Nat) (l:List Int) (t:Nat) (w:World) (B:Nat) (h:Seq w B A (ints .u8 l)) (hl:l.length=n) (hb:∀ z ∈ l,isByte z) (ht:t < 16) (htn:t / 8 < n) :
  Calls Try.prog 43 #[.slice A n c,.int .i64 (t:Int)] w fun e w'=>e=.returned (.bool (hasT l t))∧∃ q,w'=w.drewN q:=by
 subst hl
 obtain ⟨b,o,rfl,hlt,hc⟩:=h.int htn
 rw [pg_cast hb] at hc
 have hp:=pow_lt t
 have hx:=pg_lt hb (t / 8)
 have hv:=u8_and_bit hx hp
 have hE:hasT l t=(pg l (t / 8)).testBit (t % 8):=rfl
 rw [hE]
 have G:=Lh (fun q=>(bit_any t (w.drewN q) ht).mono fun e w'' (h:e=.returned (.int .u8 ((2 ^ (t % 8):Nat):Int))∧w.drewN q=w'')=>(⟨h.1,h.2.symm⟩:e=.returned (.int .u8 ((2 ^ (t % 8):Nat):Int))∧w''=w.drewN q))
 obtain ⟨x,hxe⟩:∃ x,x=pg l (t / 8):=⟨_,rfl⟩
 obtain ⟨y,hye⟩:∃ y,y=2 ^ (t % 8):=⟨_,rfl⟩
 obtain ⟨r,hre⟩:∃ r,r=x.testBit (t % 8):=⟨_,rfl⟩
 rw [← hxe] at hc hv hx ⊢
 rw [← hye] at hv hp G
 rw [← hre] at hv ⊢
 obtain ⟨k,hk⟩:∃ k:Nat,k=t / 8:=⟨_,rfl⟩
 rw [← hk] at hc htn
 have hk2:(t:Int) / 8=(k:Int):=by omega
 clear hxe hye hre h hb hE hk
 go_enter Try.func43,Try.ntmps43
 go_wp2
 go_quiet ((first | (go_at_call 74;exact Calls.quiet_of_same (G.out _))))
 go_wp2
 go_ret
 exact ⟨rfl,_,rfl⟩
theorem mark_any (base:Nat) (A:Option Addr) (n c:Nat) (l:List Int) (t:Nat) (w:World) (h:w.ownsRow base 5 1 (.slice A n c) n (ints .u8 l)) (hb:∀ z ∈ l,isByte z) (ht:t < 16) (htn:t / 8 < n) :
  Calls Try.prog 49 #[.slice A n c,.int .i64 (t:Int)] w fun e w'=>e=.returned (.tuple #[])∧w'.ownsRow base 5 1 (.slice A n c) n (ints .u8 (markL l t))∧w.grownBy w' (Value.slice A n c).ownBlock:=by
 obtain ⟨g,rfl,hbg,hc,hf,hset⟩:=owns_int_at h htn
 rw [pg_cast hb] at hc
 have hp:=pow_lt t
 have hx:=pg_lt hb (t / 8)
 have hv:=u8_or_nat _ _ hx hp
 have hE:markL l t=l.set (t / 8) ((pg l (t / 8) ||| 2 ^ (t % 8):Nat):Int):=rfl
 rw [hE]
 have T:=bit_any t w.drew ht
 have hset:=hset ((pg l (t / 8) ||| 2 ^ (t % 8):Nat):Int)
 obtain ⟨x,hxe⟩:∃ x,x=pg l (t / 8):=⟨_,rfl⟩
 obtain ⟨y,hye⟩:∃ y,y=2 ^ (t % 8):=⟨_,rfl⟩
 rw [← hxe,← hye] at hv hset ⊢
 rw [← hxe] at hc hx
 rw [← hye] at hp T
 obtain ⟨r,hre⟩:∃ r,r=x ||| y:=⟨_,rfl⟩
 rw [← hre] at hv hset ⊢
 have hset2:(w.drew.setCell ⟨g,t / 8,none⟩ (.int .u8 (r:Int))).ownsRow base 5 1 (.slice (some ⟨g,0,none⟩) n c) n (ints .u8 (l.set (t / 8) (r:Int))):=hset
 obtain ⟨k,hk⟩:∃ k:Nat,k=t / 8:=⟨_,rfl⟩
 rw [← hk] at hc htn hf hset2 ⊢
 have hk2:(t:Int) / 8=(k:Int):=by omega
 have T:=Lh (T.mono fun e w'' (h:e=.returned (.int .u8 (y:Int))∧w.drew=w'')=>(⟨h.1,h.2.symm⟩:e=.returned (.int .u8 (y:Int))∧w''=w.drew))
 have SET:=Lh hset2
 have hwr:IntKind.i64.wrap (k:Int)=k:=Lib.wrap_i64_small k (by omega)
 have hkn:(k:Int) < (n:Int):=by omega
 clear hxe hye hre h hb hE hk hset hset2
 go_enter Try.func49,Try.ntmps49
 go_wp2
 refine wp_region_still_tail 9 (by kernel_rfl) (by kernel_rfl) ?_
 simp only [List.take_succ_cons,List.take_zero,List.drop_succ_cons,List.drop_zero]
 repeat still_step
 still_call T.out
 repeat still_step
 try refine wpStill_nil ?_
 change wpList _ _ _ _ _ w.drew
 go_wp2
 go_end0
 exact ⟨rfl,SET.out,grownBy_trans (grownBy_drew (grownBy_refl w _)) (grownBy_set _ _ _ _)⟩
theorem check_many (n:Int) (A:Option Addr) (k c:Nat) (w:World) (h:¬ (1≤n∧n≤16)) :
  Calls Try.prog 45 #[.int .i64 n,.slice A k c] w fun e w'=>e=.returned (.int .i64 2)∧w=w':=by
 have M:=Lh (many_no n w h)
 clear h
 go_enter Try.func45,Try.ntmps45
 go_wp2_with fail
 refine M.out.mono ?_
 rintro e w' ⟨rfl,rfl⟩
 go_wp2
 go_ret
 exact ⟨rfl,rfl⟩
theorem check_len (m:Nat) (A:Option Addr) (k c:Nat) (w:World) (h1:1≤m) (h2:m≤16) (hk:k≠pgs m) :
  Calls Try.prog 45 #[.int .i64 (m:Int),.slice A k c] w fun e w'=>e=.returned (.int .i64 8)∧w=w':=by
 have M:=Lh (many_yes m w (by omega) (by omega))
 have P:=pages_any m w h1 h2
 obtain ⟨p,hp⟩:∃ p,p=pgs m:=⟨_,rfl⟩
 rw [← hp] at P hk
 have P:=Lh P
 have hne:¬ (k:Int)=p:=by omega
 clear hp
 go_enter Try.func45,Try.ntmps45
 go_wp2_with fail
 refine M.out.mono ?_
 rintro e w' ⟨rfl,rfl⟩
 go_wp2_with fail
 refine P.out.mono ?_
 rintro e w' ⟨rfl,rfl⟩
 go_wp2
 go_ret
 exact ⟨rfl,rfl⟩
theorem check_last (m:Nat) (A:Option Addr) (k c:Nat) (l:List Int) (w:World) (B:Nat) (h:Seq w B A (ints .u8 l)) (hl:l.length=k) (hb:∀ z ∈ l,isByte z) (h1:1≤m) (h2:m≤16) (hk:k=pgs m) :
  Calls Try.prog 45 #[.int .i64 (m:Int),.slice A k c] w fun e w'=>e=.returned (.int .i64 (if may m l then 0 else 8))∧w=w':=by
 have M:=Lh (many_yes m w (by omega) (by omega))
 have P:=pages_any m w h1 h2
 have hp0:1≤pgs m∧8 * (pgs m - 1) < m∧m≤8 * pgs m:=by unfold pgs;omega
 have hmay:may m l↔pg l (pgs m - 1) / 2 ^ (m - 8 * (pgs m - 1))=0:=by
  unfold may;exact ⟨fun h=>h.2,fun h=>⟨hl.trans hk,h⟩⟩
 obtain ⟨b,o,rfl,hlt,hc⟩:=h.int (j:=pgs m - 1) (by omega)
 rw [pg_cast hb] at hc
 have hx:=pg_lt hb (pgs m - 1)
 obtain ⟨p,hp⟩:∃ p,pgs m=p + 1:=⟨pgs m - 1,by omega⟩
 rw [hp] at P hk hp0 hmay hc hx
 rw [Nat.add_sub_cancel] at hmay hc hx hp0
 rw [← hp] at hp0
 obtain ⟨x,hxe⟩:∃ x,x=pg l p:=⟨_,rfl⟩
 rw [← hxe] at hmay hc hx
 subst hk
 obtain ⟨d,hd⟩:∃ d,m=8 * p + d:=⟨m - 8 * p,by omega⟩
 rw [show m - 8 * p=d from by omega] at hmay
 have P:=Lh P
 have HM:=Lh hmay
 have hl0:(0:Int)≤x:=by omega
 have hx2:(x:Int) < 256:=by omega
 have hp16:p < 2:=by omega
 have hd2:(m:Int) - (p:Int) * 8=(d:Int):=by omega
 have hd8:d≤8:=by omega
 have hd1:1≤d:=by omega
 clear hmay h hb hl hxe hx hp0 hp hd
 obtain ⟨y,hy⟩:∃ y:Nat,x / 2 ^ d=y:=⟨_,rfl⟩
 rw [hy] at HM
 have hsh:(x:Int) / 2 ^ (d:Int).toNat=(y:Int):=by rw [← hy];simp
 have hsh2:(x:Int) / 2 ^ d=(y:Int):=by rw [← hy];simp
 clear hy
 by_cases hy0:y=0
 ·rw [if_pos (HM.out.2 hy0)]
  subst hy0
  clear HM
  go_enter Try.func45,Try.ntmps45
  go_wp2_with fail
  refine M.out.mono ?_
  rintro e w' ⟨rfl,rfl⟩
  go_wp2_with fail
  refine P.out.mono ?_
  rintro e w' ⟨rfl,rfl⟩
  go_wp2
  go_ret
  exact ⟨rfl,rfl⟩
 ·rw [if_neg (fun h=>hy0 (HM.out.1 h))]
  have hyn:((y:Int) != 0)=true:=by rw [bne_iff_ne];omega
  clear HM hy0
  go_enter Try.func45,Try.ntmps45
  go_wp2_with fail
  refine M.out.mono ?_
  rintro e w' ⟨rfl,rfl⟩
  go_wp2_with fail
  refine P.out.mono ?_
  rintro e w' ⟨rfl,rfl⟩
  go_wp2
  go_ret
  exact ⟨rfl,rfl⟩
theorem b_check_any (n:Int) (A:Option Addr) (k c:Nat) (l:List Int) (w:World) (h:Arg w .u8 A k c l) (hb:∀ z ∈ l,isByte z) :
  Calls Try.prog 45 #[.int .i64 n,.slice A k c] w fun e w'=>e=.returned (.int .i64 (chk n l))∧w=w':=by
 unfold chk
 by_cases h1:1≤n∧n≤16
 ·rw [if_pos h1]
  obtain ⟨m,rfl⟩:∃ m:Nat,n=m:=⟨n.toNat,by omega⟩
  rw [Int.toNat_natCast]
  by_cases hk:k=pgs m
  ·exact check_last m A k c l w _ h.seq h.len hb (by omega) (by omega) hk
  ·rw [if_neg (fun hm=>hk (h.len.symm.trans hm.1))]
   exact check_len m A k c w (by omega) (by omega) hk
 ·rw [if_neg h1]
  exact check_many n A k c w h1
theorem checkTrack_any (n:Int) (A:Option Addr) (k c:Nat) (l:List Int) (t:Int) (w:World) (h:Arg w .u8 A k c l) (hb:∀ z ∈ l,isByte z) :
  Calls Try.prog 42 #[.int .i64 n,.slice A k c,.int .i64 t] w fun e w'=>e=.returned (.int .i64 (trkE n l t))∧w=w':=by
 have C:=b_check_any n A k c l w h hb
 unfold trkE
 by_cases hc:chk n l=0
 ·rw [if_pos hc]
  rw [hc] at C
  have C:=Lh C
  by_cases ht:0≤t∧t < n
  ·have T:=Lh (track_yes n t w ht.1 ht.2)
   rw [if_pos ht]
   clear h hb hc ht
   go_enter Try.func42,Try.ntmps42
   go_wp2_with fail
   refine C.out.mono ?_
   rintro e w' ⟨rfl,rfl⟩
   go_wp2_with fail
   refine T.out.mono ?_
   rintro e w' ⟨rfl,rfl⟩
   go_wp2
   go_ret
   exact ⟨rfl,rfl⟩
  ·have T:=Lh (track_no n t w ht)
   rw [if_neg ht]
   clear h hb hc ht
   go_enter Try.func42,Try.ntmps42
   go_wp2_with fail
   refine C.out.mono ?_
   rintro e w' ⟨rfl,rfl⟩
   go_wp2_with fail
   refine T.out.mono ?_
   rintro e w' ⟨rfl,rfl⟩
   go_wp2
   go_ret
   exact ⟨rfl,rfl⟩
 ·rw [if_neg hc]
  have hne:(chk n l != 0)=true:=by rw [bne_iff_ne];exact hc
  obtain ⟨E,hE⟩:∃ E,E=chk n l:=⟨_,rfl⟩
  rw [← hE] at C hne ⊢
  have C:=Lh C
  clear h hb hc hE
  go_enter Try.func42,Try.ntmps42
  go_wp2_with fail
  refine C.out.mono ?_
  rintro e w' ⟨rfl,rfl⟩
  go_wp2
  go_ret
  exact ⟨rfl,rfl⟩
theorem Has_any (n:Int) (A:Option Addr) (k c:Nat) (l:List Int) (t:Int) (w:World) (h:Arg w .u8 A k c l) (hb:∀ z ∈ l,isByte z) :
  Calls Try.prog 21 #[.int .i64 n,.slice A k c,.int .i64 t] w fun e w'=>e=.returned (.tuple #[.bool (hasV n l t),.int .i64 (trkE n l t)])∧∃ q,w'=w.drewN q:=by
 have C:=checkTrack_any n A k c l t w h hb
 unfold hasV
 by_cases hc:trkE n l t=0
 ·obtain ⟨m,u,rfl,rfl,h1,h2,h3,h4⟩:=trkE_zero hb hc
  have H:=Lh (b_has_any A k c l u w _ h.seq h.len hb (by omega) (by rw [← h.len,h4.len];exact pgs_le h3))
  rw [hc] at C ⊢
  rw [Int.toNat_natCast,show decide ((0:Int)=0)=true from rfl,Bool.true_and]
  have C:=Lh C
  obtain ⟨r,hr⟩:∃ r,r=hasT l u:=⟨_,rfl⟩
  rw [← hr] at H ⊢
  clear h hb hc hr h1 h2 h3 h4
  go_enter Try.func21,Try.ntmps21
  go_wp2_with fail
  refine C.out.mono ?_
  rintro e w' ⟨rfl,rfl⟩
  go_wp2_with fail
  refine H.out.mono ?_
  rintro e w' ⟨rfl,q,rfl⟩
  go_wp2
  go_ret2
  exact ⟨rfl,q,rfl⟩
 ·rw [show decide (trkE n l t=0)=false from decide_eq_false hc,Bool.false_and]
  have hne:(trkE n l t != 0)=true:=by rw [bne_iff_ne];exact hc
  obtain ⟨E,hE⟩:∃ E,E=trkE n l t:=⟨_,rfl⟩
  rw [← hE] at C hne ⊢
  have C:=Lh C
  clear h hb hc hE
  go_enter Try.func21,Try.ntmps21
  go_wp2_with fail
  refine C.out.mono ?_
  rintro e w' ⟨rfl,rfl⟩
  go_wp2
  go_ret2
  exact ⟨rfl,0,rfl⟩
theorem has_b (n:Int) (A:Option Addr) (k c:Nat) (l:List Int) (t:Int) (w:World) (h:Arg w .u8 A k c l) (hb:∀ z ∈ l,isByte z) {v:Bool} {E:Int} (hv:hasV n l t=v) (hE:trkE n l t=E) :
  Calls Try.prog 21 #[.int .i64 n,.slice A k c,.int .i64 t] w fun e w'=>e=.returned (.tuple #[.bool v,.int .i64 E])∧Below w.heap.size w w':=by
 subst hv
 subst hE
 refine (Has_any n A k c l t w h hb).mono ?_
 rintro e w' ⟨rfl,q,rfl⟩
 exact ⟨rfl,below_drewN (Below.refl _ _) q⟩
end Go.Proofs.Ytdbeiikaeccbhaa
