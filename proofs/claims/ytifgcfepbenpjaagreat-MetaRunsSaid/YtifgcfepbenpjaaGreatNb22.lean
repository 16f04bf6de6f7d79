/- Texts of layers 1 to 12, joined. -/
import Derived.Test.YtifgcfepbenpjaaGreatNb21
import Derived.Laws.StructEq
import Derived.Maps.AppendAt
import Derived.Deep.Slices
set_option maxRecDepth 100000
set_option maxHeartbeats 12800000
set_option linter.unusedVariables false
namespace Go.Proofs.YtifgcfepbenpjaaGreat
open Go.RowKit Go.OpenShut Go.ChangeShapes Go.WideShapes Go.Deep Go.Joins
abbrev recV (r:Rc):Value:=.agg #[.int .i64 r.p,.int .u32 r.b,.int .u32 r.e,.int .i64 r.l,.int .u8 r.h,.int .i64 r.f,.bool r.q,.bool r.a]
abbrev recL (r:Rc):List Value:=[.int .i64 r.p,.int .u32 r.b,.int .u32 r.e,.int .i64 r.l,.int .u8 r.h,.int .i64 r.f,.bool r.q,.bool r.a]
theorem rec_info:(Tryz.prog.info? 64).map (fun i=>(i.zero,i.size,i.bytes))=some (some (recV zR),8,48):=by kernel_rfl
def recsV (L:List Rc):List Value:=L.flatMap recL
theorem recsV_length (L:List Rc):(recsV L).length=L.length * 8:=by
 induction L with
 | nil=>rfl
 | cons r L ih=>unfold recsV at ih ⊢;rw [List.flatMap_cons,List.length_append,ih];simp;omega
theorem recsV_at {L:List Rc} {i j:Nat} (hi:i < L.length) (hj:j < 8):(recsV L)[i * 8 + j]?=(recL (L.getD i zR))[j]?:=by
 induction L generalizing i with
 | nil=>exact absurd hi (Nat.not_lt_zero _)
 | cons r L ih =>
  have e:recsV (r :: L)=recL r ++ recsV L:=rfl
  rw [e]
  cases i with
  | zero =>
   rw [Nat.zero_mul,Nat.zero_add,List.getElem?_append_left (by simpa using hj)]
   rfl
  | succ i =>
   rw [List.getElem?_append_right (by simp;omega),show (i + 1) * 8 + j - (recL r).length=i * 8 + j by simp;omega,ih (by simpa using hi)]
   rfl
theorem recsV_app (L M:List Rc):recsV (L ++ M)=recsV L ++ recsV M:=List.flatMap_append
theorem recsV_one (r:Rc):recsV [r]=recL r:=by simp [recsV]
theorem one_rec (r:Rc):∀ v ∈ recL r,v.oneCell'=true:=by intro v hv;simp at hv;rcases hv with rfl | rfl | rfl | rfl | rfl | rfl | rfl | rfl <;> rfl
theorem one_recs (L:List Rc):∀ v ∈ recsV L,v.oneCell'=true:=fun v hv=>by
 obtain ⟨r,_,h⟩:=List.mem_flatMap.1 hv
 exact one_rec r v h
structure Recs (w:World) (A:Option Addr) (n c:Nat) (L:List Rc):Prop where
 len:L.length=n
 cap:n≤c
 max:c≤maxLen
 is:allR L
 at_:∀ i,i < n→∃ b o,A=some ⟨b,o,none⟩∧b < w.heap.size∧∀ j v,(recL (L.getD i zR))[j]?=some v→w.cell? ⟨b,o + i * 8 + j,none⟩=some v
section
variable {w w':World} {A:Option Addr} {n c:Nat} {L:List Rc}
theorem Recs.below (h:Recs w A n c L) (hb:Below w.heap.size w w'):Recs w' A n c L :=
 ⟨h.len,h.cap,h.max,h.is,fun i hi=>by
  obtain ⟨b,o,e,hlt,hc⟩:=h.at_ i hi
  exact ⟨b,o,e,Nat.lt_of_lt_of_le hlt hb.size,fun j v hv=>(hb.cell (p:=⟨b,_,none⟩) hlt).trans (hc j v hv)⟩⟩
theorem Recs.nil (w:World):Recs w none 0 0 []:=⟨rfl,Nat.le_refl _,by decide,(fun r hr=>by cases hr),fun i hi=>by omega⟩
theorem Recs.row (h:Recs w A n c L) {i:Nat} (hi:i < n):∃ b o,A=some ⟨b,o,none⟩∧b < w.heap.size∧w.cell? ⟨b,o + i * 8,none⟩=some (.int .i64 (L.getD i zR).p)∧w.cell? ⟨b,o + i * 8 + 1,none⟩=some (.int .u32 (L.getD i zR).b)∧w.cell? ⟨b,o + i * 8 + 2,none⟩=some (.int .u32 (L.getD i zR).e) ∧
  w.cell? ⟨b,o + i * 8 + 3,none⟩=some (.int .i64 (L.getD i zR).l)∧w.cell? ⟨b,o + i * 8 + 4,none⟩=some (.int .u8 (L.getD i zR).h)∧w.cell? ⟨b,o + i * 8 + 5,none⟩=some (.int .i64 (L.getD i zR).f)∧w.cell? ⟨b,o + i * 8 + 6,none⟩=some (.bool (L.getD i zR).q)∧w.cell? ⟨b,o + i * 8 + 7,none⟩=some (.bool (L.getD i zR).a):=by
 obtain ⟨b,o,e,hlt,hc⟩:=h.at_ i hi
 exact ⟨b,o,e,hlt,hc 0 _ rfl,hc 1 _ rfl,hc 2 _ rfl,hc 3 _ rfl,hc 4 _ rfl,hc 5 _ rfl,hc 6 _ rfl,hc 7 _ rfl⟩
theorem Recs.is_at (h:Recs w A n c L) {i:Nat} (hi:i < n):isR (L.getD i zR):=by
 have:=h.len
 rw [gtD,geE (by omega)]
 exact h.is _ (List.getElem_mem _)
theorem Recs.seq (h:Recs w A n c L):Seq w w.heap.size A (recsV L):=fun k v hv=>by
 have hk:k < L.length * 8:=by
  rcases Nat.lt_or_ge k (recsV L).length with hk | hk
  ·rwa [recsV_length] at hk
  ·rw [List.getElem?_eq_none hk] at hv;cases hv
 have e:k=(k / 8) * 8 + k % 8:=by omega
 obtain ⟨b,o,ea,hlt,hc⟩:=h.at_ (k / 8) (by have:=h.len;omega)
 have h2:=recsV_at (L:=L) (i:=k / 8) (j:=k % 8) (by omega) (by omega)
 rw [← e] at h2
 have h3:=hc (k % 8) v (by rw [← h2];exact hv)
 refine ⟨b,o,ea,hlt,?_⟩
 rw [Nat.add_assoc,← e] at h3
 exact h3
end
def OwnRecs (w:World) (base:Nat) (A:Option Addr) (n c:Nat) (L:List Rc):Prop:=w.ownsRow base 64 8 (.slice A n c) n (recsV L)∧L.length=n∧allR L
section
variable {w w':World} {base base':Nat} {A:Option Addr} {n c:Nat} {L:List Rc}
theorem Recs.of_own (h:OwnRecs w base A n c L):Recs w A n c L:=by
 obtain ⟨hown,hl,ha⟩:=h
 refine ⟨hl,?_,?_,ha,fun i hi=>?_⟩
 ·rcases hown.2 with ⟨e,h0⟩ | ⟨g,cap,cur,e,_,_,h1,h2,_⟩ <;> cases e
  ·exact Nat.le_refl _
  ·exact h1
 ·rcases hown.2 with ⟨e,h0⟩ | ⟨g,cap,cur,e,_,_,h1,h2,_⟩ <;> cases e
  ·decide
  ·exact h2
 ·have h0:(recsV L)[i * 8 + 0]?=some (.int .i64 (L.getD i zR).p):=by rw [recsV_at (by omega) (by omega)];rfl
  obtain ⟨b,e,hlt,_⟩:=owns_cell hown h0
  refine ⟨b,0,e,hlt,fun j v hv=>?_⟩
  have hj:j < 8:=by
   rcases Nat.lt_or_ge j 8 with hj | hj
   ·exact hj
   ·rw [List.getElem?_eq_none (by simpa using hj)] at hv;cases hv
  have h1:(recsV L)[i * 8 + j]?=some v:=by rw [recsV_at (by omega) hj];exact hv
  obtain ⟨b',e',_,hc⟩:=owns_cell hown h1
  rw [e] at e'
  cases e'
  rw [Nat.zero_add]
  exact hc
theorem OwnRecs.below (h:OwnRecs w base A n c L) (hb:Below w.heap.size w w'):OwnRecs w' base A n c L:=⟨owns_below h.1 hb,h.2.1,h.2.2⟩
theorem OwnRecs.lower (h:OwnRecs w base A n c L) (hb:base'≤base):OwnRecs w base' A n c L:=⟨owns_base h.1 hb,h.2.1,h.2.2⟩
theorem OwnRecs.nil (w:World) (base:Nat):OwnRecs w base none 0 0 []:=⟨World.ownsRow_nil _ _ _ _,rfl,fun r hr=>by cases hr⟩
theorem OwnRecs.keep (h:OwnRecs w base A n c L) (hk:∀ (g:Nat) (cs:Array Value),base≤g→w.heap[g]?=some (.cells cs 64 (0,0))→w'.heap[g]?=w.heap[g]?):OwnRecs w' base A n c L :=
 ⟨owns_keep h.1 fun g cs hg hc=>hk g cs hg hc,h.2.1,h.2.2⟩
theorem OwnRecs.away (h:OwnRecs w base A n c L) {g:Nat} (hg:g < base) (i:Nat) (u:Value):OwnRecs (w.setCell ⟨g,i,none⟩ u) base A n c L :=
 h.keep fun g' _ hb hc=>(grownBy_set w g i u).block g' (Array.getElem?_eq_some_iff.1 hc).1 (fun e=>by injection e with e;omega)
theorem run_recs (w0 w:World) (ty:TypeId) (A0:Option Addr) (n0 c0:Nat) (M:List Rc) (hown:OwnRecs w base A0 n0 c0 M) (r:Rc) (hr:isR r) (h63:n0 + 1≤100000) (hbel:Below base w0 w) (hw0:base≤w0.heap.size) :
  ∃ A' c' w',(Builtin.append_ #[30,30] ty #[.slice A0 n0 c0,.slice (some ⟨w.heap.size,0,none⟩) 1 1]).run Tryz.prog (w.alloc (.cells (recL r).toArray 64))=.ok (.slice A' (n0 + 1) c') w'∧OwnRecs w' base A' (n0 + 1) c' (M ++ [r])∧Below base w0 w'∧(w.alloc (.cells (recL r).toArray 64)).grownBy w' (Value.slice A0 n0 c0).ownBlock:=by
 obtain ⟨i,hi,hz,hsize,hby⟩:=info_parts rec_info
 have hml:(100000:Nat)≤maxLen:=by decide
 have hbase:base≤w.heap.size:=Nat.le_trans hw0 hbel.size
 have hlit:=Blk.new w 64 (recL r)
 have hcs:∀ j u,(recL r)[j]?=some u→(w.alloc (.cells (recL r).toArray 64)).cell? ((⟨w.heap.size,0,none⟩:Addr).add j)=some u:=by
  intro j u hu
  have e2:(⟨w.heap.size,0,none⟩:Addr).add j=⟨w.heap.size,0 + j,none⟩:=by unfold Addr.add;split <;> simp_all
  rw [e2,Nat.zero_add,hlit.cell j]
  exact hu
 obtain ⟨v',w',h,r2,r3,_,_⟩:=run_append_own_at (P:=Tryz.prog) (w.alloc (.cells (recL r).toArray 64)) base 30 ty 64 i _ 8 48 Tryz.underlying30 hi hz hsize hby rfl (by omega) _ n0 (recsV M) (hown.1.alloc _) ⟨w.heap.size,0,none⟩ 1 1 (recL r) rfl hcs (one_rec r) (by omega) (by omega) (by simp;omega)
 obtain ⟨g',c',rfl⟩:=ownsRow_some r2
 refine ⟨some ⟨g',0,none⟩,c',w',h,⟨by rw [recsV_app,recsV_one];exact r2,by simp [hown.2.1],fun s hs=>?_⟩,(hbel.alloc hbase _).grown r3 (by simp;omega) (fun g e=>(hown.1.lt g e).1),r3⟩
 rcases List.mem_append.1 hs with hs | hs
 ·exact hown.2.2 s hs
 ·rw [List.mem_singleton.1 hs];exact hr
end
theorem wpList_recs (w0 w:World) {ops:Array Oper} {rest:List Oper} {o:Oper} {a:Act} {Q:Exit→Act→World→Prop} (hw:Region.wanted o (yielded ops a.tmps)=true) (s x:Operand)
  (ho:o.op=.call { callee:=.builtin .append,args:=#[s,x],argTypes:=#[30,30] }) (base:Nat) (A0:Option Addr) (n c0:Nat) (M:List Rc) (hs:a.eval s=.slice A0 n c0) (hown:OwnRecs w base A0 n c0 M)
  (r:Rc) (hr:isR r) (hx:a.eval x=.slice (some ⟨w.heap.size,0,none⟩) 1 1) (h63:n + 1≤100000) (hbel:Below base w0 w) (hw0:base≤w0.heap.size)
  (h:∀ A' c' w',OwnRecs w' base A' (n + 1) c' (M ++ [r])→Below base w0 w'→wpList Tryz.prog ops Q rest (a.put o.dst (.slice A' (n + 1) c')) w'):wpList Tryz.prog ops Q (o :: rest) a (w.alloc (.cells (recL r).toArray 64)):=by
 refine wpList_want hw fun K hK=>?_
 obtain ⟨A',c',w',hrun,h2,h3,_⟩:=run_recs w0 w o.type A0 n c0 M hown r hr h63 hbel hw0
 unfold Oper.wp execOp
 simp only [ho,resolve,invoke,builtin,Sem.run_bind,Sem.run_pure,Result.andThen_ok,List.map_toArray,List.map_cons,List.map_nil,hs,hx,hrun]
 exact hK _ _ (h A' c' w' h2 h3)
end Go.Proofs.YtifgcfepbenpjaaGreat
namespace Go.Proofs.YtifgcfepbenpjaaGreat
open Go.RowKit
theorem wpList_dup_recs (w:World) {ops:Array Oper} {rest:List Oper} {o:Oper} {a:Act} {Q:Exit→Act→World→Prop} (hw:Region.wanted o (yielded ops a.tmps)=true) (s x:Operand)
  (ho:o.op=.call { callee:=.builtin .append,args:=#[s,x],argTypes:=#[30,30] }) (hs:a.eval s=.slice (some ⟨w.heap.size,0,none⟩) 0 0)
  (A:Option Addr) (m c:Nat) (L:List Rc) (hx:a.eval x=.slice A m c) (hr:Recs w A m c L) (h63:m≤100000)
  (h:∀ A' c' w',OwnRecs w' w.heap.size A' m c' L→Below w.heap.size w w'→wpList Tryz.prog ops Q rest (a.put o.dst (.slice A' m c')) w'):wpList Tryz.prog ops Q (o :: rest) a (w.alloc (.cells #[] 64)):=by
 refine wpList_want hw fun K hK=>?_
 obtain ⟨i,hi,hz,hsize,hby⟩:=info_parts rec_info
 have hml:(100000:Nat)≤maxLen:=by decide
 have hb1:Below w.heap.size w (w.alloc (.cells #[] 64)):=(Below.refl _ _).alloc (Nat.le_refl _) _
 have hlit:(w.alloc (.cells #[] 64)).ownsRow w.heap.size 64 8 (.slice (some ⟨w.heap.size,0,none⟩) 0 0) 0 []:=⟨rfl,.inr ⟨w.heap.size,0,#[],rfl,Nat.le_refl _,heap_alloc_new w _,Nat.le_refl _,by decide,rfl,rfl⟩⟩
 have key:∃ A' c' w',(Builtin.append_ #[30,30] o.type #[.slice (some ⟨w.heap.size,0,none⟩) 0 0,.slice A m c]).run Tryz.prog (w.alloc (.cells #[] 64))=.ok (.slice A' m c') w'∧OwnRecs w' w.heap.size A' m c' L∧Below w.heap.size w w':=by
  cases A with
  | none =>
   have hm0:m=0:=by
    rcases Nat.eq_zero_or_pos m with h0 | h0
    ·exact h0
    ·obtain ⟨_,_,e,_⟩:=hr.at_ 0 h0
     cases e
   subst hm0
   have hL:L=[]:=List.eq_nil_of_length_eq_zero hr.len
   subst hL
   refine ⟨some ⟨w.heap.size,0,none⟩,0,_,?_,⟨hlit,rfl,fun r hr=>by cases hr⟩,hb1⟩
   simp [Builtin.append_,run_underlying Tryz.underlying30,sizeOf,typeInfo,hi,Builtin.lenOf,Builtin.firstCells,storeCells]
  | some ad =>
   have hsq:=(hr.below hb1).seq
   have hcs:∀ j u,(recsV L)[j]?=some u→(w.alloc (.cells #[] 64)).cell? (ad.add j)=some u:=by
    intro j u hu
    obtain ⟨b,o',e,_,hc⟩:=hsq j u hu
    have e:=Option.some.inj e
    subst e
    have e2:(⟨b,o',none⟩:Addr).add j=⟨b,o' + j,none⟩:=by unfold Addr.add;split <;> simp_all
    rw [e2]
    exact hc
   obtain ⟨v',w',hrun,h2,h3,_,h5⟩:=run_append_own_at (P:=Tryz.prog) (w.alloc (.cells #[] 64)) w.heap.size 30 o.type 64 i _ 8 48 Tryz.underlying30 hi hz hsize hby rfl (by omega) _ 0 [] hlit ad m c (recsV L) (by rw [recsV_length,hr.len]) hcs (one_recs L) (by omega) (by omega) (by simp)
   rw [Nat.zero_add,List.nil_append] at h2
   have hv:∃ A' c',v'=.slice A' m c':=by
    rcases h2.2 with ⟨rfl,rfl⟩ | ⟨g,cap,cur,rfl,_⟩
    ·exact ⟨_,_,rfl⟩
    ·exact ⟨_,_,rfl⟩
   obtain ⟨A',c',rfl⟩:=hv
   exact ⟨A',c',w',hrun,⟨h2,hr.len,hr.is⟩,hb1.grown h3 hb1.size (fun g e=>by have e:some w.heap.size=some g:=e;injection e with e;omega)⟩
 obtain ⟨A',c',w',hrun,h2,h3⟩:=key
 unfold Oper.wp execOp
 simp only [ho,resolve,invoke,builtin,Sem.run_bind,Sem.run_pure,Result.andThen_ok,List.map_toArray,List.map_cons,List.map_nil,hs,hx,hrun]
 exact hK _ _ (h A' c' w' h2 h3)
end Go.Proofs.YtifgcfepbenpjaaGreat
namespace Go.Proofs.YtifgcfepbenpjaaGreat
open Go.RowKit Go.OpenShut Go.ChangeShapes Go.WideShapes Go.Deep Go.Joins
abbrev actV (k x:Int) (A:Option Addr) (n c:Nat):Value:=.agg #[.int .u8 k,.int .i64 x,.slice A n c,.int .u32 0,.int .u32 0,.int .u8 0,.int .i64 0,.bool false,.int .i64 0,.int .u32 0,.int .u32 0,.int .i64 0,.int .u8 0,.int .i64 0,.bool false,.bool false,.int .u8 0,.int .u32 0,.int .u32 0,.int .i64 0,.int .u32 0,.int .i64 0,.slice none 0 0,.slice none 0 0,.int .i64 0,.int .i64 0,.int .u8 0,.slice none 0 0,.int .i64 0]
abbrev actL (k x:Int) (A:Option Addr) (n c:Nat):List Value:=[.int .u8 k,.int .i64 x,.slice A n c,.int .u32 0,.int .u32 0,.int .u8 0,.int .i64 0,.bool false,.int .i64 0,.int .u32 0,.int .u32 0,.int .i64 0,.int .u8 0,.int .i64 0,.bool false,.bool false,.int .u8 0,.int .u32 0,.int .u32 0,.int .i64 0,.int .u32 0,.int .i64 0,.slice none 0 0,.slice none 0 0,.int .i64 0,.int .i64 0,.int .u8 0,.slice none 0 0,.int .i64 0]
theorem act_info:(Tryz.prog.info? 75).map (fun i=>(i.zero,i.size,i.bytes))=some (some (actV 0 0 none 0 0),29,264):=by kernel_rfl
abbrev Ax:=Int × Int × (Option Addr × Nat × Nat)
def axL (a:Ax):List Value:=actL a.1 a.2.1 a.2.2.1 a.2.2.2.1 a.2.2.2.2
def acsV (L:List Ax):List Value:=L.flatMap axL
theorem axL_length (a:Ax):(axL a).length=29:=rfl
def zAx:Ax:=(0,0,none,0,0)
theorem acsV_at {L:List Ax} {i j:Nat} (hi:i < L.length) (hj:j < 29):(acsV L)[i * 29 + j]?=(axL (L.getD i zAx))[j]?:=by
 induction L generalizing i with
 | nil=>exact absurd hi (Nat.not_lt_zero _)
 | cons r L ih =>
  have e:acsV (r :: L)=axL r ++ acsV L:=rfl
  rw [e]
  cases i with
  | zero =>
   rw [Nat.zero_mul,Nat.zero_add,List.getElem?_append_left (by rw [axL_length];exact hj)]
   rfl
  | succ i =>
   rw [List.getElem?_append_right (by rw [axL_length];omega),show (i + 1) * 29 + j - (axL r).length=i * 29 + j by rw [axL_length];omega,ih (by simpa using hi)]
   rfl
theorem acsV_app (L M:List Ax):acsV (L ++ M)=acsV L ++ acsV M:=List.flatMap_append
theorem acsV_one (r:Ax):acsV [r]=axL r:=by simp [acsV]
theorem one_act (r:Ax):∀ v ∈ axL r,v.oneCell'=true:=by
 have h:(axL r).all (fun v=>v.oneCell')=true:=rfl
 intro v hv
 exact List.all_eq_true.1 h v hv
def OwnAcs (w:World) (base:Nat) (A:Option Addr) (n c:Nat) (L:List Ax):Prop:=w.ownsRow base 75 29 (.slice A n c) n (acsV L)∧L.length=n
section
variable {w w':World} {base base':Nat} {A:Option Addr} {n c:Nat} {L:List Ax}
theorem OwnAcs.below (h:OwnAcs w base A n c L) (hb:Below w.heap.size w w'):OwnAcs w' base A n c L:=⟨owns_below h.1 hb,h.2⟩
theorem OwnAcs.lower (h:OwnAcs w base A n c L) (hb:base'≤base):OwnAcs w base' A n c L:=⟨owns_base h.1 hb,h.2⟩
theorem OwnAcs.nil (w:World) (base:Nat):OwnAcs w base none 0 0 []:=⟨World.ownsRow_nil _ _ _ _,rfl⟩
theorem OwnAcs.keep (h:OwnAcs w base A n c L) (hk:∀ (g:Nat) (cs:Array Value),base≤g→w.heap[g]?=some (.cells cs 75 (0,0))→w'.heap[g]?=w.heap[g]?):OwnAcs w' base A n c L :=
 ⟨owns_keep h.1 fun g cs hg hc=>hk g cs hg hc,h.2⟩
theorem OwnAcs.away (h:OwnAcs w base A n c L) {g:Nat} (hg:g < base) (i:Nat) (u:Value):OwnAcs (w.setCell ⟨g,i,none⟩ u) base A n c L :=
 h.keep fun g' _ hb hc=>(grownBy_set w g i u).block g' (Array.getElem?_eq_some_iff.1 hc).1 (fun e=>by injection e with e;omega)
theorem OwnAcs.cell (h:OwnAcs w base A n c L) {i:Nat} (hi:i < n):∃ b,A=some ⟨b,0,none⟩∧b < w.heap.size∧∀ j v,(axL (L.getD i zAx))[j]?=some v→w.cell? ⟨b,i * 29 + j,none⟩=some v:=by
 obtain ⟨hown,hl⟩:=h
 have h0:(acsV L)[i * 29 + 0]?=some (.int .u8 (L.getD i zAx).1):=by rw [acsV_at (by omega) (by omega)];rfl
 obtain ⟨b,e,hlt,_⟩:=owns_cell hown h0
 refine ⟨b,e,hlt,fun j v hv=>?_⟩
 have hj:j < 29:=by
  rcases Nat.lt_or_ge j 29 with hj | hj
  ·exact hj
  ·rw [List.getElem?_eq_none (by rw [axL_length];exact hj)] at hv;cases hv
 have h1:(acsV L)[i * 29 + j]?=some v:=by rw [acsV_at (by omega) hj];exact hv
 obtain ⟨b',e',_,hc⟩:=owns_cell hown h1
 rw [e] at e'
 cases e'
 exact hc
theorem OwnAcs.row (h:OwnAcs w base A n c L) {i:Nat} (hi:i < n):∃ b,A=some ⟨b,0,none⟩∧b < w.heap.size∧w.cell? ⟨b,i * 29,none⟩=some (.int .u8 (L.getD i zAx).1)∧w.cell? ⟨b,i * 29 + 1,none⟩=some (.int .i64 (L.getD i zAx).2.1)∧w.cell? ⟨b,i * 29 + 2,none⟩=some (.slice (L.getD i zAx).2.2.1 (L.getD i zAx).2.2.2.1 (L.getD i zAx).2.2.2.2):=by
 obtain ⟨b,e,hlt,hc⟩:=h.cell hi
 exact ⟨b,e,hlt,hc 0 _ rfl,hc 1 _ rfl,hc 2 _ rfl⟩
end
def AxIs (w:World) (L:List Ax) (l:List Ac):Prop:=l.length=L.length∧∀ i,i < L.length→(L.getD i zAx).1=(l.getD i (0,0,[])).1∧(L.getD i zAx).2.1=(l.getD i (0,0,[])).2.1∧Arg w .u8 (L.getD i zAx).2.2.1 (L.getD i zAx).2.2.2.1 (L.getD i zAx).2.2.2.2 (l.getD i (0,0,[])).2.2
theorem AxIs.below {w w':World} {L:List Ax} {l:List Ac} (h:AxIs w L l) (hb:Below w.heap.size w w'):AxIs w' L l:=⟨h.1,fun i hi=>⟨(h.2 i hi).1,(h.2 i hi).2.1,(h.2 i hi).2.2.below hb⟩⟩
end Go.Proofs.YtifgcfepbenpjaaGreat
namespace Go.Proofs.YtifgcfepbenpjaaGreat
open Go.RowKit Go.OpenShut Go.ChangeShapes Go.WideShapes Go.Deep Go.Joins
def OwnActs (w:World) (base:Nat) (A:Option Addr) (n c:Nat) (l:List Ac):Prop :=
 ∃ L,OwnAcs w base A n c L∧l.length=n∧(∀ a ∈ l,∀ z ∈ a.2.2,isByte z) ∧
  ∀ i,i < n→(L.getD i zAx).1=(l.getD i (0,0,[])).1∧(L.getD i zAx).2.1=(l.getD i (0,0,[])).2.1∧OwnTxt w base (L.getD i zAx).2.2.1 (L.getD i zAx).2.2.2.1 (L.getD i zAx).2.2.2.2 (l.getD i (0,0,[])).2.2
section
variable {w w':World} {base base':Nat} {A:Option Addr} {n c:Nat} {l:List Ac}
theorem OwnActs.is (h:OwnActs w base A n c l):∃ L,OwnAcs w base A n c L∧AxIs w L l:=by
 obtain ⟨L,h1,h2,_,h4⟩:=h
 exact ⟨L,h1,by rw [h1.2,h2],fun i hi=>⟨(h4 i (by rw [← h1.2];exact hi)).1,(h4 i (by rw [← h1.2];exact hi)).2.1,(h4 i (by rw [← h1.2];exact hi)).2.2.arg⟩⟩
theorem OwnActs.len (h:OwnActs w base A n c l):l.length=n:=by
 obtain ⟨_,_,h2,_⟩:=h
 exact h2
theorem OwnActs.byte (h:OwnActs w base A n c l):∀ a ∈ l,∀ z ∈ a.2.2,isByte z:=by
 obtain ⟨_,_,_,h3,_⟩:=h
 exact h3
theorem OwnActs.below (h:OwnActs w base A n c l) (hb:Below w.heap.size w w'):OwnActs w' base A n c l:=by
 obtain ⟨L,h1,h2,h3,h4⟩:=h
 exact ⟨L,h1.below hb,h2,h3,fun i hi=>⟨(h4 i hi).1,(h4 i hi).2.1,(h4 i hi).2.2.below hb⟩⟩
theorem OwnActs.lower (h:OwnActs w base A n c l) (hb:base'≤base):OwnActs w base' A n c l:=by
 obtain ⟨L,h1,h2,h3,h4⟩:=h
 exact ⟨L,h1.lower hb,h2,h3,fun i hi=>⟨(h4 i hi).1,(h4 i hi).2.1,(h4 i hi).2.2.lower hb⟩⟩
theorem OwnActs.nil (w:World) (base:Nat):OwnActs w base none 0 0 []:=⟨[],OwnAcs.nil _ _,rfl,by simp,fun i hi=>absurd hi (Nat.not_lt_zero _)⟩
theorem OwnActs.keep (h:OwnActs w base A n c l) (hk:∀ (g:Nat) (e:TypeId) (cs:Array Value),(e=75∨e=5)→base≤g→w.heap[g]?=some (.cells cs e (0,0))→w'.heap[g]?=w.heap[g]?):OwnActs w' base A n c l:=by
 obtain ⟨L,h1,h2,h3,h4⟩:=h
 refine ⟨L,h1.keep fun g cs hg hc=>hk g _ cs (.inl rfl) hg hc,h2,h3,fun i hi=>⟨(h4 i hi).1,(h4 i hi).2.1,(h4 i hi).2.2.keep fun g hg hu=>?_⟩⟩
 obtain ⟨cs,hc⟩:=hu
 exact hk g _ cs (.inr rfl) hg hc
theorem OwnActs.kept (h:OwnActs w base A n c l) {row:Option Nat} (hg:w.grownBy w' row) (hr:∀ g,row=some g→g < base):OwnActs w' base A n c l :=
 h.keep fun g _ _ _ hb hc=>hg.block g (Array.getElem?_eq_some_iff.1 hc).1 (fun e=>by have:=hr g e.symm;omega)
theorem OwnActs.away (h:OwnActs w base A n c l) {g:Nat} (hg:g < base) (i:Nat) (u:Value):OwnActs (w.setCell ⟨g,i,none⟩ u) base A n c l :=
 h.kept (grownBy_set w g i u) (fun _ e=>by injection e with e;omega)
end
def ColTo (w w':World):Prop:=w.heap.size≤w'.heap.size∧∀ g,g < w.heap.size→(∀ cs,w.heap[g]?≠some (.cells cs 75 (0,0)))→(∀ cs,w.heap[g]?≠some (.cells cs 38 (0,0)))→w'.heap[g]?=w.heap[g]?
theorem ColTo.of {B:Nat} {w w':World} (h:Below B w w') (hB:w.heap.size≤B):ColTo w w':=⟨h.size,fun g hg _ _=>h.block g (Nat.lt_of_lt_of_le hg hB)⟩
theorem ColTo.trans {a b c:World} (h:ColTo a b) (k:ColTo b c):ColTo a c :=
 ⟨Nat.le_trans h.1 k.1,fun g hg h1 h2=>by
  have e:=h.2 g hg h1 h2
  exact (k.2 g (Nat.lt_of_lt_of_le hg h.1) (fun cs=>by rw [e];exact h1 cs) (fun cs=>by rw [e];exact h2 cs)).trans e⟩
section
variable {w w':World} {base g n c:Nat} {t:TypeId} {A:Option Addr} {cs:List Value}
theorem ColTo.block (h:ColTo w w') {cs:Array Value} {fz:Nat × Nat} (hb:w.heap[g]?=some (.cells cs t fz)) (h1:t≠75) (h2:t≠38):w'.heap[g]?=w.heap[g]? :=
 h.2 g (Array.getElem?_eq_some_iff.1 hb).1 (fun cs e=>by rw [hb] at e;simp at e;exact h1 e.2.1) (fun cs e=>by rw [hb] at e;simp at e;exact h2 e.2.1)
theorem ColTo.blk (h:ColTo w w') (hb:Blk w g t cs) (h1:t≠75) (h2:t≠38):Blk w' g t cs:=(h.block hb h1 h2).trans hb
theorem ColTo.pnds (h:ColTo w w') {ss:List Pnd} (ho:OwnPnds w base A n c ss):OwnPnds w' base A n c ss:=ho.keep fun g e cs he _ hc=>by
 rcases he with rfl | rfl
 ·exact h.block hc (by decide) (by decide)
 ·exact h.block hc (by decide) (by decide)
theorem ColTo.texts (h:ColTo w w') {ss:List Txt} (ho:OwnTexts w base A n c ss):OwnTexts w' base A n c ss:=by
 obtain ⟨vs,hown,hl,hby,hin⟩:=ho
 refine ⟨vs,owns_keep hown fun g cs _ hc=>h.block hc (by decide) (by decide),hl,hby,fun i hi=>?_⟩
 obtain ⟨Ai,ni,ci,hv,ho⟩:=hin i hi
 exact ⟨Ai,ni,ci,hv,owns_keep ho fun g cs _ hc=>h.block hc (by decide) (by decide)⟩
theorem ColTo.recs (h:ColTo w w') {ss:List Rc} (ho:OwnRecs w base A n c ss):OwnRecs w' base A n c ss:=ho.keep fun g cs _ hc=>h.block hc (by decide) (by decide)
end
def Gath (w:World) (G:Nat) (l:List Ac):Prop:=∃ A n c,Blk w G 38 [.slice A n c]∧OwnActs w (G + 1) A n c l
def GathOut (w:World) (G:Nat) (l:List Ac) (w':World):Prop:=Gath w' G l∧Below G w w'∧ColTo w w'
theorem Gath.lt {w:World} {G:Nat} {l:List Ac} (h:Gath w G l):G < w.heap.size:=by
 obtain ⟨A,n,c,hb,_⟩:=h
 exact hb.lt
theorem Gath.below {w w':World} {G:Nat} {l:List Ac} (h:Gath w G l) (hb:Below w.heap.size w w'):Gath w' G l:=by
 obtain ⟨A,n,c,h1,h2⟩:=h
 exact ⟨A,n,c,h1.below hb h1.lt,h2.below hb⟩
theorem run_acs_g {base:Nat} (w:World) (ty:TypeId) (A0:Option Addr) (n0 c0:Nat) (M:List Ax) (hown:OwnAcs w base A0 n0 c0 M) (r:Ax) (h63:n0 + 1≤100000) (hbase:base≤w.heap.size) :
  ∃ A' c' w',(Builtin.append_ #[38,38] ty #[.slice A0 n0 c0,.slice (some ⟨w.heap.size,0,none⟩) 1 1]).run Tryz.prog (w.alloc (.cells (axL r).toArray 75))=.ok (.slice A' (n0 + 1) c') w'∧OwnAcs w' base A' (n0 + 1) c' (M ++ [r])∧Below base w w'∧w.grownBy w' (Value.slice A0 n0 c0).ownBlock:=by
 obtain ⟨i,hi,hz,hsize,hby⟩:=info_parts act_info
 have hml:(100000:Nat)≤maxLen:=by decide
 have hlit:=Blk.new w 75 (axL r)
 have hcs:∀ j u,(axL r)[j]?=some u→(w.alloc (.cells (axL r).toArray 75)).cell? ((⟨w.heap.size,0,none⟩:Addr).add j)=some u:=by
  intro j u hu
  have e2:(⟨w.heap.size,0,none⟩:Addr).add j=⟨w.heap.size,0 + j,none⟩:=by unfold Addr.add;split <;> simp_all
  rw [e2,Nat.zero_add,hlit.cell j]
  exact hu
 obtain ⟨v',w',h,r2,r3,_,_⟩:=run_append_own_at (P:=Tryz.prog) (w.alloc (.cells (axL r).toArray 75)) base 38 ty 75 i _ 29 264 Tryz.underlying38 hi hz hsize hby rfl (by omega) _ n0 (acsV M) (hown.1.alloc _) ⟨w.heap.size,0,none⟩ 1 1 (axL r) rfl hcs (one_act r) (by omega) (by omega) (by simp;omega)
 obtain ⟨g',c',rfl⟩:=ownsRow_some r2
 exact ⟨some ⟨g',0,none⟩,c',w',h,⟨by rw [acsV_app,acsV_one];exact r2,by simp [hown.2]⟩,((Below.refl base w).alloc hbase _).grown r3 (by simp;omega) (fun g e=>(hown.1.lt g e).1),(World.grownBy_alloc w _ _).trans r3⟩
theorem wpList_acs_g (w:World) {ops:Array Oper} {rest:List Oper} {o:Oper} {a:Act} {Q:Exit→Act→World→Prop} (hw:Region.wanted o (yielded ops a.tmps)=true) (s x:Operand)
  (ho:o.op=.call { callee:=.builtin .append,args:=#[s,x],argTypes:=#[38,38] }) (base:Nat) (A0:Option Addr) (n c0:Nat) (M:List Ax) (hs:a.eval s=.slice A0 n c0) (hown:OwnAcs w base A0 n c0 M)
  (r:Ax) (hx:a.eval x=.slice (some ⟨w.heap.size,0,none⟩) 1 1) (h63:n + 1≤100000) (hw0:base≤w.heap.size)
  (h:∀ A' c' w',OwnAcs w' base A' (n + 1) c' (M ++ [r])→Below base w w'→w.grownBy w' (Value.slice A0 n c0).ownBlock→wpList Tryz.prog ops Q rest (a.put o.dst (.slice A' (n + 1) c')) w'):wpList Tryz.prog ops Q (o :: rest) a (w.alloc (.cells (axL r).toArray 75)):=by
 refine wpList_want hw fun K hK=>?_
 obtain ⟨A',c',w',hrun,h2,h3,h4⟩:=run_acs_g w o.type A0 n c0 M hown r h63 hw0
 unfold Oper.wp execOp
 simp only [ho,resolve,invoke,builtin,Sem.run_bind,Sem.run_pure,Result.andThen_ok,List.map_toArray,List.map_cons,List.map_nil,hs,hx,hrun]
 exact hK _ _ (h A' c' w' h2 h3 h4)
theorem gath_more {w w1:World} {G:Nat} {A A':Option Addr} {n c c':Nat} {l:List Ac} {L:List Ax} {k x:Int} {Ai:Option Addr} {ni ci:Nat} {b:Txt}
  (hb:Blk w G 38 [.slice A n c]) (hL:OwnAcs w (G + 1) A n c L) (hl:l.length=n) (hby:∀ a ∈ l,∀ z ∈ a.2.2,isByte z)
  (hin:∀ i,i < n→(L.getD i zAx).1=(l.getD i (0,0,[])).1∧(L.getD i zAx).2.1=(l.getD i (0,0,[])).2.1∧OwnTxt w (G + 1) (L.getD i zAx).2.2.1 (L.getD i zAx).2.2.2.1 (L.getD i zAx).2.2.2.2 (l.getD i (0,0,[])).2.2)
  (ht:OwnTxt w (G + 1) Ai ni ci b) (hbb:∀ z ∈ b,isByte z) (h2:OwnAcs w1 (G + 1) A' (n + 1) c' (L ++ [(k,x,Ai,ni,ci)])) (h3:Below (G + 1) w w1) (h4:w.grownBy w1 (Value.slice A n c).ownBlock) :
  GathOut w G (l ++ [(k,x,b)]) (w1.setCell ⟨G,0,none⟩ (.slice A' (n + 1) c')):=by
 have hbox:Blk w1 G 38 [.slice A n c]:=hb.below h3 (Nat.lt_succ_self G)
 have htx:∀ {A1:Option Addr} {n1 c1:Nat} {zs:List Int},OwnTxt w (G + 1) A1 n1 c1 zs→OwnTxt (w1.setCell ⟨G,0,none⟩ (.slice A' (n + 1) c')) (G + 1) A1 n1 c1 zs:=fun {A1 n1 c1 zs} hx=>by
  refine (hx.keep (w':=w1) fun g hg hu=>h4.block g hu.lt fun e=>u8_row (by decide) hu hL.1 e.symm).keep fun g hg hu=>Below.heap_setCell w1 _ _ g (fun e=>?_)
  have e':g=G:=e
  omega
 refine ⟨⟨A',n + 1,c',hbox.set 0 _,L ++ [(k,x,Ai,ni,ci)],h2.away (Nat.lt_succ_self G) 0 _,by simp [hl],?_,fun i hi=>?_⟩,(h3.mono (Nat.le_succ G)).setCell (p:=⟨G,0,none⟩) (Nat.le_refl G) _,?_⟩
 ·intro a ha
  rcases List.mem_append.1 ha with ha | ha
  ·exact hby a ha
  ·rw [List.mem_singleton.1 ha]
   exact hbb
 ·have hLn:=hL.2
  by_cases hin':i < n
  ·rw [gtD,List.getElem?_append_left (by omega),gtD,List.getElem?_append_left (by omega),← gtD,← gtD]
   exact ⟨(hin i hin').1,(hin i hin').2.1,htx (hin i hin').2.2⟩
  ·have e:i=n:=by omega
   subst e
   rw [gtD,List.getElem?_append_right (by omega),gtD,List.getElem?_append_right (by omega),hl,hLn]
   simp only [Nat.sub_self,gcZ,Option.getD_some]
   exact ⟨trivial,trivial,htx ht⟩
 ·refine ⟨Nat.le_trans h4.size (by simp [World.setCell]),fun g hg h1 h2'=>?_⟩
  have hgG:g≠G:=fun e=>h2' _ (by rw [e];exact hb)
  refine (Below.heap_setCell w1 _ _ g hgG).trans (h4.block g hg fun e=>?_)
  rcases hL.1.2 with ⟨ev,_⟩ | ⟨g2,cap,cur,ev,_,hg2,_⟩
  ·rw [ev] at e
   simp [Value.ownBlock] at e
  ·rw [ev] at e
   have e3:g=g2:=by simpa [Value.ownBlock] using e
   exact h1 cur (by rw [e3];exact hg2)
end Go.Proofs.YtifgcfepbenpjaaGreat
