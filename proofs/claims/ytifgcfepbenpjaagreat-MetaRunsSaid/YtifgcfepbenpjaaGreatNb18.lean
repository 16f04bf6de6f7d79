/- Texts of layers 1 to 12, joined. -/
import Derived.Test.YtifgcfepbenpjaaGreatNb17
import Derived.Laws.CopyRow
import Derived.Deep.Matrix
import Derived.Lib.SmallJoins
import Derived.Deep.Cut
import Derived.BigQuiet
import Derived.Deep.QuietTactic
set_option maxRecDepth 100000
set_option maxHeartbeats 12800000
set_option linter.unusedVariables false
namespace Go.Proofs.YtifgcfepbenpjaaGreat
open Go.RowKit
end Go.Proofs.YtifgcfepbenpjaaGreat
namespace Go.Proofs.YtifgcfepbenpjaaGreat
open Go.RowKit Go.OpenShut Go.ChangeShapes Go.WideShapes Go.Deep
structure Texts (w:World) (A:Option Addr) (n c:Nat) (zss:List (List Int)):Prop where
 len:zss.length=n
 cap:n≤c
 max:c≤maxLen
 byte:∀ zs ∈ zss,∀ z ∈ zs,isByte z
 at_:∀ i,i < n→∃ b o Ai ni ci,A=some ⟨b,o,none⟩∧b < w.heap.size∧w.cell? ⟨b,o + i,none⟩=some (.slice Ai ni ci)∧Arg w .u8 Ai ni ci (zss.getD i [])
section
variable {w w':World} {A:Option Addr} {n c:Nat} {zss:List (List Int)}
theorem Texts.below (h:Texts w A n c zss) (hb:Below w.heap.size w w'):Texts w' A n c zss :=
 ⟨h.len,h.cap,h.max,h.byte,fun i hi=>by
  obtain ⟨b,o,Ai,ni,ci,e,hlt,hc,ha⟩:=h.at_ i hi
  exact ⟨b,o,Ai,ni,ci,e,Nat.lt_of_lt_of_le hlt hb.size,(hb.cell (p:=⟨b,o + i,none⟩) hlt).trans hc,ha.below hb⟩⟩
theorem Texts.byte_at (h:Texts w A n c zss) (i:Nat):∀ z ∈ zss.getD i [],isByte z:=by
 rcases Nat.lt_or_ge i zss.length with hi | hi
 ·rw [gtD,geE hi]
  exact h.byte _ (List.getElem_mem hi)
 ·rw [gtD,List.getElem?_eq_none hi]
  simp
end
def OwnTexts (w:World) (base:Nat) (A:Option Addr) (n c:Nat) (zss:List (List Int)):Prop :=
 ∃ vs:List Value,w.ownsRow base 42 1 (.slice A n c) n vs∧zss.length=n∧(∀ zs ∈ zss,∀ z ∈ zs,isByte z) ∧
  ∀ i,i < n→∃ Ai ni ci,vs[i]?=some (.slice Ai ni ci)∧w.ownsRow base 5 1 (.slice Ai ni ci) ni (ints .u8 (zss.getD i []))
theorem Texts.of_own {w:World} {base:Nat} {A:Option Addr} {n c:Nat} {zss:List (List Int)} (h:OwnTexts w base A n c zss):Texts w A n c zss:=by
 obtain ⟨vs,hown,hl,hb,hin⟩:=h
 refine ⟨hl,?_,?_,hb,fun i hi=>?_⟩
 ·rcases hown.2 with ⟨e,h0⟩ | ⟨g,cap,cur,e,_,_,h1,h2,_⟩ <;> cases e
  ·exact Nat.le_refl _
  ·exact h1
 ·rcases hown.2 with ⟨e,h0⟩ | ⟨g,cap,cur,e,_,_,h1,h2,_⟩ <;> cases e
  ·decide
  ·exact h2
 ·obtain ⟨Ai,ni,ci,hv,ho⟩:=hin i hi
  obtain ⟨b,o,e,hlt,hc⟩:=Seq.own hown i _ hv
  exact ⟨b,o,Ai,ni,ci,e,hlt,hc,Arg.own ho⟩
section
variable {w w':World} {base base':Nat} {A:Option Addr} {n c:Nat} {zss:List (List Int)}
theorem OwnTexts.below (h:OwnTexts w base A n c zss) (hb:Below w.heap.size w w'):OwnTexts w' base A n c zss:=by
 obtain ⟨vs,hown,hl,hby,hin⟩:=h
 refine ⟨vs,owns_below hown hb,hl,hby,fun i hi=>?_⟩
 obtain ⟨Ai,ni,ci,hv,ho⟩:=hin i hi
 exact ⟨Ai,ni,ci,hv,owns_below ho hb⟩
theorem OwnTexts.nil (w:World) (base:Nat):OwnTexts w base none 0 0 []:=⟨[],World.ownsRow_nil _ _ _ _,rfl,by simp,fun i hi=>by omega⟩
theorem owns_other {e e':TypeId} (he:e≠e') {b b':Nat} {v v':Value} {k k' s s':Nat} {xs xs':List Value} (h:w.ownsRow b e s v k xs) (h':w.ownsRow b' e' s' v' k' xs'):v.ownBlock=none∨v.ownBlock≠v'.ownBlock:=by
 rcases h.2 with ⟨rfl,_⟩ | ⟨g,cap,cur,rfl,_,hg,_⟩
 ·exact .inl rfl
 rcases h'.2 with ⟨rfl,_⟩ | ⟨g',cap',cur',rfl,_,hg',_⟩
 ·exact .inr (by simp [Value.ownBlock])
 ·refine .inr fun e2=>?_
  have e3:g=g':=by simpa [Value.ownBlock] using e2
  rw [e3,hg'] at hg
  simp at hg
  exact he hg.2.symm
end
theorem texts_info:(Tryz.prog.info? 42).map (fun i=>(i.zero,i.size,i.bytes))=some (some (.slice none 0 0),1,24):=by kernel_rfl
theorem OwnTexts.snoc {w w':World} {base:Nat} {A A' Ai:Option Addr} {n c c' ni ci:Nat} {zss:List (List Int)} {zs:List Int} {vs:List Value} (hown0:w.ownsRow base 42 1 (.slice A n c) n vs) (hl:zss.length=n) (hby:∀ zs ∈ zss,∀ z ∈ zs,isByte z)
  (hin:∀ i,i < n→∃ Ai ni ci,vs[i]?=some (.slice Ai ni ci)∧w.ownsRow base 5 1 (.slice Ai ni ci) ni (ints .u8 (zss.getD i []))) (hz:∀ z ∈ zs,isByte z)
  (ho:w.ownsRow base 5 1 (.slice Ai ni ci) ni (ints .u8 zs)) (hg:w.grownBy w' (Value.slice A n c).ownBlock)
  (hown:w'.ownsRow base 42 1 (.slice A' (n + 1) c') (n + 1) (vs ++ [.slice Ai ni ci])):OwnTexts w' base A' (n + 1) c' (zss ++ [zs]):=by
 have hvl:vs.length=n:=by have:=hown0.1;omega
 have hkeep:∀ {A':Option Addr} {n' c':Nat} {xs:List Value},w.ownsRow base 5 1 (.slice A' n' c') n' xs→w'.ownsRow base 5 1 (.slice A' n' c') n' xs:=fun hx =>
  hx.kept hg (owns_other (by decide) hx hown0)
 refine ⟨_,hown,by simp [hl],?_,fun j hj=>?_⟩
 ·intro y hy z hzz
  rcases List.mem_append.1 hy with hy | hy
  ·exact hby y hy z hzz
  ·rw [List.mem_singleton] at hy
   subst hy
   exact hz z hzz
 ·by_cases e:j=n
  ·subst e
   refine ⟨Ai,ni,ci,by rw [List.getElem?_append_right (by omega)];simp [hvl],?_⟩
   have e2:(zss ++ [zs]).getD j []=zs:=by simp [List.getD_eq_getElem?_getD,hl]
   rw [e2]
   exact hkeep ho
  ·obtain ⟨Aj,nj,cj,hv,hoj⟩:=hin j (by omega)
   refine ⟨Aj,nj,cj,by rw [List.getElem?_append_left (by omega)];exact hv,?_⟩
   have e2:(zss ++ [zs]).getD j []=zss.getD j []:=by simp [List.getD_eq_getElem?_getD,List.getElem?_append_left (show j < zss.length by omega)]
   rw [e2]
   exact hkeep hoj
theorem run_text {P:Program} (w0 w:World) (t ty:TypeId) (i:TypeInfo) (z:Value) (ht:P.underlying t=some (.slice 42)) (hi:P.info? 42=some i) (hz:i.zero=some z)
  (hsize:i.size=1) (hby:i.bytes=24) (hzs:z.cells.size=1) (base:Nat) (A0:Option Addr) (n c0:Nat) (zss:List (List Int)) (hown:OwnTexts w base A0 n c0 zss)
  (Ai:Option Addr) (ni ci:Nat) (zs:List Int) (hb:∀ z ∈ zs,isByte z) (hoi:w.ownsRow base 5 1 (.slice Ai ni ci) ni (ints .u8 zs))
  (h63:n + 1≤maxLen) (hbytes:(n + 1) * 24≤140737488355328) (hbel:Below base w0 w) (hw0:base≤w0.heap.size) :
  ∃ A' c' w',(Builtin.append_ #[t,t] ty #[.slice A0 n c0,.slice (some ⟨w.heap.size,0,none⟩) 1 1]).run P (w.alloc (.cells #[.slice Ai ni ci] 42))=.ok (.slice A' (n + 1) c') w'∧OwnTexts w' base A' (n + 1) c' (zss ++ [zs])∧Below base w0 w':=by
 obtain ⟨vs,hv,hl,hby2,hin⟩:=hown
 have hb1:Below w.heap.size w (w.alloc (.cells #[.slice Ai ni ci] 42)):=(Below.refl _ _).alloc (Nat.le_refl _) _
 have hbase:base≤w.heap.size:=Nat.le_trans hw0 hbel.size
 have hseq:Seq (w.alloc (.cells #[.slice Ai ni ci] 42)) (w.heap.size + 1) (some ⟨w.heap.size,0,none⟩) [.slice Ai ni ci]:=by
  have h:=(Blk.new w 42 [.slice Ai ni ci]).seq 0 1
  exact h
 obtain ⟨v',w',hrun,hown',hg,_⟩:=run_app (P:=P) (w.alloc (.cells #[.slice Ai ni ci] 42)) base t ty 42 i z 24 ht hi hz hsize hby hzs _ n vs (hv.allocated _) _ _ 1 1 [.slice Ai ni ci] rfl hseq (by simp [Value.oneCell']) h63 hbytes (by simp;omega)
 obtain ⟨A',c',rfl⟩:=owns_slice hown'
 have hfin:OwnTexts w' base A' (n + 1) c' (zss ++ [zs]):=OwnTexts.snoc (hv.allocated _) hl hby2 (fun i hi=>by
  obtain ⟨Aj,nj,cj,e,hj⟩:=hin i hi
  exact ⟨Aj,nj,cj,e,hj.allocated _⟩) hb (hoi.allocated _) hg hown'
 exact ⟨A',c',w',hrun,hfin,(hbel.alloc hbase _).grown hg (by simp;omega) (fun g e=>(hv.lt g e).1)⟩
theorem wpList_text {P:Program} (w0 w:World) {ops:Array Oper} {rest:List Oper} {o:Oper} {a:Act} {Q:Exit→Act→World→Prop} (hw:Region.wanted o (yielded ops a.tmps)=true) (s x:Operand) (t:TypeId)
  (ho:o.op=.call { callee:=.builtin .append,args:=#[s,x],argTypes:=#[t,t] }) (i:TypeInfo) (z:Value) (ht:P.underlying t=some (.slice 42)) (hi:P.info? 42=some i) (hz:i.zero=some z)
  (hsize:i.size=1) (hby:i.bytes=24) (hzs:z.cells.size=1) (base:Nat) (A0:Option Addr) (n c0:Nat) (zss:List (List Int)) (hs:a.eval s=.slice A0 n c0) (hown:OwnTexts w base A0 n c0 zss)
  (Ai:Option Addr) (ni ci:Nat) (zs:List Int) (hb:∀ z ∈ zs,isByte z) (hoi:w.ownsRow base 5 1 (.slice Ai ni ci) ni (ints .u8 zs)) (hx:a.eval x=.slice (some ⟨w.heap.size,0,none⟩) 1 1)
  (h63:n + 1≤maxLen) (hbytes:(n + 1) * 24≤140737488355328) (hbel:Below base w0 w) (hw0:base≤w0.heap.size)
  (h:∀ A' c' w',OwnTexts w' base A' (n + 1) c' (zss ++ [zs])→Below base w0 w'→wpList P ops Q rest (a.put o.dst (.slice A' (n + 1) c')) w'):wpList P ops Q (o :: rest) a (w.alloc (.cells #[.slice Ai ni ci] 42)):=by
 refine wpList_want hw fun K hK=>?_
 obtain ⟨A',c',w',hrun,h2,h3⟩:=run_text (P:=P) w0 w t o.type i z ht hi hz hsize hby hzs base A0 n c0 zss hown Ai ni ci zs hb hoi h63 hbytes hbel hw0
 unfold Oper.wp execOp
 simp only [ho,resolve,invoke,builtin,Sem.run_bind,Sem.run_pure,Result.andThen_ok,List.map_toArray,List.map_cons,List.map_nil,hs,hx,hrun]
 exact hK _ _ (h A' c' w' h2 h3)
end Go.Proofs.YtifgcfepbenpjaaGreat
namespace Go.Proofs.YtifgcfepbenpjaaGreat
open Go.RowKit
theorem Arg.piece {w:World} {k:IntKind} {g o n c lo hi:Nat} {zs:List Int} (h:Arg w k (some ⟨g,o,none⟩) n c zs) (h1:lo≤hi) (h2:hi≤n):Arg w k (some ⟨g,o + lo,none⟩) (hi - lo) (c - lo) ((zs.drop lo).take (hi - lo)):=by
 refine ⟨?_,by rw [List.length_take,List.length_drop,h.len];omega,by have:=h.cap;omega,by have:=h.max;omega⟩
 have hs:ints k ((zs.drop lo).take (hi - lo))=((ints k zs).drop lo).take (hi - lo):=by simp [ints,List.map_take,List.map_drop]
 rw [hs]
 exact (h.seq.drop lo).take _
end Go.Proofs.YtifgcfepbenpjaaGreat
namespace Go.Proofs.YtifgcfepbenpjaaGreat
end Go.Proofs.YtifgcfepbenpjaaGreat
namespace Go.Proofs.YtifgcfepbenpjaaGreat
open Go.RowKit
end Go.Proofs.YtifgcfepbenpjaaGreat
