/- Texts of the layers below, joined. -/
import Derived.Test.YtdbeiikaeccbhaaDa17
import Derived.Test.YtdbeiikaeccbhaaDa29
import Derived.Test.YtdbeiikaeccbhaaDa30
import Derived.Laws.Rows
import Derived.Laws.CopyOwn
set_option maxRecDepth 100000
set_option maxHeartbeats 12800000
set_option linter.unusedVariables false
namespace Go.Proofs.Ytdbeiikaeccbhaa
open Go.RowKit Go.OpenShut Go.ChangeShapes Go.WideShapes Go.Deep Go.Joins
def OwnActs (w:World) (base:Nat) (A:Option Addr) (n c:Nat) (l:List Ac):Prop :=
 ∃ L,OwnAcs w base A n c L∧l.length=n∧(∀ a ∈ l,∀ z ∈ a.2.2,isByte z) ∧
  ∀ i,i < n→(L.getD i zAx).1=(l.getD i (0,0,[])).1∧(L.getD i zAx).2.1=(l.getD i (0,0,[])).2.1∧OwnTxt w base (L.getD i zAx).2.2.1 (L.getD i zAx).2.2.2.1 (L.getD i zAx).2.2.2.2 (l.getD i (0,0,[])).2.2
section
variable {w w':World} {base base':Nat} {A:Option Addr} {n c:Nat} {l:List Ac}
theorem OwnActs.is (h:OwnActs w base A n c l):∃ L,OwnAcs w base A n c L∧AxIs w L l:=by
 obtain ⟨L,h1,h2,_,h4⟩:=h
 exact ⟨L,h1,by rw [h1.2,h2],fun i hi=>⟨(h4 i (by rw [← h1.2];exact hi)).1,(h4 i (by rw [← h1.2];exact hi)).2.1,(h4 i (by rw [← h1.2];exact hi)).2.2.arg⟩⟩
theorem OwnActs.len (h:OwnActs w base A n c l):l.length=n:=by
 obtain ⟨_,_,h2,_⟩:=h
 exact h2
theorem OwnActs.byte (h:OwnActs w base A n c l):∀ a ∈ l,∀ z ∈ a.2.2,isByte z:=by
 obtain ⟨_,_,_,h3,_⟩:=h
 exact h3
theorem OwnActs.below (h:OwnActs w base A n c l) (hb:Below w.heap.size w w'):OwnActs w' base A n c l:=by
 obtain ⟨L,h1,h2,h3,h4⟩:=h
 exact ⟨L,h1.below hb,h2,h3,fun i hi=>⟨(h4 i hi).1,(h4 i hi).2.1,(h4 i hi).2.2.below hb⟩⟩
theorem OwnActs.lower (h:OwnActs w base A n c l) (hb:base'≤base):OwnActs w base' A n c l:=by
 obtain ⟨L,h1,h2,h3,h4⟩:=h
 exact ⟨L,h1.lower hb,h2,h3,fun i hi=>⟨(h4 i hi).1,(h4 i hi).2.1,(h4 i hi).2.2.lower hb⟩⟩
theorem OwnActs.nil (w:World) (base:Nat):OwnActs w base none 0 0 []:=⟨[],OwnAcs.nil _ _,rfl,by simp,fun i hi=>absurd hi (Nat.not_lt_zero _)⟩
theorem OwnActs.keep (h:OwnActs w base A n c l) (hk:∀ (g:Nat) (e:TypeId) (cs:Array Value),(e=45∨e=5)→base≤g→w.heap[g]?=some (.cells cs e (0,0))→w'.heap[g]?=w.heap[g]?):OwnActs w' base A n c l:=by
 obtain ⟨L,h1,h2,h3,h4⟩:=h
 refine ⟨L,h1.keep fun g cs hg hc=>hk g _ cs (.inl rfl) hg hc,h2,h3,fun i hi=>⟨(h4 i hi).1,(h4 i hi).2.1,(h4 i hi).2.2.keep fun g hg hu=>?_⟩⟩
 obtain ⟨cs,hc⟩:=hu
 exact hk g _ cs (.inr rfl) hg hc
theorem OwnActs.kept (h:OwnActs w base A n c l) {row:Option Nat} (hg:w.grownBy w' row) (hr:∀ g,row=some g→g < base):OwnActs w' base A n c l :=
 h.keep fun g _ _ _ hb hc=>hg.block g (Array.getElem?_eq_some_iff.1 hc).1 (fun e=>by have:=hr g e.symm;omega)
theorem OwnActs.away (h:OwnActs w base A n c l) {g:Nat} (hg:g < base) (i:Nat) (u:Value):OwnActs (w.setCell ⟨g,i,none⟩ u) base A n c l :=
 h.kept (grownBy_set w g i u) (fun _ e=>by injection e with e;omega)
end
theorem run_acs_g {base:Nat} (w:World) (ty:TypeId) (A0:Option Addr) (n0 c0:Nat) (M:List Ax) (hown:OwnAcs w base A0 n0 c0 M) (r:Ax) (h63:n0 + 1≤100000) (hbase:base≤w.heap.size) :
  ∃ A' c' w',(Builtin.append_ #[23,23] ty #[.slice A0 n0 c0,.slice (some ⟨w.heap.size,0,none⟩) 1 1]).run Try.prog (w.alloc (.cells (axL r).toArray 45))=.ok (.slice A' (n0 + 1) c') w'∧OwnAcs w' base A' (n0 + 1) c' (M ++ [r])∧Below base w w'∧w.grownBy w' (Value.slice A0 n0 c0).ownBlock:=by
 obtain ⟨i,hi,hz,hsize,hby⟩:=info_parts act_info
 have hml:(100000:Nat)≤maxLen:=by decide
 have hlit:=Blk.new w 45 (axL r)
 have hcs:∀ j u,(axL r)[j]?=some u→(w.alloc (.cells (axL r).toArray 45)).cell? ((⟨w.heap.size,0,none⟩:Addr).add j)=some u:=by
  intro j u hu
  have e2:(⟨w.heap.size,0,none⟩:Addr).add j=⟨w.heap.size,0 + j,none⟩:=by unfold Addr.add;split <;> simp_all
  rw [e2,Nat.zero_add,hlit.cell j]
  exact hu
 obtain ⟨v',w',h,r2,r3,_,_⟩:=run_append_own_at (P:=Try.prog) (w.alloc (.cells (axL r).toArray 45)) base 23 ty 45 i _ 29 264 Try.underlying23 hi hz hsize hby rfl (by omega) _ n0 (acsV M) (hown.1.alloc _) ⟨w.heap.size,0,none⟩ 1 1 (axL r) rfl hcs (one_act r) (by omega) (by omega) (by simp;omega)
 obtain ⟨g',c',rfl⟩:=ownsRow_some r2
 exact ⟨some ⟨g',0,none⟩,c',w',h,⟨by rw [acsV_app,acsV_one];exact r2,by simp [hown.2]⟩,((Below.refl base w).alloc hbase _).grown r3 (by simp;omega) (fun g e=>(hown.1.lt g e).1),(World.grownBy_alloc w _ _).trans r3⟩
theorem wpList_acs_g (w:World) {ops:Array Oper} {rest:List Oper} {o:Oper} {a:Act} {Q:Exit→Act→World→Prop} (hw:Region.wanted o (yielded ops a.tmps)=true) (s x:Operand)
  (ho:o.op=.call { callee:=.builtin .append,args:=#[s,x],argTypes:=#[23,23] }) (base:Nat) (A0:Option Addr) (n c0:Nat) (M:List Ax) (hs:a.eval s=.slice A0 n c0) (hown:OwnAcs w base A0 n c0 M)
  (r:Ax) (hx:a.eval x=.slice (some ⟨w.heap.size,0,none⟩) 1 1) (h63:n + 1≤100000) (hw0:base≤w.heap.size)
  (h:∀ A' c' w',OwnAcs w' base A' (n + 1) c' (M ++ [r])→Below base w w'→w.grownBy w' (Value.slice A0 n c0).ownBlock→wpList Try.prog ops Q rest (a.put o.dst (.slice A' (n + 1) c')) w'):wpList Try.prog ops Q (o :: rest) a (w.alloc (.cells (axL r).toArray 45)):=by
 refine wpList_want hw fun K hK=>?_
 obtain ⟨A',c',w',hrun,h2,h3,h4⟩:=run_acs_g w o.type A0 n c0 M hown r h63 hw0
 unfold Oper.wp execOp
 simp only [ho,resolve,invoke,builtin,Sem.run_bind,Sem.run_pure,Result.andThen_ok,List.map_toArray,List.map_cons,List.map_nil,hs,hx,hrun]
 exact hK _ _ (h A' c' w' h2 h3 h4)
theorem step_acs_g (w:World) {ops:Array Oper} {o:Oper} {a:Act} {K:Act→World→Prop} {Q:Exit→Act→World→Prop} {E:Prop} (hgd:o.guard=none) (s x:Operand)
  (ho:o.op=.call { callee:=.builtin .append,args:=#[s,x],argTypes:=#[23,23] }) (base:Nat) (A0:Option Addr) (n c0:Nat) (M:List Ax) (hs:a.eval s=.slice A0 n c0) (hown:OwnAcs w base A0 n c0 M)
  (r:Ax) (hx:a.eval x=.slice (some ⟨w.heap.size,0,none⟩) 1 1) (h63:n + 1≤100000) (hw0:base≤w.heap.size)
  (h:∀ A' c' w',OwnAcs w' base A' (n + 1) c' (M ++ [r])→Below base w w'→w.grownBy w' (Value.slice A0 n c0).ownBlock→K (a.put o.dst (.slice A' (n + 1) c')) w') :
  if Region.wanted o (yielded ops a.tmps)=true then Oper.wp Try.prog o a (w.alloc (.cells (axL r).toArray 45)) K Q else E:=by
 have hw:Region.wanted o (yielded ops a.tmps)=true:=by simp [Region.wanted,hgd]
 rw [if_pos hw]
 obtain ⟨A',c',w',hrun,h2,h3,h4⟩:=run_acs_g w o.type A0 n c0 M hown r h63 hw0
 unfold Oper.wp execOp
 simp only [ho,resolve,invoke,builtin,Sem.run_bind,Sem.run_pure,Result.andThen_ok,List.map_toArray,List.map_cons,List.map_nil,hs,hx,hrun]
 exact h A' c' w' h2 h3 h4
theorem OwnActs.snoc {w w1:World} {base:Nat} {A A':Option Addr} {n c c':Nat} {l:List Ac} {L:List Ax} {k x:Int} {Ai:Option Addr} {ni ci:Nat} {b:Txt}
  (hL:OwnAcs w base A n c L) (hl:l.length=n) (hby:∀ a ∈ l,∀ z ∈ a.2.2,isByte z)
  (hin:∀ i,i < n→(L.getD i zAx).1=(l.getD i (0,0,[])).1∧(L.getD i zAx).2.1=(l.getD i (0,0,[])).2.1∧OwnTxt w base (L.getD i zAx).2.2.1 (L.getD i zAx).2.2.2.1 (L.getD i zAx).2.2.2.2 (l.getD i (0,0,[])).2.2)
  (ht:OwnTxt w base Ai ni ci b) (hbb:∀ z ∈ b,isByte z) (h2:OwnAcs w1 base A' (n + 1) c' (L ++ [(k,x,Ai,ni,ci)])) (h4:w.grownBy w1 (Value.slice A n c).ownBlock) :
  OwnActs w1 base A' (n + 1) c' (l ++ [(k,x,b)]):=by
 have htx:∀ {A1:Option Addr} {n1 c1:Nat} {zs:List Int},OwnTxt w base A1 n1 c1 zs→OwnTxt w1 base A1 n1 c1 zs:=fun {A1 n1 c1 zs} hx =>
  hx.keep (w':=w1) fun g hg hu=>h4.block g hu.lt fun e=>u8_row (by decide) hu hL.1 e.symm
 refine ⟨L ++ [(k,x,Ai,ni,ci)],h2,by simp [hl],?_,fun i hi=>?_⟩
 ·intro a ha
  rcases List.mem_append.1 ha with ha | ha
  ·exact hby a ha
  ·rw [List.mem_singleton.1 ha]
   exact hbb
 ·have hLn:=hL.2
  by_cases hin':i < n
  ·rw [gtD,List.getElem?_append_left (by omega),gtD,List.getElem?_append_left (by omega),← gtD,← gtD]
   exact ⟨(hin i hin').1,(hin i hin').2.1,htx (hin i hin').2.2⟩
  ·have e:i=n:=by omega
   subst e
   rw [gtD,List.getElem?_append_right (by omega),gtD,List.getElem?_append_right (by omega),hl,hLn]
   simp only [Nat.sub_self,gcZ,Option.getD_some]
   exact ⟨trivial,trivial,htx ht⟩
end Go.Proofs.Ytdbeiikaeccbhaa
namespace Go.Proofs.Ytdbeiikaeccbhaa
open Go.RowKit
set_option maxRecDepth 100000
abbrev volV (P T A M W Q p:Int) (D:Option Addr) (n c:Nat):Value:=.agg #[.int .i64 P,.int .i64 T,.int .i64 A,.int .i64 M,.int .i64 W,.int .i64 Q,.int .i64 p,.slice D n c]
abbrev volL (P T A M W Q p:Int) (D:Option Addr) (n c:Nat):List Value:=[.int .i64 P,.int .i64 T,.int .i64 A,.int .i64 M,.int .i64 W,.int .i64 Q,.int .i64 p,.slice D n c]
theorem vol_box (w:World) (P T A M W Q p:Int) (D:Option Addr) (n c:Nat) :
  Blk (w.alloc (.cells #[.int .i64 P,.int .i64 T,.int .i64 A,.int .i64 M,.int .i64 W,.int .i64 Q,.int .i64 p,.slice D n c] 72)) w.heap.size 72 (volL P T A M W Q p D n c)∧Below w.heap.size w (w.alloc (.cells #[.int .i64 P,.int .i64 T,.int .i64 A,.int .i64 M,.int .i64 W,.int .i64 Q,.int .i64 p,.slice D n c] 72)) :=
 ⟨Blk.new w 72 (volL P T A M W Q p D n c),(Below.refl _ _).alloc (Nat.le_refl _) _⟩
theorem Blk.vol {w:World} {g:Nat} {t:TypeId} {P T A M W Q p:Int} {D:Option Addr} {n c:Nat} (h:Blk w g t (volL P T A M W Q p D n c)) :
  w.cell? ⟨g,0,none⟩=some (.int .i64 P)∧w.cell? ⟨g,1,none⟩=some (.int .i64 T)∧w.cell? ⟨g,2,none⟩=some (.int .i64 A)∧w.cell? ⟨g,3,none⟩=some (.int .i64 M)∧w.cell? ⟨g,4,none⟩=some (.int .i64 W)∧w.cell? ⟨g,5,none⟩=some (.int .i64 Q)∧w.cell? ⟨g,6,none⟩=some (.int .i64 p)∧w.cell? ⟨g,7,none⟩=some (.slice D n c) :=
 ⟨h.cell 0,h.cell 1,h.cell 2,h.cell 3,h.cell 4,h.cell 5,h.cell 6,h.cell 7⟩
theorem actL_one (k x:Int) (A:Option Addr) (n c:Nat):(actL k x A n c).toArray.all (fun v=>v.oneCell')=true:=by
 rw [List.all_toArray]
 exact List.all_eq_true.2 (one_act (k,x,A,n,c))
def ActOut (w:World) (x:Int) (L:Txt) (e:Ending) (w':World):Prop :=
 ∃ A c,e=.returned (actV 1 x A 32 c)∧w'.ownsRow w.heap.size 5 1 (.slice A 32 c) 32 (ints .u8 L)∧Below w.heap.size w w'
theorem pvwrite_any (P T A M W Q p:Int) (D:Option Addr) (n c:Nat) (k b:Int) (w:World) (h0:pgeE P T A M W Q p k=0) (hs:subP b (fulP T k.toNat)) (hb:isByte b) :
  Calls Try.prog 53 #[volV P T A M W Q p D n c,.int .i64 k,.int .u8 b] w (ActOut w (atP T A p k) (pgSec p k b)):=by
 obtain ⟨x,hb1⟩:=vol_box w P T A M W Q p D n c
 have y:=Blk.new (w.alloc (.cells #[.int .i64 P,.int .i64 T,.int .i64 A,.int .i64 M,.int .i64 W,.int .i64 Q,.int .i64 p,.slice D n c] 72)) 45 (actL 0 0 none 0 0)
 rw [World.size_alloc] at y
 change Blk ((w.alloc (.cells #[.int .i64 P,.int .i64 T,.int .i64 A,.int .i64 M,.int .i64 W,.int .i64 Q,.int .i64 p,.slice D n c] 72)).alloc (.cells #[.int .u8 0,.int .i64 0,.slice none 0 0,.int .u32 0,.int .u32 0,.int .u8 0,.int .i64 0,.bool false,.int .i64 0,.int .u32 0,.int .u32 0,.int .i64 0,.int .u8 0,.int .i64 0,.bool false,.bool false,.int .u8 0,.int .u32 0,.int .u32 0,.int .i64 0,.int .u32 0,.int .i64 0,.slice none 0 0,.slice none 0 0,.int .i64 0,.int .i64 0,.int .u8 0,.slice none 0 0,.int .i64 0] 45)) _ _ _ at y
 have hb2:Below w.heap.size w ((w.alloc (.cells #[.int .i64 P,.int .i64 T,.int .i64 A,.int .i64 M,.int .i64 W,.int .i64 Q,.int .i64 p,.slice D n c] 72)).alloc (.cells #[.int .u8 0,.int .i64 0,.slice none 0 0,.int .u32 0,.int .u32 0,.int .u8 0,.int .i64 0,.bool false,.int .i64 0,.int .u32 0,.int .u32 0,.int .i64 0,.int .u8 0,.int .i64 0,.bool false,.bool false,.int .u8 0,.int .u32 0,.int .u32 0,.int .i64 0,.int .u32 0,.int .i64 0,.slice none 0 0,.slice none 0 0,.int .i64 0,.int .i64 0,.int .u8 0,.slice none 0 0,.int .i64 0] 45)):=hb1.alloc hb1.size _
 have x:=x.grown (World.grownBy_alloc _ (.cells #[.int .u8 0,.int .i64 0,.slice none 0 0,.int .u32 0,.int .u32 0,.int .u8 0,.int .i64 0,.bool false,.int .i64 0,.int .u32 0,.int .u32 0,.int .i64 0,.int .u8 0,.int .i64 0,.bool false,.bool false,.int .u8 0,.int .u32 0,.int .u32 0,.int .i64 0,.int .u32 0,.int .i64 0,.slice none 0 0,.slice none 0 0,.int .i64 0,.int .i64 0,.int .u8 0,.slice none 0 0,.int .i64 0] 45) none) (by simp)
 have hx0:pxE P T A M W Q p k b=0:=by unfold pxE;rw [if_pos h0,if_pos hs]
 have PL:=Lh (fun wx=>pgplan_any P T A M W Q p k b wx hb)
 rw [show pxN P T A M W Q p k b=atP T A p k from if_pos hx0,show pxT P T A M W Q p k b=pgSec p k b from if_pos hx0,hx0] at PL
 obtain ⟨w1,hw1⟩:∃ x:World,x=((w.alloc (.cells #[.int .i64 P,.int .i64 T,.int .i64 A,.int .i64 M,.int .i64 W,.int .i64 Q,.int .i64 p,.slice D n c] 72)).alloc (.cells #[.int .u8 0,.int .i64 0,.slice none 0 0,.int .u32 0,.int .u32 0,.int .u8 0,.int .i64 0,.bool false,.int .i64 0,.int .u32 0,.int .u32 0,.int .i64 0,.int .u8 0,.int .i64 0,.bool false,.bool false,.int .u8 0,.int .u32 0,.int .u32 0,.int .i64 0,.int .u32 0,.int .i64 0,.slice none 0 0,.slice none 0 0,.int .i64 0,.int .i64 0,.int .u8 0,.slice none 0 0,.int .i64 0] 45)):=⟨_,rfl⟩
 rw [← hw1] at x y hb2
 have X:=Lh x
 have Y:=Lh y
 have B:=Lh hb2
 obtain ⟨a,ha⟩:∃ a,a=atP T A p k:=⟨_,rfl⟩
 have hl:(pgSec p k b).length=32:=pgSec_len _ _
 obtain ⟨L,hL⟩:∃ L:Txt,L=pgSec p k b:=⟨_,rfl⟩
 rw [← hL] at PL hl ⊢
 rw [← ha] at PL ⊢
 have HL:=Lh hl
 obtain ⟨c0,c1,c2,c3,c4,c5,c6,c7⟩:=x.vol
 clear x y hb1 hb2 h0 hs hb hx0 ha hL hl
 go_enter Try.func53,Try.ntmps53
 go_wp2_with fail
 rw [← hw1]
 clear hw1
 refine (PL.out _).mono ?_
 rintro e w2 ⟨A3,r3,rfl,hown,hb⟩
 rw [HL.out] at hown
 simp only [HL.out]
 have O:=Lh (owns_base hown B.out.size)
 have B:=Lh (B.out.trans (hb.mono B.out.size))
 have Y:=Lh (Y.out.below hb Y.out.lt)
 clear hb hown PL c0 c1 c2 c3 c4 c5 c6 c7 X
 have z:=Blk.new w2 33 [.int .i64 a,.slice A3 32 r3]
 have hk:Below w2.heap.size w2 (w2.alloc (.cells #[.int .i64 a,.slice A3 32 r3] 33)):=(Below.refl _ _).alloc (Nat.le_refl _) _
 obtain ⟨w3,hw3⟩:∃ x:World,x=w2.alloc (.cells #[.int .i64 a,.slice A3 32 r3] 33):=⟨_,rfl⟩
 change Blk (w2.alloc (.cells #[.int .i64 a,.slice A3 32 r3] 33)) _ _ _ at z
 rw [← hw3] at z hk
 have O:=Lh (owns_below O.out hk)
 have B:=Lh (B.out.trans (hk.mono B.out.size))
 have Y:=Lh (Y.out.below hk Y.out.lt)
 have d0:w3.cell? ⟨w2.heap.size,0,none⟩=some (.int .i64 a):=z.cell 0
 have d1:w3.cell? ⟨w2.heap.size,1,none⟩=some (.slice A3 32 r3):=z.cell 1
 clear z hk
 go_upto_region 2 with fail
 rw [← hw3]
 clear hw3
 have hD:=setRow_heap w3 (w.heap.size + 1) _ (actL 1 a A3 32 r3).toArray _ _ Y.out
 have O:=Lh (owns_keep O.out (w':=w3.setRow (w.heap.size + 1) (actL 1 a A3 32 r3).toArray) (fun g cs _ hc=>setRow_other w3 _ g _ (fun e=>by
  subst e
  have h:=Y.out
  unfold Blk at h
  rw [h] at hc
  simp at hc)))
 have B2:=Lh (below_setRow (g:=w.heap.size + 1) B.out (Nat.le_succ _) (actL 1 a A3 32 r3).toArray)
 go_wp2_with (refine wpList_store_row (o:=⟨none,.store 45 (.tmp 6) (.tmp 23),_,_,_,_⟩) rfl 45 (.tmp 6) (.tmp 23) rfl (w.heap.size + 1) (actL 1 a A3 32 r3).toArray rfl rfl 45 _ Y.out (by kernel_rfl) rfl (actL_one 1 a A3 32 r3) ?_)
 exact bodyPost_ret (results_cell_row rfl _ _ (w.heap.size + 1) 45 _ (0,0) _ rfl hD Try.underlying45 rfl (by kernel_rfl)) rfl ⟨A3,r3,rfl,O.out,B2.out⟩
end Go.Proofs.Ytdbeiikaeccbhaa
