/- Texts of layers 1 to 12, joined. -/
import Derived.Test.YtifgcfepbenpjaaGreatNa37
import Derived.Maps.AppendAt
import Derived.Deep.Slices
set_option maxRecDepth 100000
set_option maxHeartbeats 12800000
set_option linter.unusedVariables false
namespace Go.Proofs.YtifgcfepbenpjaaGreat
open Go.RowKit Go.OpenShut Go.ChangeShapes Go.WideShapes Go.Deep Go.Joins
abbrev actV (k x:Int) (A:Option Addr) (n c:Nat):Value:=.agg #[.int .u8 k,.int .i64 x,.slice A n c,.int .u32 0,.int .u32 0,.int .u8 0,.int .i64 0,.bool false,.int .i64 0,.int .u32 0,.int .u32 0,.int .i64 0,.int .u8 0,.int .i64 0,.bool false,.bool false,.int .u8 0,.int .u32 0,.int .u32 0,.int .i64 0,.int .u32 0,.int .i64 0,.slice none 0 0,.slice none 0 0,.int .i64 0,.int .i64 0,.int .u8 0,.slice none 0 0,.int .i64 0]
abbrev actL (k x:Int) (A:Option Addr) (n c:Nat):List Value:=[.int .u8 k,.int .i64 x,.slice A n c,.int .u32 0,.int .u32 0,.int .u8 0,.int .i64 0,.bool false,.int .i64 0,.int .u32 0,.int .u32 0,.int .i64 0,.int .u8 0,.int .i64 0,.bool false,.bool false,.int .u8 0,.int .u32 0,.int .u32 0,.int .i64 0,.int .u32 0,.int .i64 0,.slice none 0 0,.slice none 0 0,.int .i64 0,.int .i64 0,.int .u8 0,.slice none 0 0,.int .i64 0]
theorem act_info:(Tryz.prog.info? 75).map (fun i=>(i.zero,i.size,i.bytes))=some (some (actV 0 0 none 0 0),29,264):=by kernel_rfl
abbrev Ax:=Int × Int × (Option Addr × Nat × Nat)
def axL (a:Ax):List Value:=actL a.1 a.2.1 a.2.2.1 a.2.2.2.1 a.2.2.2.2
def acsV (L:List Ax):List Value:=L.flatMap axL
theorem axL_length (a:Ax):(axL a).length=29:=rfl
theorem acsV_length (L:List Ax):(acsV L).length=L.length * 29:=by
 induction L with
 | nil=>rfl
 | cons r L ih=>unfold acsV at ih ⊢;rw [List.flatMap_cons,List.length_append,ih,axL_length];simp;omega
def zAx:Ax:=(0,0,none,0,0)
theorem acsV_at {L:List Ax} {i j:Nat} (hi:i < L.length) (hj:j < 29):(acsV L)[i * 29 + j]?=(axL (L.getD i zAx))[j]?:=by
 induction L generalizing i with
 | nil=>exact absurd hi (Nat.not_lt_zero _)
 | cons r L ih =>
  have e:acsV (r :: L)=axL r ++ acsV L:=rfl
  rw [e]
  cases i with
  | zero =>
   rw [Nat.zero_mul,Nat.zero_add,List.getElem?_append_left (by rw [axL_length];exact hj)]
   rfl
  | succ i =>
   rw [List.getElem?_append_right (by rw [axL_length];omega),show (i + 1) * 29 + j - (axL r).length=i * 29 + j by rw [axL_length];omega,ih (by simpa using hi)]
   rfl
theorem acsV_app (L M:List Ax):acsV (L ++ M)=acsV L ++ acsV M:=List.flatMap_append
theorem acsV_one (r:Ax):acsV [r]=axL r:=by simp [acsV]
theorem one_act (r:Ax):∀ v ∈ axL r,v.oneCell'=true:=by
 have h:(axL r).all (fun v=>v.oneCell')=true:=rfl
 intro v hv
 exact List.all_eq_true.1 h v hv
theorem one_acs (L:List Ax):∀ v ∈ acsV L,v.oneCell'=true:=fun v hv=>by
 obtain ⟨r,_,h⟩:=List.mem_flatMap.1 hv
 exact one_act r v h
def OwnAcs (w:World) (base:Nat) (A:Option Addr) (n c:Nat) (L:List Ax):Prop:=w.ownsRow base 75 29 (.slice A n c) n (acsV L)∧L.length=n
section
variable {w w':World} {base base':Nat} {A:Option Addr} {n c:Nat} {L:List Ax}
theorem OwnAcs.below (h:OwnAcs w base A n c L) (hb:Below w.heap.size w w'):OwnAcs w' base A n c L:=⟨owns_below h.1 hb,h.2⟩
theorem OwnAcs.lower (h:OwnAcs w base A n c L) (hb:base'≤base):OwnAcs w base' A n c L:=⟨owns_base h.1 hb,h.2⟩
theorem OwnAcs.nil (w:World) (base:Nat):OwnAcs w base none 0 0 []:=⟨World.ownsRow_nil _ _ _ _,rfl⟩
theorem OwnAcs.keep (h:OwnAcs w base A n c L) (hk:∀ (g:Nat) (cs:Array Value),base≤g→w.heap[g]?=some (.cells cs 75 (0,0))→w'.heap[g]?=w.heap[g]?):OwnAcs w' base A n c L :=
 ⟨owns_keep h.1 fun g cs hg hc=>hk g cs hg hc,h.2⟩
theorem OwnAcs.away (h:OwnAcs w base A n c L) {g:Nat} (hg:g < base) (i:Nat) (u:Value):OwnAcs (w.setCell ⟨g,i,none⟩ u) base A n c L :=
 h.keep fun g' _ hb hc=>(grownBy_set w g i u).block g' (Array.getElem?_eq_some_iff.1 hc).1 (fun e=>by injection e with e;omega)
theorem OwnAcs.cell (h:OwnAcs w base A n c L) {i:Nat} (hi:i < n):∃ b,A=some ⟨b,0,none⟩∧b < w.heap.size∧∀ j v,(axL (L.getD i zAx))[j]?=some v→w.cell? ⟨b,i * 29 + j,none⟩=some v:=by
 obtain ⟨hown,hl⟩:=h
 have h0:(acsV L)[i * 29 + 0]?=some (.int .u8 (L.getD i zAx).1):=by rw [acsV_at (by omega) (by omega)];rfl
 obtain ⟨b,e,hlt,_⟩:=owns_cell hown h0
 refine ⟨b,e,hlt,fun j v hv=>?_⟩
 have hj:j < 29:=by
  rcases Nat.lt_or_ge j 29 with hj | hj
  ·exact hj
  ·rw [List.getElem?_eq_none (by rw [axL_length];exact hj)] at hv;cases hv
 have h1:(acsV L)[i * 29 + j]?=some v:=by rw [acsV_at (by omega) hj];exact hv
 obtain ⟨b',e',_,hc⟩:=owns_cell hown h1
 rw [e] at e'
 cases e'
 exact hc
theorem OwnAcs.row (h:OwnAcs w base A n c L) {i:Nat} (hi:i < n):∃ b,A=some ⟨b,0,none⟩∧b < w.heap.size∧w.cell? ⟨b,i * 29,none⟩=some (.int .u8 (L.getD i zAx).1)∧w.cell? ⟨b,i * 29 + 1,none⟩=some (.int .i64 (L.getD i zAx).2.1)∧w.cell? ⟨b,i * 29 + 2,none⟩=some (.slice (L.getD i zAx).2.2.1 (L.getD i zAx).2.2.2.1 (L.getD i zAx).2.2.2.2):=by
 obtain ⟨b,e,hlt,hc⟩:=h.cell hi
 exact ⟨b,e,hlt,hc 0 _ rfl,hc 1 _ rfl,hc 2 _ rfl⟩
theorem run_acs (w0 w:World) (ty:TypeId) (A0:Option Addr) (n0 c0:Nat) (M:List Ax) (hown:OwnAcs w base A0 n0 c0 M) (r:Ax) (h63:n0 + 1≤100000) (hbel:Below base w0 w) (hw0:base≤w0.heap.size) :
  ∃ A' c' w',(Builtin.append_ #[38,38] ty #[.slice A0 n0 c0,.slice (some ⟨w.heap.size,0,none⟩) 1 1]).run Tryz.prog (w.alloc (.cells (axL r).toArray 75))=.ok (.slice A' (n0 + 1) c') w'∧OwnAcs w' base A' (n0 + 1) c' (M ++ [r])∧Below base w0 w':=by
 obtain ⟨i,hi,hz,hsize,hby⟩:=info_parts act_info
 have hml:(100000:Nat)≤maxLen:=by decide
 have hbase:base≤w.heap.size:=Nat.le_trans hw0 hbel.size
 have hlit:=Blk.new w 75 (axL r)
 have hcs:∀ j u,(axL r)[j]?=some u→(w.alloc (.cells (axL r).toArray 75)).cell? ((⟨w.heap.size,0,none⟩:Addr).add j)=some u:=by
  intro j u hu
  have e2:(⟨w.heap.size,0,none⟩:Addr).add j=⟨w.heap.size,0 + j,none⟩:=by unfold Addr.add;split <;> simp_all
  rw [e2,Nat.zero_add,hlit.cell j]
  exact hu
 obtain ⟨v',w',h,r2,r3,_,_⟩:=run_append_own_at (P:=Tryz.prog) (w.alloc (.cells (axL r).toArray 75)) base 38 ty 75 i _ 29 264 Tryz.underlying38 hi hz hsize hby rfl (by omega) _ n0 (acsV M) (hown.1.alloc _) ⟨w.heap.size,0,none⟩ 1 1 (axL r) rfl hcs (one_act r) (by omega) (by omega) (by simp;omega)
 obtain ⟨g',c',rfl⟩:=ownsRow_some r2
 exact ⟨some ⟨g',0,none⟩,c',w',h,⟨by rw [acsV_app,acsV_one];exact r2,by simp [hown.2]⟩,(hbel.alloc hbase _).grown r3 (by simp;omega) (fun g e=>(hown.1.lt g e).1)⟩
theorem wpList_acs (w0 w:World) {ops:Array Oper} {rest:List Oper} {o:Oper} {a:Act} {Q:Exit→Act→World→Prop} (hw:Region.wanted o (yielded ops a.tmps)=true) (s x:Operand)
  (ho:o.op=.call { callee:=.builtin .append,args:=#[s,x],argTypes:=#[38,38] }) (base:Nat) (A0:Option Addr) (n c0:Nat) (M:List Ax) (hs:a.eval s=.slice A0 n c0) (hown:OwnAcs w base A0 n c0 M)
  (r:Ax) (hx:a.eval x=.slice (some ⟨w.heap.size,0,none⟩) 1 1) (h63:n + 1≤100000) (hbel:Below base w0 w) (hw0:base≤w0.heap.size)
  (h:∀ A' c' w',OwnAcs w' base A' (n + 1) c' (M ++ [r])→Below base w0 w'→wpList Tryz.prog ops Q rest (a.put o.dst (.slice A' (n + 1) c')) w'):wpList Tryz.prog ops Q (o :: rest) a (w.alloc (.cells (axL r).toArray 75)):=by
 refine wpList_want hw fun K hK=>?_
 obtain ⟨A',c',w',hrun,h2,h3⟩:=run_acs w0 w o.type A0 n c0 M hown r h63 hbel hw0
 unfold Oper.wp execOp
 simp only [ho,resolve,invoke,builtin,Sem.run_bind,Sem.run_pure,Result.andThen_ok,List.map_toArray,List.map_cons,List.map_nil,hs,hx,hrun]
 exact hK _ _ (h A' c' w' h2 h3)
theorem step_acs (w0 w:World) {ops:Array Oper} {o:Oper} {a:Act} {K:Act→World→Prop} {Q:Exit→Act→World→Prop} {E:Prop} (hgd:o.guard=none) (s x:Operand)
  (ho:o.op=.call { callee:=.builtin .append,args:=#[s,x],argTypes:=#[38,38] }) (base:Nat) (A0:Option Addr) (n c0:Nat) (M:List Ax) (hs:a.eval s=.slice A0 n c0) (hown:OwnAcs w base A0 n c0 M)
  (r:Ax) (hx:a.eval x=.slice (some ⟨w.heap.size,0,none⟩) 1 1) (h63:n + 1≤100000) (hbel:Below base w0 w) (hw0:base≤w0.heap.size)
  (h:∀ A' c' w',OwnAcs w' base A' (n + 1) c' (M ++ [r])→Below base w0 w'→K (a.put o.dst (.slice A' (n + 1) c')) w') :
  if Region.wanted o (yielded ops a.tmps)=true then Oper.wp Tryz.prog o a (w.alloc (.cells (axL r).toArray 75)) K Q else E:=by
 have hw:Region.wanted o (yielded ops a.tmps)=true:=by simp [Region.wanted,hgd]
 rw [if_pos hw]
 obtain ⟨A',c',w',hrun,h2,h3⟩:=run_acs w0 w o.type A0 n c0 M hown r h63 hbel hw0
 unfold Oper.wp execOp
 simp only [ho,resolve,invoke,builtin,Sem.run_bind,Sem.run_pure,Result.andThen_ok,List.map_toArray,List.map_cons,List.map_nil,hs,hx,hrun]
 exact h A' c' w' h2 h3
theorem run_acs_more (w:World) (ty:TypeId) (A0:Option Addr) (n0 c0:Nat) (M:List Ax) (hown:OwnAcs w base A0 n0 c0 M) (A1:Option Addr) (n1 c1:Nat) (L1:List Ax) (base1:Nat) (h1:OwnAcs w base1 A1 n1 c1 L1) (hn1:1≤n1) (h63:n0 + n1≤100000) (hwb:base≤w.heap.size) :
  ∃ A' c' w',(Builtin.append_ #[38,38] ty #[.slice A0 n0 c0,.slice A1 n1 c1]).run Tryz.prog w=.ok (.slice A' (n0 + n1) c') w'∧OwnAcs w' base A' (n0 + n1) c' (M ++ L1)∧w.grownBy w' (Value.slice A0 n0 c0).ownBlock:=by
 obtain ⟨i,hi,hz,hsize,hby⟩:=info_parts act_info
 have hml:(100000:Nat)≤maxLen:=by decide
 obtain ⟨b,rfl,hlt,_⟩:=h1.cell (i:=0) (by omega)
 have hcs:∀ j u,(acsV L1)[j]?=some u→w.cell? ((⟨b,0,none⟩:Addr).add j)=some u:=by
  intro j u hu
  have e2:(⟨b,0,none⟩:Addr).add j=⟨b,0 + j,none⟩:=by unfold Addr.add;split <;> simp_all
  rw [e2,Nat.zero_add]
  obtain ⟨b',e',_,hc⟩:=owns_cell h1.1 hu
  obtain rfl:b=b':=congrArg (fun x:Option Addr=>(x.getD ⟨0,0,none⟩).block) e'
  exact hc
 obtain ⟨v',w',h,r2,r3,_,_⟩:=run_append_own_at (P:=Tryz.prog) w base 38 ty 75 i _ 29 264 Tryz.underlying38 hi hz hsize hby rfl (by omega) _ n0 (acsV M) hown.1 ⟨b,0,none⟩ n1 c1 (acsV L1) (by rw [acsV_length,h1.2]) hcs (one_acs L1) (by omega) (by omega) (by omega)
 have hv:∃ A' c',v'=.slice A' (n0 + n1) c':=by
  rcases r2.2 with ⟨_,h0⟩ | ⟨g,cap,cur,rfl,_⟩
  ·exact absurd h0 (by omega)
  ·exact ⟨_,_,rfl⟩
 obtain ⟨A',c',rfl⟩:=hv
 exact ⟨A',c',w',h,⟨by rw [acsV_app];exact r2,by simp [hown.2,h1.2]⟩,r3⟩
end
def AxIs (w:World) (L:List Ax) (l:List Ac):Prop:=l.length=L.length∧∀ i,i < L.length→(L.getD i zAx).1=(l.getD i (0,0,[])).1∧(L.getD i zAx).2.1=(l.getD i (0,0,[])).2.1∧Arg w .u8 (L.getD i zAx).2.2.1 (L.getD i zAx).2.2.2.1 (L.getD i zAx).2.2.2.2 (l.getD i (0,0,[])).2.2
theorem AxIs.below {w w':World} {L:List Ax} {l:List Ac} (h:AxIs w L l) (hb:Below w.heap.size w w'):AxIs w' L l:=⟨h.1,fun i hi=>⟨(h.2 i hi).1,(h.2 i hi).2.1,(h.2 i hi).2.2.below hb⟩⟩
theorem AxIs.nil (w:World):AxIs w [] []:=⟨rfl,fun i hi=>absurd hi (Nat.not_lt_zero _)⟩
theorem AxIs.snoc {w:World} {L:List Ax} {l:List Ac} (h:AxIs w L l) {k x:Int} {A:Option Addr} {n c:Nat} {b:Txt} (hb:Arg w .u8 A n c b):AxIs w (L ++ [(k,x,A,n,c)]) (l ++ [(k,x,b)]):=by
 refine ⟨by simp [h.1],fun i hi=>?_⟩
 rw [List.length_append] at hi
 by_cases hl:i < L.length
 ·have:=h.2 i hl
  rw [gtD,List.getElem?_append_left hl,gtD,List.getElem?_append_left (by rw [h.1];exact hl),← gtD,← gtD]
  exact this
 ·have e:i=L.length:=by simp at hi;omega
  subst e
  rw [gtD,List.getElem?_append_right (Nat.le_refl _),gtD,List.getElem?_append_right (by rw [h.1];exact Nat.le_refl _),h.1]
  simp only [Nat.sub_self,gcZ,Option.getD_some]
  exact ⟨trivial,trivial,hb⟩
end Go.Proofs.YtifgcfepbenpjaaGreat
namespace Go.Proofs.YtifgcfepbenpjaaGreat
open Go.RowKit
theorem wrA_snoc {ps:List Pnd} {k:Nat} (h:k < ps.length):wrA (ps.take (k + 1))=wrA (ps.take k) ++ [(1,(ps.getD k (0,[])).1,(ps.getD k (0,[])).2)]:=by
 rw [take_snoc h ((0,[]):Pnd)]
 unfold wrA
 rw [List.map_append]
 rfl
def ActsOut (w:World) (l:List Ac) (e:Ending) (w':World):Prop:=∃ A' c' L,e=.returned (.slice A' l.length c')∧OwnAcs w' w.heap.size A' l.length c' L∧AxIs w' L l∧Below w.heap.size w w'
theorem racts_any (A:Option Addr) (n c:Nat) (ps:List Pnd) (w:World) (hp:Pnds w A n c ps) (hn:n≤100) :
  Calls Tryz.prog 93 #[.slice A n c] w (ActsOut w (actsA ps)):=by
 have hcm:=Nat.le_trans hp.cap hp.max
 unfold maxLen at hcm
 have HP:=Lh hp
 have hlen:=hp.len
 have ST:=Lh (fun k (hk:k < n)=>wrA_snoc (ps:=ps) (k:=k) (by rw [hlen];exact hk))
 have FIN:=Lh (show wrA (ps.take n) ++ [(2,0,[])]=actsA ps by rw [← hlen,List.take_length];rfl)
 have LEN:=Lh (show (actsA ps).length=n + 1 by rw [← hlen];simp [actsA,wrA])
 clear hp hlen
 unfold ActsOut
 rw [LEN.out]
 go_enter Tryz.func93,Tryz.ntmps93
 go_wp2
 go_loopw [3,4] (fun o i wr=>∃ (k:Nat) (A':Option Addr) (c':Nat) (L:List Ax),k≤n∧i=.int .i64 k∧o=.slice A' k c'∧OwnAcs wr w.heap.size A' k c' L∧AxIs w L (wrA (ps.take k))∧Below w.heap.size w wr) (fun _ i _=>n - (intOf i).toNat)
 case atStart=>exact ⟨0,none,0,[],Nat.zero_le _,rfl,rfl,OwnAcs.nil _ _,AxIs.nil _,Below.refl _ _⟩
 case round =>
  obtain ⟨k,A',c',L,hk,rfl,rfl,hown,hax,hbw⟩:=hrel
  have OW:=Lh hown
  have AX:=Lh hax
  have BW:=Lh hbw
  clear hown hax hbw
  by_cases hkn:k < n
  ·have hki:(k:Int) < (n:Int):=by omega
   obtain ⟨b,o,Ai,ni,ci,rfl,hlt,hc,hx,ha⟩:=HP.out.at_ k hkn
   have keepX:∀ wx,Below w.heap.size w wx→wx.cell? ⟨b,o + k * 2,none⟩=some (.int .i64 (ps.getD k (0,[])).1)∧wx.cell? ⟨b,o + k * 2 + 1,none⟩=some (.slice Ai ni ci):=fun wx hx' =>
    ⟨(hx'.cell (p:=⟨b,o + k * 2,none⟩) hlt).trans hx,(hx'.cell (p:=⟨b,o + k * 2 + 1,none⟩) hlt).trans hc⟩
   have SK:=Lh (ST.out k hkn)
   obtain ⟨x1,hx1⟩:∃ y,y=(ps.getD k (0,[])).1:=⟨_,rfl⟩
   obtain ⟨x2,hx2⟩:∃ y,y=(ps.getD k (0,[])).2:=⟨_,rfl⟩
   rw [← hx1] at keepX SK
   rw [← hx2] at ha SK
   have HA:=Lh ha
   clear hc hx hx1 hx2 ha hlt
   have BD:=Lh (below_drewN BW.out 1)
   have OD:=Lh (OW.out.below (below_drewN (Below.refl _ _) 1))
   have HSZ:=Lh (Nat.le_refl w.heap.size)
   go_upto_region 5 with fail
   have hkX:=keepX _ BD.out
   go_region_held3 (fun w'=>w'.cell? ⟨b,o + k * 2,none⟩=some (.int .i64 x1)∧w'.cell? ⟨b,o + k * 2 + 1,none⟩=some (.slice Ai ni ci))
    (first | exact hkX | exact keepX _ (below_drewN (BW.out.alloc BW.out.size _) 1) | exact keepX _ (BD.out.alloc BD.out.size _) | go_keep)
    ((refine step_acs w wr.drew (by rfl) (.tmp 11) (.tmp 23) (by rfl) w.heap.size A' k c' L (by rfl) OD.out (1,x1,Ai,ni,ci) (by rfl) (by omega) BD.out HSZ.out ?_;intro A2 c2 w2 hown2 hbX;have hkX:=keepX w2 hbX))
   have O2:=Lh hown2
   have B2:=Lh hbX
   clear hown2 hbX keepX hkX
   go_wp2
   go_roundw
   case rel=>exact ⟨k + 1,A2,c2,L ++ [(1,x1,Ai,ni,ci)],by omega,by go_num,rfl,O2.out,by rw [SK.out];exact AX.out.snoc HA.out,B2.out⟩
   all_goals (try case measure=>simp [intOf];omega)
  ·obtain rfl:k=n:=by omega
   go_wp2_with (at_builtin;refine wpList_acs w wr rfl (.tmp 25) (.tmp 27) rfl w.heap.size A' k c' L rfl OW.out (2,0,none,0,0) rfl (by omega) BW.out (Nat.le_refl _) ?_;intro A2 c2 w2 hO2 hB2;have O2:=Lh hO2;have B2:=Lh hB2;clear hO2 hB2)
   go_ret
   exact ⟨A2,c2,L ++ [(2,0,none,0,0)],rfl,O2.out,by rw [← FIN.out];exact (AX.out.snoc (Arg.nil _ _)).below B2.out,B2.out⟩
end Go.Proofs.YtifgcfepbenpjaaGreat
namespace Go.Proofs.YtifgcfepbenpjaaGreat
open Go.RowKit Go.OpenShut Go.ChangeShapes Go.WideShapes Go.Deep Go.Joins
def OwnActs (w:World) (base:Nat) (A:Option Addr) (n c:Nat) (l:List Ac):Prop :=
 ∃ L,OwnAcs w base A n c L∧l.length=n∧(∀ a ∈ l,∀ z ∈ a.2.2,isByte z) ∧
  ∀ i,i < n→(L.getD i zAx).1=(l.getD i (0,0,[])).1∧(L.getD i zAx).2.1=(l.getD i (0,0,[])).2.1∧OwnTxt w base (L.getD i zAx).2.2.1 (L.getD i zAx).2.2.2.1 (L.getD i zAx).2.2.2.2 (l.getD i (0,0,[])).2.2
section
variable {w w':World} {base base':Nat} {A:Option Addr} {n c:Nat} {l:List Ac}
theorem OwnActs.is (h:OwnActs w base A n c l):∃ L,OwnAcs w base A n c L∧AxIs w L l:=by
 obtain ⟨L,h1,h2,_,h4⟩:=h
 exact ⟨L,h1,by rw [h1.2,h2],fun i hi=>⟨(h4 i (by rw [← h1.2];exact hi)).1,(h4 i (by rw [← h1.2];exact hi)).2.1,(h4 i (by rw [← h1.2];exact hi)).2.2.arg⟩⟩
theorem OwnActs.len (h:OwnActs w base A n c l):l.length=n:=by
 obtain ⟨_,_,h2,_⟩:=h
 exact h2
theorem OwnActs.byte (h:OwnActs w base A n c l):∀ a ∈ l,∀ z ∈ a.2.2,isByte z:=by
 obtain ⟨_,_,_,h3,_⟩:=h
 exact h3
theorem OwnActs.below (h:OwnActs w base A n c l) (hb:Below w.heap.size w w'):OwnActs w' base A n c l:=by
 obtain ⟨L,h1,h2,h3,h4⟩:=h
 exact ⟨L,h1.below hb,h2,h3,fun i hi=>⟨(h4 i hi).1,(h4 i hi).2.1,(h4 i hi).2.2.below hb⟩⟩
theorem OwnActs.lower (h:OwnActs w base A n c l) (hb:base'≤base):OwnActs w base' A n c l:=by
 obtain ⟨L,h1,h2,h3,h4⟩:=h
 exact ⟨L,h1.lower hb,h2,h3,fun i hi=>⟨(h4 i hi).1,(h4 i hi).2.1,(h4 i hi).2.2.lower hb⟩⟩
theorem OwnActs.nil (w:World) (base:Nat):OwnActs w base none 0 0 []:=⟨[],OwnAcs.nil _ _,rfl,by simp,fun i hi=>absurd hi (Nat.not_lt_zero _)⟩
theorem OwnActs.keep (h:OwnActs w base A n c l) (hk:∀ (g:Nat) (e:TypeId) (cs:Array Value),(e=75∨e=5)→base≤g→w.heap[g]?=some (.cells cs e (0,0))→w'.heap[g]?=w.heap[g]?):OwnActs w' base A n c l:=by
 obtain ⟨L,h1,h2,h3,h4⟩:=h
 refine ⟨L,h1.keep fun g cs hg hc=>hk g _ cs (.inl rfl) hg hc,h2,h3,fun i hi=>⟨(h4 i hi).1,(h4 i hi).2.1,(h4 i hi).2.2.keep fun g hg hu=>?_⟩⟩
 obtain ⟨cs,hc⟩:=hu
 exact hk g _ cs (.inr rfl) hg hc
theorem OwnActs.kept (h:OwnActs w base A n c l) {row:Option Nat} (hg:w.grownBy w' row) (hr:∀ g,row=some g→g < base):OwnActs w' base A n c l :=
 h.keep fun g _ _ _ hb hc=>hg.block g (Array.getElem?_eq_some_iff.1 hc).1 (fun e=>by have:=hr g e.symm;omega)
theorem OwnActs.away (h:OwnActs w base A n c l) {g:Nat} (hg:g < base) (i:Nat) (u:Value):OwnActs (w.setCell ⟨g,i,none⟩ u) base A n c l :=
 h.kept (grownBy_set w g i u) (fun _ e=>by injection e with e;omega)
theorem OwnActs.row (h:OwnActs w base A n c l) {i:Nat} (hi:i < n) :
  ∃ gA Ai ni ci,A=some ⟨gA,0,none⟩∧gA < w.heap.size∧w.cell? ⟨gA,i * 29 + 2,none⟩=some (.slice Ai ni ci)∧OwnTxt w base Ai ni ci (l.getD i (0,0,[])).2.2∧(l.getD i (0,0,[])).2.2.length=ni∧ni≤ci∧ci≤maxLen:=by
 obtain ⟨L,h1,h2,_,h4⟩:=h
 obtain ⟨b,e,hlt,_,_,hc⟩:=h1.row hi
 have ho:=(h4 i hi).2.2
 exact ⟨b,_,_,_,e,hlt,hc,ho,ho.1,ho.arg.cap,ho.arg.max⟩
theorem OwnActs.touch {g:Nat} (h:OwnActs w base A n c l) (hu:U8 w g) (k:Nat) {z:Int} (hz:isByte z) :
  ∃ l',OwnActs (w.setCell ⟨g,k,none⟩ (.int .u8 z)) base A n c l'∧∀ j,(l'.getD j (0,0,[])).2.2.length=(l.getD j (0,0,[])).2.2.length:=by
 obtain ⟨L,hown,hl,hby,hin⟩:=h
 obtain ⟨f,hf⟩:∃ f:Nat→List Int→List Int,f=fun j zs=>touchL (L.getD j zAx).2.2.1 g k z zs:=⟨_,rfl⟩
 have hfl:∀ j zs,(f j zs).length=zs.length:=fun j zs=>by rw [hf];exact touchL_len ..
 have hfb:∀ j zs,(∀ y ∈ zs,isByte y)→∀ y ∈ f j zs,isByte y:=fun j zs hb=>by rw [hf];exact touchL_byte _ g k hz hb
 obtain ⟨l',hl'⟩:∃ l':List Ac,l'=(List.range n).map fun j=>((l.getD j (0,0,[])).1,(l.getD j (0,0,[])).2.1,f j (l.getD j (0,0,[])).2.2):=⟨_,rfl⟩
 have e1:∀ j,j < n→l'.getD j (0,0,[])=((l.getD j (0,0,[])).1,(l.getD j (0,0,[])).2.1,f j (l.getD j (0,0,[])).2.2):=fun j hj=>by
  rw [hl']
  simp [List.getD_eq_getElem?_getD,hj]
 have hlen:l'.length=n:=by rw [hl'];simp
 refine ⟨l',⟨L,?_,hlen,?_,fun j hj=>?_⟩,fun j=>?_⟩
 ·refine hown.keep fun g' cs _ hc=>Below.heap_setCell w _ _ g' (fun e=>?_)
  subst e
  obtain ⟨cs',hc'⟩:=hu
  rw [hc] at hc'
  simp at hc'
 ·intro s hs y hy
  rw [hl'] at hs
  obtain ⟨j,hj,rfl⟩:=List.mem_map.1 hs
  have hjn:=List.mem_range.1 hj
  exact hfb j _ (fun y hy=>hby (l.getD j (0,0,[])) (by
   rw [gtD,geE (by omega)]
   exact List.getElem_mem _) y hy) y hy
 ·rw [e1 j hj,hf]
  exact ⟨(hin j hj).1,(hin j hj).2.1,(hin j hj).2.2.touch z⟩
 ·rcases Nat.lt_or_ge j n with hj | hj
  ·rw [e1 j hj]
   exact hfl j _
  ·have e4:l'.getD j (0,0,[])=(0,0,[]):=by rw [gtD,List.getElem?_eq_none (by omega)];rfl
   have e5:l.getD j (0,0,[])=(0,0,[]):=by rw [gtD,List.getElem?_eq_none (by omega)];rfl
   rw [e4,e5]
end
def ColTo (w w':World):Prop:=w.heap.size≤w'.heap.size∧∀ g,g < w.heap.size→(∀ cs,w.heap[g]?≠some (.cells cs 75 (0,0)))→(∀ cs,w.heap[g]?≠some (.cells cs 38 (0,0)))→w'.heap[g]?=w.heap[g]?
theorem ColTo.of {B:Nat} {w w':World} (h:Below B w w') (hB:w.heap.size≤B):ColTo w w':=⟨h.size,fun g hg _ _=>h.block g (Nat.lt_of_lt_of_le hg hB)⟩
theorem ColTo.trans {a b c:World} (h:ColTo a b) (k:ColTo b c):ColTo a c :=
 ⟨Nat.le_trans h.1 k.1,fun g hg h1 h2=>by
  have e:=h.2 g hg h1 h2
  exact (k.2 g (Nat.lt_of_lt_of_le hg h.1) (fun cs=>by rw [e];exact h1 cs) (fun cs=>by rw [e];exact h2 cs)).trans e⟩
section
variable {w w':World} {base g n c:Nat} {t:TypeId} {A:Option Addr} {cs:List Value}
theorem ColTo.block (h:ColTo w w') {cs:Array Value} {fz:Nat × Nat} (hb:w.heap[g]?=some (.cells cs t fz)) (h1:t≠75) (h2:t≠38):w'.heap[g]?=w.heap[g]? :=
 h.2 g (Array.getElem?_eq_some_iff.1 hb).1 (fun cs e=>by rw [hb] at e;simp at e;exact h1 e.2.1) (fun cs e=>by rw [hb] at e;simp at e;exact h2 e.2.1)
theorem ColTo.blk (h:ColTo w w') (hb:Blk w g t cs) (h1:t≠75) (h2:t≠38):Blk w' g t cs:=(h.block hb h1 h2).trans hb
theorem ColTo.pnds (h:ColTo w w') {ss:List Pnd} (ho:OwnPnds w base A n c ss):OwnPnds w' base A n c ss:=ho.keep fun g e cs he _ hc=>by
 rcases he with rfl | rfl
 ·exact h.block hc (by decide) (by decide)
 ·exact h.block hc (by decide) (by decide)
theorem ColTo.texts (h:ColTo w w') {ss:List Txt} (ho:OwnTexts w base A n c ss):OwnTexts w' base A n c ss:=by
 obtain ⟨vs,hown,hl,hby,hin⟩:=ho
 refine ⟨vs,owns_keep hown fun g cs _ hc=>h.block hc (by decide) (by decide),hl,hby,fun i hi=>?_⟩
 obtain ⟨Ai,ni,ci,hv,ho⟩:=hin i hi
 exact ⟨Ai,ni,ci,hv,owns_keep ho fun g cs _ hc=>h.block hc (by decide) (by decide)⟩
theorem ColTo.recs (h:ColTo w w') {ss:List Rc} (ho:OwnRecs w base A n c ss):OwnRecs w' base A n c ss:=ho.keep fun g cs _ hc=>h.block hc (by decide) (by decide)
end
def Gath (w:World) (G:Nat) (l:List Ac):Prop:=∃ A n c,Blk w G 38 [.slice A n c]∧OwnActs w (G + 1) A n c l
def GathOut (w:World) (G:Nat) (l:List Ac) (w':World):Prop:=Gath w' G l∧Below G w w'∧ColTo w w'
theorem Gath.lt {w:World} {G:Nat} {l:List Ac} (h:Gath w G l):G < w.heap.size:=by
 obtain ⟨A,n,c,hb,_⟩:=h
 exact hb.lt
theorem Gath.below {w w':World} {G:Nat} {l:List Ac} (h:Gath w G l) (hb:Below w.heap.size w w'):Gath w' G l:=by
 obtain ⟨A,n,c,h1,h2⟩:=h
 exact ⟨A,n,c,h1.below hb h1.lt,h2.below hb⟩
theorem run_acs_g {base:Nat} (w:World) (ty:TypeId) (A0:Option Addr) (n0 c0:Nat) (M:List Ax) (hown:OwnAcs w base A0 n0 c0 M) (r:Ax) (h63:n0 + 1≤100000) (hbase:base≤w.heap.size) :
  ∃ A' c' w',(Builtin.append_ #[38,38] ty #[.slice A0 n0 c0,.slice (some ⟨w.heap.size,0,none⟩) 1 1]).run Tryz.prog (w.alloc (.cells (axL r).toArray 75))=.ok (.slice A' (n0 + 1) c') w'∧OwnAcs w' base A' (n0 + 1) c' (M ++ [r])∧Below base w w'∧w.grownBy w' (Value.slice A0 n0 c0).ownBlock:=by
 obtain ⟨i,hi,hz,hsize,hby⟩:=info_parts act_info
 have hml:(100000:Nat)≤maxLen:=by decide
 have hlit:=Blk.new w 75 (axL r)
 have hcs:∀ j u,(axL r)[j]?=some u→(w.alloc (.cells (axL r).toArray 75)).cell? ((⟨w.heap.size,0,none⟩:Addr).add j)=some u:=by
  intro j u hu
  have e2:(⟨w.heap.size,0,none⟩:Addr).add j=⟨w.heap.size,0 + j,none⟩:=by unfold Addr.add;split <;> simp_all
  rw [e2,Nat.zero_add,hlit.cell j]
  exact hu
 obtain ⟨v',w',h,r2,r3,_,_⟩:=run_append_own_at (P:=Tryz.prog) (w.alloc (.cells (axL r).toArray 75)) base 38 ty 75 i _ 29 264 Tryz.underlying38 hi hz hsize hby rfl (by omega) _ n0 (acsV M) (hown.1.alloc _) ⟨w.heap.size,0,none⟩ 1 1 (axL r) rfl hcs (one_act r) (by omega) (by omega) (by simp;omega)
 obtain ⟨g',c',rfl⟩:=ownsRow_some r2
 exact ⟨some ⟨g',0,none⟩,c',w',h,⟨by rw [acsV_app,acsV_one];exact r2,by simp [hown.2]⟩,((Below.refl base w).alloc hbase _).grown r3 (by simp;omega) (fun g e=>(hown.1.lt g e).1),(World.grownBy_alloc w _ _).trans r3⟩
theorem wpList_acs_g (w:World) {ops:Array Oper} {rest:List Oper} {o:Oper} {a:Act} {Q:Exit→Act→World→Prop} (hw:Region.wanted o (yielded ops a.tmps)=true) (s x:Operand)
  (ho:o.op=.call { callee:=.builtin .append,args:=#[s,x],argTypes:=#[38,38] }) (base:Nat) (A0:Option Addr) (n c0:Nat) (M:List Ax) (hs:a.eval s=.slice A0 n c0) (hown:OwnAcs w base A0 n c0 M)
  (r:Ax) (hx:a.eval x=.slice (some ⟨w.heap.size,0,none⟩) 1 1) (h63:n + 1≤100000) (hw0:base≤w.heap.size)
  (h:∀ A' c' w',OwnAcs w' base A' (n + 1) c' (M ++ [r])→Below base w w'→w.grownBy w' (Value.slice A0 n c0).ownBlock→wpList Tryz.prog ops Q rest (a.put o.dst (.slice A' (n + 1) c')) w'):wpList Tryz.prog ops Q (o :: rest) a (w.alloc (.cells (axL r).toArray 75)):=by
 refine wpList_want hw fun K hK=>?_
 obtain ⟨A',c',w',hrun,h2,h3,h4⟩:=run_acs_g w o.type A0 n c0 M hown r h63 hw0
 unfold Oper.wp execOp
 simp only [ho,resolve,invoke,builtin,Sem.run_bind,Sem.run_pure,Result.andThen_ok,List.map_toArray,List.map_cons,List.map_nil,hs,hx,hrun]
 exact hK _ _ (h A' c' w' h2 h3 h4)
theorem gath_more {w w1:World} {G:Nat} {A A':Option Addr} {n c c':Nat} {l:List Ac} {L:List Ax} {k x:Int} {Ai:Option Addr} {ni ci:Nat} {b:Txt}
  (hb:Blk w G 38 [.slice A n c]) (hL:OwnAcs w (G + 1) A n c L) (hl:l.length=n) (hby:∀ a ∈ l,∀ z ∈ a.2.2,isByte z)
  (hin:∀ i,i < n→(L.getD i zAx).1=(l.getD i (0,0,[])).1∧(L.getD i zAx).2.1=(l.getD i (0,0,[])).2.1∧OwnTxt w (G + 1) (L.getD i zAx).2.2.1 (L.getD i zAx).2.2.2.1 (L.getD i zAx).2.2.2.2 (l.getD i (0,0,[])).2.2)
  (ht:OwnTxt w (G + 1) Ai ni ci b) (hbb:∀ z ∈ b,isByte z) (h2:OwnAcs w1 (G + 1) A' (n + 1) c' (L ++ [(k,x,Ai,ni,ci)])) (h3:Below (G + 1) w w1) (h4:w.grownBy w1 (Value.slice A n c).ownBlock) :
  GathOut w G (l ++ [(k,x,b)]) (w1.setCell ⟨G,0,none⟩ (.slice A' (n + 1) c')):=by
 have hbox:Blk w1 G 38 [.slice A n c]:=hb.below h3 (Nat.lt_succ_self G)
 have htx:∀ {A1:Option Addr} {n1 c1:Nat} {zs:List Int},OwnTxt w (G + 1) A1 n1 c1 zs→OwnTxt (w1.setCell ⟨G,0,none⟩ (.slice A' (n + 1) c')) (G + 1) A1 n1 c1 zs:=fun {A1 n1 c1 zs} hx=>by
  refine (hx.keep (w':=w1) fun g hg hu=>h4.block g hu.lt fun e=>u8_row (by decide) hu hL.1 e.symm).keep fun g hg hu=>Below.heap_setCell w1 _ _ g (fun e=>?_)
  have e':g=G:=e
  omega
 refine ⟨⟨A',n + 1,c',hbox.set 0 _,L ++ [(k,x,Ai,ni,ci)],h2.away (Nat.lt_succ_self G) 0 _,by simp [hl],?_,fun i hi=>?_⟩,(h3.mono (Nat.le_succ G)).setCell (p:=⟨G,0,none⟩) (Nat.le_refl G) _,?_⟩
 ·intro a ha
  rcases List.mem_append.1 ha with ha | ha
  ·exact hby a ha
  ·rw [List.mem_singleton.1 ha]
   exact hbb
 ·have hLn:=hL.2
  by_cases hin':i < n
  ·rw [gtD,List.getElem?_append_left (by omega),gtD,List.getElem?_append_left (by omega),← gtD,← gtD]
   exact ⟨(hin i hin').1,(hin i hin').2.1,htx (hin i hin').2.2⟩
  ·have e:i=n:=by omega
   subst e
   rw [gtD,List.getElem?_append_right (by omega),gtD,List.getElem?_append_right (by omega),hl,hLn]
   simp only [Nat.sub_self,gcZ,Option.getD_some]
   exact ⟨trivial,trivial,htx ht⟩
 ·refine ⟨Nat.le_trans h4.size (by simp [World.setCell]),fun g hg h1 h2'=>?_⟩
  have hgG:g≠G:=fun e=>h2' _ (by rw [e];exact hb)
  refine (Below.heap_setCell w1 _ _ g hgG).trans (h4.block g hg fun e=>?_)
  rcases hL.1.2 with ⟨ev,_⟩ | ⟨g2,cap,cur,ev,_,hg2,_⟩
  ·rw [ev] at e
   simp [Value.ownBlock] at e
  ·rw [ev] at e
   have e3:g=g2:=by simpa [Value.ownBlock] using e
   exact h1 cur (by rw [e3];exact hg2)
end Go.Proofs.YtifgcfepbenpjaaGreat
