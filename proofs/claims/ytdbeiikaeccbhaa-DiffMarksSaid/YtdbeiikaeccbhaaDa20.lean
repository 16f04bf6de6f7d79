/- Texts of the layers below, joined. -/
import Derived.Test.YtdbeiikaeccbhaaDa19
import Derived.RangeFuncNested
import Derived.RangeFuncBound
import Derived.RangeFuncCalls
import Derived.RangeFuncLeaves
import Derived.RangeFuncBox
import Derived.Shelf.Abstract
import Derived.Shelf.RegionOpen
import Derived.WalkKit
import Derived.OwnWalkIn
import Derived.TacticsInMore
import Derived.LoopNIn
import Derived.LoopIn
set_option maxRecDepth 100000
set_option maxHeartbeats 12800000
set_option linter.unusedVariables false
namespace Go.Proofs.Ytdbeiikaeccbhaa
open Go.RowKit Go.Shelf
def AbideW (B:Nat) (J:World→Prop):Prop:=OwnFrom B (fun (_:Unit) W=>J W)
theorem AbideW.of {B B':Nat} {J:World→Prop} (h:AbideW B J) (hB:B≤B'):AbideW B' J:=fun s X Y row hs hg hr=>h s X Y row hs hg (fun r e=>⟨Nat.le_trans hB (hr r e).1,(hr r e).2⟩)
def FirstOf {α:Type} (F:Fence) (n:Nat) (P:Program) (g:Nat) (lb:Array Value) (encs:α→Array Value) (ok:α→Prop) (found:Option α) (w:World):Prop :=
 ∀ (l:Nat) (J:World→Prop) (Jx:α→World→Prop) (W:World),Below w.heap.size w W→AbideW W.heap.size J→(∀ x,AbideW W.heap.size (Jx x)) →
  (∀ x W1,ok x→J W1→YieldAt F (n - 1) P l (encs x) W1 fun e W'=>e=.returned (.bool false)∧Jx x W'∧KeepsFrom W.heap.size W1 W')→J W →
  CallsIn F n P g (#[.func (.yield l) #[] #[]] ++ lb) W fun e W'=>(∃ v,e=.returned v)∧((found=none∧J W')∨∃ x,found=some x∧Jx x W')
def firstPost (Ix:World→Prop) (W:World):Exit→Act→World→Prop
 | .ret,_,W'=>KeepsOthers W W'∧Ix W'
 | _,_,_=>False
theorem wpIn_rangeFunc_first {α:Type} {F:Fence} {n:Nat} {P:Program} {g:Operand} {ps:Array Tmp} {assign body:Code} {Q:Exit→Act→World→Prop} {a:Act} {w:World}
  (hro:F.round=none) (h1:1≤n) {gf:Nat} {lb:Array Value} (hg:a.eval g=.func (.func gf) #[] lb) (hFg:F.fn gf) (eg:∀ args w,(callFunc gf args).run P w=.ok (.enter gf args) w)
  {encs:α→Array Value} {ok:α→Prop} {found:Option α} {w0:World} (hseq:FirstOf F (n - 1) P gf lb encs ok found w0) (hb0:Below w0.heap.size w0 w) (hps:∀ x,(encs x).size=ps.size)
  (I:World→Prop) (Ix:α→World→Prop) (hI:AbideW w.heap.size I) (hIx:∀ x,AbideW w.heap.size (Ix x)) (h0:I w) (a₁:α→Act)
  (hassign:∀ (l:Nat) (x:α) (W:World) (K:Act→World→Prop),K (a₁ x) W →
   assign.wpIn (F.inRound l) (n - 1 - 1) P (Exit.then K (fun _ _ _=>False)) { tmps:=(ps.zip (encs x)).foldl (fun t (p,v)=>t.setIfInBounds p v) a.tmps,defers:=[] } W)
  (hbody:∀ (l:Nat) (x:α) (W:World),ok x→I W→body.wpIn (F.inRound l) (n - 1 - 1) P (firstPost (Ix x) W) (a₁ x) W)
  (hdone:∀ (D:Nat) (W:World),w.heap.size≤D→found=none→I W→W.heap[D]?=some (.deferred (some []))→Q .normal { a with defers:={ target:=.collected D,args:=#[] } :: a.defers } W)
  (hstop:∀ (D:Nat) (x:α) (W:World),w.heap.size≤D→found=some x→Ix x W→W.heap[D]?=some (.deferred (some []))→Code.ret.wpIn F n P Q { a with defers:={ target:=.collected D,args:=#[] } :: a.defers } W) :
  (Code.rangeFunc g ps assign body).wpIn F n P Q a w:=by
 refine wpIn_rangeFunc fun fn hfn=>?_
 rw [hro]
 obtain ⟨R,hR⟩:∃ R:LoopState→Option Code→Loop,R=fun st pe=>{ state:=st,pending:=pe,fn,tmps:=a.tmps,params:=ps,assign,body,defers:=w.heap.size }:=⟨_,rfl⟩
 obtain ⟨L,hL⟩:∃ L,L=w.heap.size + 1:=⟨_,rfl⟩
 obtain ⟨V,hV⟩:∃ V,V=(w.alloc (.deferred (some []))).alloc (.loop (R .ready none)):=⟨_,rfl⟩
 have hVL:V.heap[L]?=some (.loop (R .ready none)):=by
  have:=World.alloc_heap_new (w.alloc (.deferred (some []))) (.loop (R .ready none))
  rw [World.size_alloc] at this
  rw [hV,hL];exact this
 have hVD:V.heap[w.heap.size]?=some (.deferred (some [])):=by
  rw [hV];exact (Below.heap_alloc _ _ _ (by simp)).trans (World.alloc_heap_new w _)
 have hVs:V.heap.size=w.heap.size + 2:=by rw [hV];simp
 have hIV:I V:=by rw [hV];exact OwnFrom.alloc (s:=()) hI _ (OwnFrom.alloc (s:=()) hI _ h0)
 have hbV:Below w0.heap.size w0 V:=by
  rw [hV];exact hb0.trans ((((Below.refl _ w).alloc (Nat.le_refl _) _).alloc (by simp) _).mono hb0.size)
 refine ⟨L,[{ target:=.collected w.heap.size,args:=#[] }],V,{ target:=.fn (.func gf) lb,args:=#[.func (.yield L) #[] #[]] },V,gf,#[.func (.yield L) #[] #[]] ++ lb,V,?_,?_,?_,?_,fun _=>h1,?_⟩
 ·rw [hV,hR,hL];exact run_enterLoop_outer _ _ _ _ _
 ·simp only [resolve,hg]
  simp [go_sem]
 ·intro f' hf'
  simp [Target.leads] at hf'
  subst hf'
  exact hFg
 ·simp [invoke,go_sem,eg]
 ·
  have stay:∀ {X Y:World} {row:Option Nat} {k:Nat} {o:Obj},k < V.heap.size→X.grownBy Y row→(∀ r,row=some r→V.heap.size≤r∧∃ o:Obj,X.heap[r]?=some o∧o.isCells=false)→X.heap[k]?=some o→Y.heap[k]?=some o:=fun hk hgr hr hX =>
   (hgr.block _ (Array.getElem?_eq_some_iff.1 hX).1 (fun e=>by have:=(hr _ e.symm).1;omega)).trans hX
  refine (hseq L (fun W=>I W∧W.heap[L]?=some (.loop (R .ready none))∧W.heap[w.heap.size]?=some (.deferred (some [])))
   (fun x W=>Ix x W∧W.heap[L]?=some (.loop (R .done (some .ret)))∧W.heap[w.heap.size]?=some (.deferred (some []))) V hbV
   (fun s X Y row hs hgr hr=>⟨hI.of (by omega) () X Y row hs.1 hgr hr,stay (by omega) hgr hr hs.2.1,stay (by omega) hgr hr hs.2.2⟩)
   (fun x s X Y row hs hgr hr=>⟨(hIx x).of (by omega) () X Y row hs.1 hgr hr,stay (by omega) hgr hr hs.2.1,stay (by omega) hgr hr hs.2.2⟩) ?_ ⟨hIV,hVL,hVD⟩).mono ?_
  ·rintro x W hf ⟨hi,hl,hk⟩
   have hlt:L < W.heap.size:=(Array.getElem?_eq_some_iff.1 hl).1
   have hy:=run_yield (P:=P) (args:=encs x) hl (by rw [hR];exact hps x)
   rw [hR] at hy
   refine ⟨fn,_,assign,body,hy,roundIn_of_wpIn hfn (hassign _ x W _ ⟨_,run_beginRound hl (by rw [hR]),?_⟩)⟩
   have hl2:(W.putObj L (.loop { R .ready none with state:=.busy })).heap[L]?=some (.loop { R .ready none with state:=.busy }):=World.putObj_heap_same hlt
   have hk2:(W.putObj L (.loop { R .ready none with state:=.busy })).heap[w.heap.size]?=some (.deferred (some [])):=(World.putObj_heap_other (by omega)).trans hk
   refine wpIn_mono (hbody _ x _ hf (OwnFrom.putObj (s:=()) hI _ hi (by omega) hl rfl)) ?_
   rintro e a3 W3 hp
   cases e with
   | ret =>
    obtain ⟨hk3,hi3⟩:=hp
    have hl3:=hk3.same _ _ hl2 rfl
    have he:=run_endRound (P:=P) (some .ret) hl3
    have kp:∀ (X:World) (o:Obj),KeepsFrom V.heap.size X (X.putObj L o):=fun X o=>KeepsFrom.of_grownBy (grownBy_putObj' X L o) (fun j e=>by cases e;omega)
    refine ⟨_,_,he,rfl,⟨OwnFrom.putObj (s:=()) (hIx x) _ hi3 (by omega) hl3 rfl,?_,(World.putObj_heap_other (by omega)).trans (hk3.same _ _ hk2 rfl)⟩,((kp _ _).trans (hk3.from _)).trans (kp _ _)⟩
    rw [World.putObj_heap_same (Array.getElem?_eq_some_iff.1 hl3).1,hR]
    rfl
   | normal=>exact hp.elim
   | exit id=>exact hp.elim
   | goto t=>exact hp.elim
   | panic ch=>exact hp.elim
   | outgrown=>exact hp.elim
  ·rintro e W2 ⟨⟨v,rfl⟩,(⟨hn,hi,hl,hk⟩ | ⟨x,hn,hi,hl,hk⟩)⟩
   ·have he:=run_endLoop (P:=P) hl (by rw [hR];simp)
    rw [hR] at he
    exact ⟨none,_,he,hdone _ _ (Nat.le_refl _) hn (OwnFrom.putObj (s:=()) hI _ hi (by omega) hl rfl) ((World.putObj_heap_other (by omega)).trans hk)⟩
   ·have he:=run_endLoop (P:=P) hl (by rw [hR];simp)
    rw [hR] at he
    exact ⟨some .ret,_,he,hstop _ x _ (Nat.le_refl _) hn (OwnFrom.putObj (s:=()) (hIx x) _ hi (by omega) hl rfl) ((World.putObj_heap_other (by omega)).trans hk)⟩
end Go.Proofs.Ytdbeiikaeccbhaa
namespace Go.Proofs.Ytdbeiikaeccbhaa
open Go.RowKit Go.Shelf
attribute [local go_sem] Oper.semAt_some
structure Hands (w:World) (B:Nat) (A:Option Addr) (k:Nat) (at_:Nat→Int) (tx:Nat→Option Addr × Nat × Nat):Prop where
 cell:∀ i,i < k→∃ b o,A=some ⟨b,o,none⟩∧b < B∧w.cell? ⟨b,o + i * 2,none⟩=some (.int .i64 (at_ i))∧w.cell? ⟨b,o + i * 2 + 1,none⟩=some (.slice (tx i).1 (tx i).2.1 (tx i).2.2)
theorem Hands.below {w w':World} {B:Nat} {A:Option Addr} {k:Nat} {at_:Nat→Int} {tx:Nat→Option Addr × Nat × Nat} (h:Hands w B A k at_ tx) (hb:Below B w w'):Hands w' B A k at_ tx :=
 ⟨fun i hi=>by
  obtain ⟨b,o,e,hlt,h1,h2⟩:=h.cell i hi
  exact ⟨b,o,e,hlt,(hb.cell (p:=⟨b,_,none⟩) hlt).trans h1,(hb.cell (p:=⟨b,_,none⟩) hlt).trans h2⟩⟩
theorem Hands.of {w:World} {A:Option Addr} {n c:Nat} {C:List Pnd} (h:Pnds w A n c C):∃ tx:Nat→Option Addr × Nat × Nat,Hands w w.heap.size A n (fun i=>(C.getD i (0,[])).1) tx∧∀ i,i < n→Arg w .u8 (tx i).1 (tx i).2.1 (tx i).2.2 (C.getD i (0,[])).2:=by
 have each:∀ i,i < n→∃ v:Option Addr × Nat × Nat,(∃ b o,A=some ⟨b,o,none⟩∧b < w.heap.size∧w.cell? ⟨b,o + i * 2,none⟩=some (.int .i64 (C.getD i (0,[])).1)∧w.cell? ⟨b,o + i * 2 + 1,none⟩=some (.slice v.1 v.2.1 v.2.2))∧Arg w .u8 v.1 v.2.1 v.2.2 (C.getD i (0,[])).2:=fun i hi=>by
  obtain ⟨b,o,Ai,ni,ci,e,hlt,hc,hx,ha⟩:=h.at_ i hi
  exact ⟨(Ai,ni,ci),⟨b,o,e,hlt,hx,hc⟩,ha⟩
 have:∃ f:Nat→Option Addr × Nat × Nat,∀ i,i < n→(∃ b o,A=some ⟨b,o,none⟩∧b < w.heap.size∧w.cell? ⟨b,o + i * 2,none⟩=some (.int .i64 (C.getD i (0,[])).1)∧w.cell? ⟨b,o + i * 2 + 1,none⟩=some (.slice (f i).1 (f i).2.1 (f i).2.2))∧Arg w .u8 (f i).1 (f i).2.1 (f i).2.2 (C.getD i (0,[])).2 :=
  ⟨fun i=>if hi:i < n then (each i hi).choose else (none,0,0),fun i hi=>by
   simp only [dif_pos hi]
   exact (each i hi).choose_spec⟩
 obtain ⟨tx,htx⟩:=this
 exact ⟨tx,⟨fun i hi=>(htx i hi).1⟩,fun i hi=>(htx i hi).2⟩
def downR (k r:Nat):List (Fin k):=((List.finRange k).reverse).take r
theorem downR_zero (k:Nat):downR k 0=[]:=rfl
theorem downR_succ {k m:Nat} (h:m < k):downR k (k - m)=downR k (k - 1 - m) ++ [⟨m,h⟩]:=by
 unfold downR
 have hl:((List.finRange k).reverse).length=k:=by simp
 rw [show k - m=(k - 1 - m) + 1 by omega,List.take_add_one]
 congr 1
 rw [geE (by omega)]
 simp
 omega
theorem downR_all (k:Nat):downR k k=(List.finRange k).reverse:=by
 unfold downR
 rw [List.take_of_length_le (by simp)]
theorem downR_pre (k r:Nat):downR k r <+: (List.finRange k).reverse:=List.take_prefix _ _
theorem downR_len (k r:Nat) (h:r≤k):(downR k r).length=r:=by unfold downR;simp [h]
def encB {k:Nat} (at_:Nat→Int) (tx:Nat→Option Addr × Nat × Nat) (x:Fin k):Array Value:=#[.int .i64 ((x.val:Nat):Int),.agg #[.int .i64 (at_ x.val),.slice (tx x.val).1 (tx x.val).2.1 (tx x.val).2.2]]
theorem backward_in (n:Nat) (A:Option Addr) (k c:Nat) (w:World) :
  CallsIn Fence.wide n Try.prog 100 #[.slice A k c] w fun e w'=>e=.returned (.func (.func 103) #[] #[.pointer (some ⟨w.heap.size,0,none⟩)])∧w'=w.alloc (.cells #[.slice A k c] 54):=by
 refine callsIn_of_wp Try.func100 rfl trivial ?_ rfl
 simp only [Try.ntmps100,List.size_toArray,List.length_cons,List.length_nil,Nat.reduceAdd,Nat.reduceSub,Array.replicate_succ,Array.replicate_zero,List.push_toArray,List.append_toArray,List.nil_append,List.cons_append]
 gi_wp2
 go_ret
 exact ⟨rfl,rfl⟩
theorem back1_in (n l B0 Bs:Nat) (A:Option Addr) (k c:Nat) (at_:Nat→Int) (tx:Nat→Option Addr × Nat × Nat) (J Jx:List (Fin k)→World→Prop) (W:World) (hn:1≤n) (hk:k≤100000)
  (hY:∀ pre x W,J pre W→pre.length < k→YieldAt Fence.wide (n - 1) Try.prog l (encB at_ tx x) W fun e W' =>
   (e=.returned (.bool true)∧J (pre ++ [x]) W'∧Below B0 W W')∨(e=.returned (.bool false)∧Jx (pre ++ [x]) W'))
  (hBs:Bs < B0) (c1:W.cell? ⟨Bs,0,none⟩=some (.slice A k c)) (hH:Hands W B0 A k at_ tx) (h0:J [] W) :
  CallsIn Fence.wide n Try.prog 103 #[.func (.yield l) #[] #[],.pointer (some ⟨Bs,0,none⟩)] W fun e W'=>(∃ v,e=.returned v) ∧
   ((∃ ys,ys=(List.finRange k).reverse∧J ys W')∨(∃ pre,pre <+: (List.finRange k).reverse∧Jx pre W')):=by
 have HY:=Lh hY
 have HH:=Lh hH
 have C1:=Lh c1
 have H0:=Lh h0
 have hkm:IntKind.i64.wrap ((k:Int) - 1)=(k:Int) - 1:=by simp [IntKind.wrap_i64];omega
 clear hY hH h0
 refine callsIn_of_wp Try.func103 rfl trivial ?_ rfl
 simp only [Try.ntmps103,List.size_toArray,List.length_cons,List.length_nil,Nat.reduceAdd,Nat.reduceSub,Array.replicate_succ,Array.replicate_zero,List.push_toArray,List.append_toArray,List.nil_append,List.cons_append]
 gi_wp2
 gi_loopw [3] (fun i wr=>((∃ m:Nat,m < k∧i=.int .i64 m∧J (downR k (k - 1 - m)) wr)∨(i=.int .i64 (-1)∧J (downR k k) wr))∧Below B0 W wr) (fun i _=>(intOf i + 1).toNat)
 case atStart =>
  refine ⟨?_,Below.refl _ _⟩
  rcases Nat.eq_zero_or_pos k with h0 | hp
  ·subst h0
   exact .inr ⟨rfl,H0.out⟩
  ·refine .inl ⟨k - 1,by omega,by congr 1;omega,?_⟩
   rw [show k - 1 - (k - 1)=0 by omega,downR_zero]
   exact H0.out
 case round =>
  obtain ⟨hj,hkp⟩:=hrel
  have d1:=(hkp.cell (p:=⟨Bs,0,none⟩) hBs).trans C1.out
  rcases hj with ⟨m,hm,rfl,hJ⟩ | ⟨rfl,hJ⟩
  ·have hmi:(m:Int) < (k:Int):=by omega
   have hm0:(0:Int)≤(m:Int):=by omega
   have hwm:IntKind.i64.wrap ((m:Int) - 1)=(m:Int) - 1:=by simp [IntKind.wrap_i64];omega
   obtain ⟨b,o,rfl,hlt,hcA,hcT⟩:=(HH.out.below hkp).cell m hm
   obtain ⟨fn,tmps,assign,body,hy,hR⟩:=HY.out (downR k (k - 1 - m)) ⟨m,hm⟩ wr hJ (by rw [downR_len _ _ (by omega)];omega)
   unfold encB at hy
   dsimp only at hy
   have HR:=Lh hR
   have KP:=Lh hkp
   have DS:=Lh (downR_succ hm)
   clear hR hkp hJ
   gi_wp2
   refine HR.out.mono ?_
   rintro e W3 (⟨rfl,hJ3,hk3⟩ | ⟨rfl,hJx3⟩)
   ·have J3:=Lh hJ3
    have K3:=Lh hk3
    clear hJ3 hk3 hy
    gi_wp2
    go_roundw
    case rel =>
     refine ⟨?_,KP.out.trans K3.out⟩
     have hJ4:=J3.out
     rw [← DS.out] at hJ4
     rcases m with _ | m
     ·exact .inr ⟨rfl,by simpa using hJ4⟩
     ·refine .inl ⟨m,by omega,by congr 1;omega,?_⟩
      rw [show k - 1 - m=k - (m + 1) by omega]
      exact hJ4
    case measure=>simp [intOf]
   ·have J3:=Lh hJx3
    clear hJx3 hy
    gi_wp2
    refine bodyPost_ret (results_none rfl _ _ _) rfl ?_
    exact ⟨⟨_,rfl⟩,.inr ⟨_,downR_pre k (k - m),by rw [DS.out];exact J3.out⟩⟩
  ·have J3:=Lh hJ
   clear hJ hkp
   gi_wp2
   go_end0
   exact ⟨⟨_,rfl⟩,.inl ⟨_,rfl,by rw [← downR_all];exact J3.out⟩⟩
end Go.Proofs.Ytdbeiikaeccbhaa
namespace Go.Proofs.Ytdbeiikaeccbhaa
open Go.RowKit Go.Shelf
attribute [local go_sem] Oper.semAt_some
theorem back_stops (n B0 Bs:Nat) (A:Option Addr) (k c:Nat) (at_:Nat→Int) (tx:Nat→Option Addr × Nat × Nat) (w:World) (hn:1≤n) (hk:k≤100000) (hBs:Bs < B0) (hB0:B0≤w.heap.size) (c1:w.cell? ⟨Bs,0,none⟩=some (.slice A k c)) (hH:Hands w B0 A k at_ tx) :
  SeqStopsK Fence.wide n Try.prog 103 #[.pointer (some ⟨Bs,0,none⟩)] (encB (k:=k) at_ tx) (Below B0) (fun ys=>ys=(List.finRange k).reverse) (fun pre=>pre <+: (List.finRange k).reverse) k w :=
 fun l J Jx W hW _ _ hY h0=>back1_in n l B0 Bs A k c at_ tx J Jx W hn hk hY hBs ((hW.cell (p:=⟨Bs,0,none⟩) (by show Bs < _;omega)).trans c1) (hH.below (hW.mono hB0)) h0
theorem writesOf_in (n:Nat) (A:Option Addr) (m c:Nat) (A':Option Addr) (m' c':Nat) (t:Int) (w:World) :
  CallsIn Fence.wide n Try.prog 88 #[diskV A m c A' m' c',.int .i64 t] w fun e w'=>e=.returned (.func (.func 99) #[] #[.pointer (some ⟨w.heap.size,0,none⟩),.pointer (some ⟨w.heap.size + 1,0,none⟩)])∧w'=(w.alloc (.cells #[.slice A m c,.slice A' m' c'] 56)).alloc (.cells #[.int .i64 t] 3):=by
 refine callsIn_of_wp Try.func88 rfl trivial ?_ rfl
 simp only [Try.ntmps88,List.size_toArray,List.length_cons,List.length_nil,Nat.reduceAdd,Nat.reduceSub,Array.replicate_succ,Array.replicate_zero,List.push_toArray,List.append_toArray,List.nil_append,List.cons_append]
 gi_wp2
 go_ret
 exact ⟨rfl,rfl⟩
theorem roundIn_wide {P:Program} {l l2 m m':Nat} {f:FuncId} {tmps:Array Value} {assign body:Code} {w:World} {R:Ending→World→Prop} (h:RoundIn Fence.wide m P l f tmps assign body w R):RoundIn (Fence.wide.inRound l2) m' P l f tmps assign body w R :=
 ⟨trivial,fun c cs _=>h.2 c cs (fun d hd=>by cases hd)⟩
def foundW (k:Nat) (at_:Nat→Int) (t:Int):Option (Fin k):=(List.finRange k).reverse.find? fun x=>decide (at_ x.val=t)
theorem foundW_none {k:Nat} {at_:Nat→Int} {t:Int} (h:∀ x ∈ (List.finRange k).reverse,at_ x.val≠t):foundW k at_ t=none:=by
 unfold foundW
 rw [List.find?_eq_none]
 intro x hx
 rw [decide_eq_true_iff]
 exact h x hx
theorem foundW_some {k:Nat} {at_:Nat→Int} {t:Int} {pre:List (Fin k)} {x:Fin k} (hp:pre ++ [x] <+: (List.finRange k).reverse) (h:∀ y ∈ pre,at_ y.val≠t) (hx:at_ x.val=t):foundW k at_ t=some x:=by
 unfold foundW
 obtain ⟨r,hr⟩:=hp
 rw [← hr,List.append_assoc,List.find?_append]
 rw [List.find?_eq_none.2 (fun y hy=>by rw [decide_eq_true_iff];exact h y hy)]
 simp [hx]
theorem writes_first (n Bd Ba:Nat) (A':Option Addr) (k c':Nat) (at_:Nat→Int) (tx:Nat→Option Addr × Nat × Nat) (t:Int) (w:World) (hn:5≤n) (hk:k≤100000) (hBd:Bd < w.heap.size) (hBa:Ba < w.heap.size)
  (c1:w.cell? ⟨Bd,1,none⟩=some (.slice A' k c')) (c2:w.cell? ⟨Ba,0,none⟩=some (.int .i64 t)) (hH:Hands w w.heap.size A' k at_ tx) :
  FirstOf Fence.wide n Try.prog 99 #[.pointer (some ⟨Bd,0,none⟩),.pointer (some ⟨Ba,0,none⟩)] (fun x:Fin k=>#[.slice (tx x.val).1 (tx x.val).2.1 (tx x.val).2.2]) (fun x=>at_ x.val=t) (foundW k at_ t) w:=by
 intro l J Jx W hW hJ hJx hY h0
 have hbY:Below W.heap.size W (W.alloc (.cells #[.func (.yield l) #[] #[]] 156)):=(Below.refl _ _).alloc (Nat.le_refl _) _
 have hsz:=hW.size
 have d1:=(hbY.cell (p:=⟨Bd,1,none⟩) (by show Bd < _;omega)).trans ((hW.cell (p:=⟨Bd,1,none⟩) hBd).trans c1)
 obtain ⟨W2,hW2⟩:∃ W2,W2=(W.alloc (.cells #[.func (.yield l) #[] #[]] 156)).alloc (.cells #[.slice A' k c'] 54):=⟨_,rfl⟩
 have hs2:W2.heap.size=W.heap.size + 2:=by rw [hW2];simp
 have hb02:Below W.heap.size W W2:=by rw [hW2];exact hbY.alloc (by simp) _
 have y2:W2.cell? ⟨W.heap.size,0,none⟩=some (.func (.yield l) #[] #[]):=by
  rw [hW2]
  exact ((Blk.new W 156 [.func (.yield l) #[] #[]]).grown (World.grownBy_alloc _ _ none) (by simp)).cell 0
 have s2:W2.cell? ⟨W.heap.size + 1,0,none⟩=some (.slice A' k c'):=by
  have:=(Blk.new (W.alloc (.cells #[.func (.yield l) #[] #[]] 156)) 54 [.slice A' k c']).cell 0
  rw [World.size_alloc] at this
  rw [hW2];exact this
 have a2:W2.cell? ⟨Ba,0,none⟩=some (.int .i64 t):=(hb02.cell (p:=⟨Ba,0,none⟩) (by show Ba < _;omega)).trans ((hW.cell (p:=⟨Ba,0,none⟩) hBa).trans c2)
 have hH2:Hands W2 W2.heap.size A' k at_ tx:=by
  have h:=(hH.below hW).below (hb02.mono hsz)
  exact ⟨fun i hi=>by
   obtain ⟨b,o,e,hlt,h1,h2⟩:=h.cell i hi
   exact ⟨b,o,e,by omega,h1,h2⟩⟩
 have hJ2:J W2:=by rw [hW2];exact OwnFrom.alloc (s:=()) hJ _ (OwnFrom.alloc (s:=()) hJ _ h0)
 have HY:=Lh hY
 have HJ:=Lh hJ
 have HJx:=Lh hJx
 clear hY hH c1 c2 h0 hbY hb02
 refine callsIn_of_wp_marks Try.func99 rfl trivial ?_ rfl
 simp only [Try.ntmps99,List.size_toArray,List.length_cons,List.length_nil,Nat.reduceAdd,Nat.reduceSub,Array.replicate_succ,Array.replicate_zero,List.push_toArray,List.append_toArray,List.nil_append,List.cons_append]
 gi_wp2_with (refine ⟨trivial,fun _=>(by omega),?_⟩;gi_at_call 100;refine (backward_in _ A' k c' _).mono ?_;rintro e w' ⟨rfl,rfl⟩)
 rw [← hW2]
 clear hW2 d1
 refine wpIn_rangeFunc_ownH rfl (by omega) (gf:=103) (lb:=#[.pointer (some ⟨W.heap.size + 1,0,none⟩)]) rfl trivial (enters_of Try.func103 (by kernel_rfl) rfl)
  (back_stops (n - 1) W2.heap.size (W.heap.size + 1) A' k c' at_ tx W2 (by omega) hk (by omega) (Nat.le_refl _) s2 hH2) (fun h k=>h.trans k) (belowK_b (Nat.le_refl _)) (Below.refl _ _) (fun _=>rfl)
  (fun pre W'=>(J W'∧∀ y ∈ pre,at_ y.val≠t)∧Below W2.heap.size W2 W')
  (fun c pre W'=>c=.ret∧∃ q x,pre=q ++ [x]∧(∀ y ∈ q,at_ y.val≠t)∧at_ x.val=t∧Jx x W')
  (OwnFrom.and (fun s X Y row hs hg hr=>⟨(hJ.of (by omega)) () X Y row hs.1 hg hr,hs.2⟩) (ownFrom_below (Nat.le_refl _) (Nat.le_refl _)))
  (fun c s X Y row hs hg hr=>by obtain ⟨e,q,x,h1,h2,h3,h4⟩:=hs;exact ⟨e,q,x,h1,h2,h3,((hJx x).of (by omega)) () X Y row h4 hg hr⟩)
  ⟨⟨hJ2,by simp⟩,Below.refl _ _⟩
  (fun x a' W'=>∃ Bx,Blk W' Bx 33 [.int .i64 (at_ x.val),.slice (tx x.val).1 (tx x.val).2.1 (tx x.val).2.2]∧a'={ tmps:=#[.func (.yield l) #[] #[],.pointer (some ⟨Bd,0,none⟩),.pointer (some ⟨Ba,0,none⟩),.pointer (some ⟨W.heap.size,0,none⟩),undef,.pointer (some ⟨Bx,0,none⟩),.pointer (some ⟨Bd,1,none⟩),.slice A' k c',
   .func (.func 103) #[] #[.pointer (some ⟨W.heap.size + 1,0,none⟩)],.int .i64 ((x.val:Nat):Int),.agg #[.int .i64 (at_ x.val),.slice (tx x.val).1 (tx x.val).2.1 (tx x.val).2.2],undef,undef,undef,undef,undef,undef,undef,undef,undef,undef,undef],defers:=[] })
  (fun x a' s X Y row hs hg hr=>by
   obtain ⟨Bx,h1,h2⟩:=hs
   refine ⟨Bx,h1.grown hg (fun e=>?_),h2⟩
   obtain ⟨_,o,ho,hc⟩:=hr Bx e.symm
   unfold Blk at h1
   rw [h1] at ho
   cases ho
   cases hc) ?assign ?body ?done ?stop
 case assign =>
  rintro l2 pre x W' K ⟨⟨hJ',hp⟩,hB⟩ hK
  have KK:=Lh hK
  have J':=Lh hJ'
  have P':=Lh hp
  have BB:=Lh hB
  clear hK hJ' hp hB
  unfold encB
  gi_wp2
  exact KK.out _ _ ((KeepsOthers.alloc _ _).from _) ((Below.refl _ W').alloc BB.out.size _) ⟨⟨OwnFrom.alloc (s:=()) HJ.out _ J'.out,P'.out⟩,BB.out.alloc BB.out.size _⟩ ⟨W'.heap.size,Blk.new W' 33 _,rfl⟩
 case body =>
  rintro l2 pre x a' W' hl ⟨r,hr⟩ ⟨⟨hJ',hp⟩,hB⟩ ⟨Bx,hx,rfl⟩ hlt
  have p0:=hx.cell 0
  have p1:=hx.cell 1
  simp only [gcZ,gcS] at p0 p1
  have y3:=(hB.cell (p:=⟨W.heap.size,0,none⟩) (by show W.heap.size < _;omega)).trans y2
  have a3:=(hB.cell (p:=⟨Ba,0,none⟩) (by show Ba < _;omega)).trans a2
  by_cases hxt:at_ x.val=t
  ·obtain ⟨fn,tmps,assign,body,hy,hR⟩:=HY.out x W' hxt hJ'
   have HR:=Lh hR
   have P':=Lh hp
   have BB:=Lh hB
   have HX:=Lh hxt
   have hq:(at_ x.val == t)=true:=beq_iff_eq.2 hxt
   clear hR hp hB hJ' hr hx hxt
   gi_wp2
   refine ⟨fun _=>(by omega),(roundIn_wide HR.out).mono ?_⟩
   rintro e W3 ⟨rfl,hJ3,hk3⟩
   have J3:=Lh hJ3
   have K3:=Lh hk3
   clear hJ3 hk3 hy
   gi_wp2
   exact ⟨⟨K3.out.size,fun k o hk=>K3.out.same k o (by omega)⟩,rfl,pre,x,rfl,P'.out,HX.out,J3.out⟩
  ·have P':=Lh hp
   have BB:=Lh hB
   have J':=Lh hJ'
   have HX:=Lh hxt
   have hq:(at_ x.val == t)=false:=beq_eq_false_iff_ne.2 hxt
   clear hp hB hJ' hr hx hxt
   gi_wp2
   refine ⟨fun _ h=>(by cases h),?_⟩
   gi_wp2
   exact ⟨KeepsFrom.refl _ _,Below.refl _ _,⟨J'.out,fun y hy=>by
    rcases List.mem_append.1 hy with hy | hy
    ·exact P'.out y hy
    ·rw [List.mem_singleton] at hy;subst hy;exact HX.out⟩,BB.out⟩
 case done =>
  rintro D ys W' hD rfl ⟨⟨hJ',hp⟩,hB⟩ hK
  have J':=Lh hJ'
  have HK:=Lh hK
  have FN:=Lh (foundW_none hp)
  clear hJ' hp hB hK
  gi_wp2
  refine ⟨by simp,.inl ⟨_,_,rfl,run_takeDeferred HK.out,?_⟩⟩
  exact ⟨_,results_none rfl _ _ _,⟨_,rfl⟩,.inl ⟨FN.out,OwnFrom.putObj (s:=()) HJ.out _ J'.out (by omega) HK.out rfl⟩⟩
 case stop =>
  rintro D c pre W' hD hpre ⟨rfl,q,x,rfl,hq,hx,hJ'⟩ hK
  have J':=Lh hJ'
  have HK:=Lh hK
  have FN:=Lh (foundW_some hpre hq hx)
  clear hJ' hpre hq hx hK
  gi_wp2
  refine ⟨by simp,.inl ⟨_,_,rfl,run_takeDeferred HK.out,?_⟩⟩
  exact ⟨_,results_none rfl _ _ _,⟨_,rfl⟩,.inr ⟨x,FN.out,OwnFrom.putObj (s:=()) (HJx.out x) _ J'.out (by omega) HK.out rfl⟩⟩
end Go.Proofs.Ytdbeiikaeccbhaa
namespace Go.Proofs.Ytdbeiikaeccbhaa
open Go.RowKit Go.Shelf
attribute [local go_sem] Oper.semAt_some
theorem abide_blk (B g:Nat) (t:TypeId) (cs:List Value):AbideW B (fun W=>Blk W g t cs):=fun s X Y row hs hg hr=>hs.grown hg (fun e=>by
 obtain ⟨_,o,ho,hc⟩:=hr g e.symm
 unfold Blk at hs
 rw [hs] at ho
 cases ho
 cases hc)
theorem abide_below {w:World} {B:Nat} (h:w.heap.size≤B):AbideW B (fun W=>Below w.heap.size w W):=ownFrom_below (Nat.le_refl _) h
theorem abide_and {B:Nat} {I J:World→Prop} (h:AbideW B I) (k:AbideW B J):AbideW B (fun W=>I W∧J W):=fun s X Y row hs hg hr=>⟨h s X Y row hs.1 hg hr,k s X Y row hs.2 hg hr⟩
theorem three_boxes (w:World) (d:List Value) (t1 t2:TypeId) (v1 v2:Value):∃ w1,w1=((w.alloc (.cells d.toArray 56)).alloc (.cells #[v1] t1)).alloc (.cells #[v2] t2)∧w1.heap.size=w.heap.size + 3∧Below w.heap.size w w1∧Blk w1 w.heap.size 56 d∧Blk w1 (w.heap.size + 1) t1 [v1]∧Blk w1 (w.heap.size + 2) t2 [v2]:=by
 refine ⟨_,rfl,by simp,(((Below.refl _ _).alloc (Nat.le_refl _) _).alloc (by simp) _).alloc (by simp;omega) _,?_,?_,?_⟩
 ·exact ((Blk.new w 56 d).grown (World.grownBy_alloc _ _ none) (by simp)).grown (World.grownBy_alloc _ _ none) (by simp)
 ·have:=Blk.new (w.alloc (.cells d.toArray 56)) t1 [v1]
  rw [World.size_alloc] at this
  exact this.grown (World.grownBy_alloc _ _ none) (by simp)
 ·have:=Blk.new ((w.alloc (.cells d.toArray 56)).alloc (.cells #[v1] t1)) t2 [v2]
  rw [World.size_alloc,World.size_alloc] at this
  exact this
theorem Blk.one {w:World} {g:Nat} {t:TypeId} {a:Value} (h:Blk w g t [a]) (x:Value):Blk (w.setCell ⟨g,0,none⟩ x) g t [x]:=h.set 0 x
end Go.Proofs.Ytdbeiikaeccbhaa
namespace Go.Proofs.Ytdbeiikaeccbhaa
open Go.RowKit Go.Shelf
attribute [local go_sem] Oper.semAt_some
theorem Hands.more {w:World} {B B':Nat} {A:Option Addr} {k:Nat} {at_:Nat→Int} {tx:Nat→Option Addr × Nat × Nat} (h:Hands w B A k at_ tx) (hB:B≤B'):Hands w B' A k at_ tx :=
 ⟨fun i hi=>by
  obtain ⟨b,o,e,hlt,h1,h2⟩:=h.cell i hi
  exact ⟨b,o,e,Nat.lt_of_lt_of_le hlt hB,h1,h2⟩⟩
theorem keepsOthers_below {W W':World} (h:Below W.heap.size W W'):KeepsOthers W W':=⟨h.size,fun k o hk _=>(h.block k (Array.getElem?_eq_some_iff.1 hk).1).trans hk⟩
theorem abide_ex {α:Type} {B:Nat} {I:α→World→Prop} (h:∀ x,AbideW B (I x)):AbideW B (fun W=>∃ x,I x W):=fun s X Y row hs hg hr=>by
 obtain ⟨x,hx⟩:=hs
 exact ⟨x,h x s X Y row hx hg hr⟩
theorem abide_owns (B base:Nat) (e:TypeId) (k:Nat) (v:Value) (n:Nat) (xs:List Value):AbideW B (fun W=>W.ownsRow base e k v n xs):=fun s X Y row hs hg hr =>
 owns_keep hs fun g cs _ hc=>hg.block g (Array.getElem?_eq_some_iff.1 hc).1 (fun e=>by
  obtain ⟨_,o,ho,hc2⟩:=hr g e.symm
  rw [hc] at ho
  cases ho
  cases hc2)
theorem lastW_found {C:List Pnd} {k:Nat} (hl:C.length=k) (t:Int):lastW C t=(foundW k (fun i=>(C.getD i (0,[])).1) t).map fun x=>(C.getD x.val (0,[])).2:=by
 have hC:C=(List.finRange k).map fun x=>C.getD x.val (0,[]):=by
  apply List.ext_getElem
  ·simp [hl]
  ·intro i h1 h2
   simp [h1]
 unfold lastW foundW
 conv=>lhs;rw [hC]
 rw [← List.map_reverse,List.find?_map,Option.map_map]
 rfl
theorem rd_some {S:List Sec} {C:List Pnd} {t:Int} {x:Txt} (h0:askE S C t=0) (h:lastW C t=some x):rdE S C t=0∧rdB S C t=x:=by
 have hE:rdE S C t=0:=by unfold rdE gotOk;rw [if_pos h0,h];rfl
 exact ⟨hE,by unfold rdB gotB;rw [if_pos hE,h];rfl⟩
theorem rd_none_ok {S:List Sec} {C:List Pnd} {t:Int} (h0:askE S C t=0) (h:lastW C t=none) (hb:(secAt S t).1=false):rdE S C t=0∧rdB S C t=(secAt S t).2:=by
 have hE:rdE S C t=0:=by unfold rdE gotOk;rw [if_pos h0,h,hb];rfl
 exact ⟨hE,by unfold rdB gotB;rw [if_pos hE,h];rfl⟩
theorem rd_none_bad {S:List Sec} {C:List Pnd} {t:Int} (h0:askE S C t=0) (h:lastW C t=none) (hb:(secAt S t).1=true):rdE S C t=50∧rdB S C t=[]:=by
 have hE:rdE S C t=50:=by unfold rdE gotOk;rw [if_pos h0,h,hb];rfl
 exact ⟨hE,by unfold rdB;rw [hE];rfl⟩
def ReadOut (w:World) (b:Txt) (E:Int) (e:Ending) (w':World):Prop :=
 ∃ A c,e=.returned (.tuple #[.slice A b.length c,.int .i64 E])∧w'.ownsRow w.heap.size 5 1 (.slice A b.length c) b.length (ints .u8 b)∧Below w.heap.size w w'∧(E≠0→A=none∧c=0)
theorem ReadOut.bytes {w:World} {b:Txt} {E:Int} {e:Ending} {w':World} (h:ReadOut w b E e w'):BytesOut w b E e w':=by
 obtain ⟨A,c,h1,h2,h3,_⟩:=h
 exact ⟨A,c,h1,h2,h3⟩
theorem read_in (A:Option Addr) (n c:Nat) (A':Option Addr) (n' c':Nat) (S:List Sec) (C:List Pnd) (t:Int) (w:World) (hq:Dsk w A n c A' n' c' S C) (hs:SmallD S C) (hask:askE S C t=0) :
  CallsIn Fence.wide 9 Try.prog 65 #[diskV A n c A' n' c',.int .i64 t] w (ReadOut w (rdB S C t) (rdE S C t)):=by
 have hn':n'≤100000:=by have:=hs.pnds;have:=hq.pnds.len;omega
 have LF:=lastW_found hq.pnds.len t
 obtain ⟨_,a,rfl,han⟩:=ask_zero hask
 rw [hq.secs.len] at han
 have RS:=Lh fun x=>rd_some (S:=S) (C:=C) (t:=(a:Int)) (x:=x) hask
 have RO:=Lh (rd_none_ok (S:=S) (C:=C) (t:=(a:Int)) hask)
 have RB:=Lh (rd_none_bad (S:=S) (C:=C) (t:=(a:Int)) hask)
 obtain ⟨at_,hat⟩:∃ f:Nat→Int,f=fun i=>(C.getD i (0,[])).1:=⟨_,rfl⟩
 rw [← hat] at LF
 have HAT:=Lh hat
 have LF:=Lh LF
 have SMP:=Lh fun k=>hs.pnd_at k
 have SMS:=Lh fun k=>hs.sec_at k
 obtain ⟨t,ht⟩:∃ t:Int,t=a:=⟨_,rfl⟩
 rw [← ht] at hask LF RS RO RB ⊢
 have ht0:0≤t:=by omega
 have htn:t < (n:Int):=by omega
 have hcm:=Nat.le_trans hq.secs.cap hq.secs.max
 unfold maxLen at hcm
 obtain ⟨w1,hw1,hsz1,hb,x0,x1,x2⟩:=three_boxes w [.slice A n c,.slice A' n' c'] 22 24 (.slice none 0 0) (.int .i64 0)
 have CA:=checkAt_any A n c A' n' c' S C t w1 (hq.below hb)
 rw [hask] at CA
 have CA:=Lh CA
 have c0:=x0.cell 0
 have c1:=x0.cell 1
 simp only [gcZ,gcS] at c0 c1
 have X0:=Lh x0
 have X1:=Lh x1
 have X2:=Lh x2
 have BEL:=Lh hb
 have H:=Lh hq
 have HT:=Lh ht
 clear hq hs hask hsz1 hb x0 x1 x2 hat ht
 refine callsIn_of_wp_marks Try.func65 rfl trivial ?_ rfl
 simp only [Try.ntmps65,List.size_toArray,List.length_cons,List.length_nil,Nat.reduceAdd,Nat.reduceSub,Array.replicate_succ,Array.replicate_zero,List.push_toArray,List.append_toArray,List.nil_append,List.cons_append]
 gi_wp2_with fail
 rw [← hw1]
 clear hw1
 refine ⟨trivial,?_⟩
 gi_at_call 87
 refine (callsIn_wide.2 CA.out).mono ?_
 rintro e w2 ⟨rfl,hb2⟩
 have Y0:=Lh (X0.out.below hb2 X0.out.lt)
 have Y1:=Lh (X1.out.below hb2 X1.out.lt)
 have Y2:=Lh (X2.out.below hb2 X2.out.lt)
 have B2:=Lh (BEL.out.trans (hb2.mono BEL.out.size))
 have d0:=Y0.out.cell 0
 have d1:=Y0.out.cell 1
 simp only [gcZ,gcS] at d0 d1
 clear hb2 c0 c1 CA
 gi_wp2_with (refine ⟨trivial,?_⟩;gi_at_call 88;refine (writesOf_in _ A n c A' n' c' t _).mono ?_;rintro e w' ⟨rfl,rfl⟩)
 obtain ⟨W1,hW1⟩:∃ W1,W1=(w2.alloc (.cells #[.slice A n c,.slice A' n' c'] 56)).alloc (.cells #[.int .i64 t] 3):=⟨_,rfl⟩
 have hs1:W1.heap.size=w2.heap.size + 2:=by rw [hW1];simp
 have hb21:Below w2.heap.size w2 W1:=by rw [hW1];exact ((Below.refl _ _).alloc (Nat.le_refl _) _).alloc (by simp) _
 have z1:W1.cell? ⟨w2.heap.size,1,none⟩=some (.slice A' n' c'):=by
  rw [hW1]
  exact ((Blk.new w2 56 [.slice A n c,.slice A' n' c']).grown (World.grownBy_alloc _ _ none) (by simp)).cell 1
 have z2:W1.cell? ⟨w2.heap.size + 1,0,none⟩=some (.int .i64 t):=by
  have:=(Blk.new (w2.alloc (.cells #[.slice A n c,.slice A' n' c'] 56)) 3 [.int .i64 t]).cell 0
  rw [World.size_alloc] at this
  rw [hW1];exact this
 rw [← hW1]
 clear hW1 d0 d1
 have B1:=Lh (B2.out.trans (hb21.mono B2.out.size))
 have V0:=Lh (Y0.out.below hb21 Y0.out.lt)
 have V1:=Lh (Y1.out.below hb21 Y1.out.lt)
 have V2:=Lh (Y2.out.below hb21 Y2.out.lt)
 obtain ⟨tx,hH0,htx⟩:=Hands.of H.out.pnds
 rw [← HAT.out] at hH0
 have hH:=(hH0.below B1.out).more B1.out.size
 clear hH0
 have HTX:=Lh htx
 clear hb21 htx Y0 Y1 Y2
 obtain ⟨G2,hG2⟩:∃ G2,G2=w.heap.size + 1 + 1:=⟨_,rfl⟩
 have hG2w:w.heap.size≤G2:=by omega
 have hG12:w.heap.size + 1≠G2:=by omega
 have hG02:w.heap.size≠G2:=by omega
 change Hid (Blk W1 (w.heap.size + 1 + 1) _ _) at V2
 rw [← hG2] at V2 ⊢
 clear hG2
 refine wpIn_rangeFunc_first rfl (by omega) (gf:=99) (lb:=#[.pointer (some ⟨w2.heap.size,0,none⟩),.pointer (some ⟨w2.heap.size + 1,0,none⟩)]) rfl trivial (enters_of Try.func99 (by kernel_rfl) rfl)
  (writes_first 8 w2.heap.size (w2.heap.size + 1) A' n' c' at_ tx t W1 (by omega) hn' (by omega) (by omega) z1 z2 hH) (Below.refl _ _) (fun _=>rfl)
  (fun W=>(Blk W (w.heap.size + 1) 22 [.slice none 0 0]∧Blk W G2 24 [.int .i64 0])∧Blk W w.heap.size 56 [.slice A n c,.slice A' n' c']∧Below w.heap.size w W)
  (fun x W=>∃ A1 c1,(Blk W (w.heap.size + 1) 22 [.slice A1 (tx x.val).2.1 c1]∧Blk W G2 24 [.int .i64 0])∧W.ownsRow w.heap.size 5 1 (.slice A1 (tx x.val).2.1 c1) (tx x.val).2.1 (ints .u8 (C.getD x.val (0,[])).2)∧Below w.heap.size w W)
  (abide_and (abide_and (abide_blk _ _ _ _) (abide_blk _ _ _ _)) (abide_and (abide_blk _ _ _ _) (abide_below B1.out.size))) (fun x=>abide_ex fun A1=>abide_ex fun c1=>abide_and (abide_and (abide_blk _ _ _ _) (abide_blk _ _ _ _)) (abide_and (abide_owns _ _ _ _ _ _ _) (abide_below B1.out.size)))
  ⟨⟨V1.out,V2.out⟩,V0.out,B1.out⟩
  (fun x=>{ tmps:=#[diskV A n c A' n' c',.int .i64 t,.pointer (some ⟨w.heap.size,0,none⟩),undef,.pointer (some ⟨w.heap.size + 1,0,none⟩),.pointer (some ⟨G2,0,none⟩),.int .i64 0,.slice (tx x.val).1 (tx x.val).2.1 (tx x.val).2.2,.agg #[.slice A n c,.slice A' n' c'],.int .i64 t,.int .i64 0,.int .i64 0,.bool false,undef,.agg #[.slice A n c,.slice A' n' c'],.int .i64 t,.func (.func 99) #[] #[.pointer (some ⟨w2.heap.size,0,none⟩),.pointer (some ⟨w2.heap.size + 1,0,none⟩)],.slice (tx x.val).1 (tx x.val).2.1 (tx x.val).2.2,undef,undef,undef,undef,undef,undef,undef,undef,undef,undef,undef,undef,undef,undef,undef],defers:=[] }) ?assign ?body ?done ?stop
 case assign =>
  intro l x W K hK
  dsimp only
  gi_wp2
  first | exact hK | simpa using hK
 case body =>
  rintro l x W hok ⟨⟨h1,h2⟩,h3,hB⟩
  have ha:=(HTX.out x.val x.isLt)
  have hargW:Arg W .u8 (tx x.val).1 (tx x.val).2.1 (tx x.val).2.2 (C.getD x.val (0,[])).2:=ha.below hB
  have hln:(tx x.val).2.1≤100000:=by have:=SMP.out x.val;have:=hargW.len;omega
  have CL:=Lh (bclone_any _ _ _ _ W hargW hln)
  have G1:=Lh h1
  have G3:=Lh h2
  have BB:=Lh hB
  clear h1 h2 h3 hB ha hargW
  gi_wp2_with (refine ⟨trivial,?_⟩;gi_at_call 70;refine (CallsIn.inRound l (callsIn_wide.2 CL.out)).mono ?_;rintro e w5 ⟨A1,c1,rfl,hown5,hb5⟩;have k1:=G1.out.below hb5 G1.out.lt;have k2:=G3.out.below hb5 G3.out.lt;have p1:=k1.cell 0;have p2:=k2.cell 0;have f1:=k1.free 0;have f2:=k2.free 0;simp only [gcZ] at p1 p2;have R1:=Lh ((k1.one (.slice A1 (tx x.val).2.1 c1)).away hG12 0 (.int .i64 0));have R2:=Lh ((k2.away (Ne.symm hG12) 0 (.slice A1 (tx x.val).2.1 c1)).one (.int .i64 0));have OW:=Lh (owns_other_box (owns_other_box (owns_base hown5 BB.out.size) k1 (by decide) 0 (.slice A1 (tx x.val).2.1 c1)) (k2.away (Ne.symm hG12) 0 (.slice A1 (tx x.val).2.1 c1)) (by decide) 0 (.int .i64 0));have B5:=Lh ((((BB.out.trans (hb5.mono BB.out.size))).setCell (p:=⟨w.heap.size + 1,0,none⟩) (Nat.le_succ _) (.slice A1 (tx x.val).2.1 c1)).setCell (p:=⟨G2,0,none⟩) hG2w (.int .i64 0));have KO:=Lh (keepsOthers_below hb5);clear hown5 hb5 k1 k2)
  exact ⟨(KO.out.trans (KeepsOthers.setCell _ _ _)).trans (KeepsOthers.setCell _ _ _),A1,c1,⟨R1.out,R2.out⟩,OW.out,B5.out⟩
 case done =>
  rintro D W hD hf ⟨⟨h1,h2⟩,h3,hB⟩ hK
  have hnone:lastW C t=none:=by rw [LF.out,hf];rfl
  have htt:=HT.out
  subst htt
  obtain ⟨b,o,Ai,ni,ci,rfl,hlt,hc,hx,hai⟩:=(H.out.secs.below hB).at_ a han
  have hsa:secAt S (a:Int)=S.getD a (false,[]):=by simp [secAt]
  have q0:=h3.cell 0
  have p1:=h1.cell 0
  have p2:=h2.cell 0
  have f1:=h1.free 0
  have f2:=h2.free 0
  simp only [gcZ] at q0 p1 p2
  have hsm:=SMS.out a
  have hln:=hai.len
  obtain ⟨s,hs⟩:∃ s,s=S.getD a (false,[]):=⟨_,rfl⟩
  rw [← hs] at hx hai hsa hsm hln
  obtain ⟨bad,x⟩:=s
  cases bad with
  | true =>
   have RES:=Lh (RB.out hnone (by rw [hsa]))
   have R1:=Lh ((h1.one (.slice none 0 0)).away hG12 0 (.int .i64 50))
   have R2:=Lh ((h2.away (Ne.symm hG12) 0 (.slice none 0 0)).one (.int .i64 50))
   have BB:=Lh ((hB.setCell (p:=⟨w.heap.size + 1,0,none⟩) (Nat.le_succ _) (.slice none 0 0)).setCell (p:=⟨G2,0,none⟩) hG2w (.int .i64 50))
   have HK:=Lh (((KeepsOthers.setCell W ⟨w.heap.size + 1,0,none⟩ (.slice none 0 0)).trans (KeepsOthers.setCell _ ⟨G2,0,none⟩ (.int .i64 50))).same D _ hK rfl)
   clear h1 h2 h3 hB hK hf hnone hs hsa hai
   gi_wp2
   refine ⟨by simp,.inl ⟨_,_,rfl,run_takeDeferred HK.out,?_⟩⟩
   have e1:=((abide_blk 0 _ _ _) () _ _ _ R1.out (grownBy_putObj' _ D (.deferred none)) (fun r e=>by cases e;exact ⟨Nat.zero_le _,_,HK.out,rfl⟩)).cell 0
   have e2:=((abide_blk 0 _ _ _) () _ _ _ R2.out (grownBy_putObj' _ D (.deferred none)) (fun r e=>by cases e;exact ⟨Nat.zero_le _,_,HK.out,rfl⟩)).cell 0
   simp only [gcZ] at e1 e2
   refine ⟨.tuple #[.slice none 0 0,.int .i64 50],?_,?_⟩
   ·clear q0 p1 p2 f1 f2
    simp [results,Try.f65,go_sem,e1,e2]
   ·have hR:=RES.out
    rw [hR.1,hR.2]
    exact ⟨none,0,rfl,World.ownsRow_nil _ _ _ _,BB.out.trans (belowK_b (w:=w) (Nat.le_refl _) _ D _ _ (Nat.le_trans B1.out.size hD) HK.out rfl rfl),fun _=>⟨rfl,rfl⟩⟩
  | false =>
   have RES:=Lh (RO.out hnone (by rw [hsa]))
   have HSA:=Lh hsa
   have CL:=Lh (bclone_any Ai ni ci x W hai (by dsimp only at hsm hln;omega))
   have G1:=Lh h1
   have G3:=Lh h2
   have BB:=Lh hB
   have HK:=Lh hK
   clear h1 h2 h3 hB hK hf hnone hs hsa hai p1 p2 f1 f2
   gi_wp2_with (refine ⟨trivial,?_⟩;gi_at_call 70;refine (callsIn_wide.2 CL.out).mono ?_;rintro e w5 ⟨A1,c1,rfl,hown5,hb5⟩;have k1:=G1.out.below hb5 G1.out.lt;have k2:=G3.out.below hb5 G3.out.lt;have p1:=k1.cell 0;have p2:=k2.cell 0;have f1:=k1.free 0;have f2:=k2.free 0;simp only [gcZ] at p1 p2;have R1:=Lh ((k1.one (.slice A1 ni c1)).away hG12 0 (.int .i64 0));have R2:=Lh ((k2.away (Ne.symm hG12) 0 (.slice A1 ni c1)).one (.int .i64 0));have OW:=Lh (owns_other_box (owns_other_box (owns_base hown5 BB.out.size) k1 (by decide) 0 (.slice A1 ni c1)) (k2.away (Ne.symm hG12) 0 (.slice A1 ni c1)) (by decide) 0 (.int .i64 0));have B5:=Lh ((((BB.out.trans (hb5.mono BB.out.size))).setCell (p:=⟨w.heap.size + 1,0,none⟩) (Nat.le_succ _) (.slice A1 ni c1)).setCell (p:=⟨G2,0,none⟩) hG2w (.int .i64 0));have HK2:=Lh (((keepsOthers_below hb5).trans ((KeepsOthers.setCell w5 ⟨w.heap.size + 1,0,none⟩ (.slice A1 ni c1)).trans (KeepsOthers.setCell _ ⟨G2,0,none⟩ (.int .i64 0)))).same D _ HK.out rfl);clear hown5 hb5 k1 k2)
   refine ⟨by simp,.inl ⟨_,_,rfl,run_takeDeferred HK2.out,?_⟩⟩
   have e1:=((abide_blk 0 _ _ _) () _ _ _ R1.out (grownBy_putObj' _ D (.deferred none)) (fun r e=>by cases e;exact ⟨Nat.zero_le _,_,HK2.out,rfl⟩)).cell 0
   have e2:=((abide_blk 0 _ _ _) () _ _ _ R2.out (grownBy_putObj' _ D (.deferred none)) (fun r e=>by cases e;exact ⟨Nat.zero_le _,_,HK2.out,rfl⟩)).cell 0
   have o2:=(abide_owns 0 _ _ _ _ _ _) () _ _ _ OW.out (grownBy_putObj' _ D (.deferred none)) (fun r e=>by cases e;exact ⟨Nat.zero_le _,_,HK2.out,rfl⟩)
   simp only [gcZ] at e1 e2
   have hlx:ni=x.length:=hln.symm
   refine ⟨.tuple #[.slice A1 ni c1,.int .i64 0],?_,⟨A1,c1,?_,?_,B5.out.trans (belowK_b (w:=w) (Nat.le_refl _) _ D _ _ (Nat.le_trans B1.out.size hD) HK2.out rfl rfl),fun h=>absurd RES.out.1 h⟩⟩
   ·clear q0 p1 p2 f1 f2
    simp [results,Try.f65,go_sem,e1,e2]
   ·rw [RES.out.1,RES.out.2,HSA.out,← hlx]
   ·rw [RES.out.2,HSA.out,← hlx];exact o2
 case stop =>
  rintro D x W hD hf ⟨A1,c1,⟨h1,h2⟩,ho,hB⟩ hK
  have HF:=Lh hf
  have R1:=Lh h1
  have R2:=Lh h2
  have OW:=Lh ho
  have BB:=Lh hB
  have HK:=Lh hK
  clear h1 h2 ho hB hK hf
  gi_wp2
  refine ⟨by simp,.inl ⟨_,_,rfl,run_takeDeferred HK.out,?_⟩⟩
  have e1:=((abide_blk 0 _ _ _) () _ _ _ R1.out (grownBy_putObj' _ D (.deferred none)) (fun r e=>by cases e;exact ⟨Nat.zero_le _,_,HK.out,rfl⟩)).cell 0
  have e2:=((abide_blk 0 _ _ _) () _ _ _ R2.out (grownBy_putObj' _ D (.deferred none)) (fun r e=>by cases e;exact ⟨Nat.zero_le _,_,HK.out,rfl⟩)).cell 0
  have o2:=(abide_owns 0 _ _ _ _ _ _) () _ _ _ OW.out (grownBy_putObj' _ D (.deferred none)) (fun r e=>by cases e;exact ⟨Nat.zero_le _,_,HK.out,rfl⟩)
  simp only [gcZ] at e1 e2
  have hRS:=RS.out (C.getD x.val (0,[])).2 (by rw [LF.out,HF.out];rfl)
  have hln:(tx x.val).2.1=(C.getD x.val (0,[])).2.length:=by have:=o2.1;rw [ints_length] at this;omega
  refine ⟨.tuple #[.slice A1 (tx x.val).2.1 c1,.int .i64 0],?_,⟨A1,c1,?_,?_,BB.out.trans (belowK_b (w:=w) (Nat.le_refl _) W D _ _ (Nat.le_trans B1.out.size hD) HK.out rfl rfl),fun h=>absurd hRS.1 h⟩⟩
  ·simp [results,Try.f65,go_sem,e1,e2]
  ·rw [hRS.1,hRS.2,← hln]
  ·rw [hRS.2,← hln];exact o2
theorem pread_nil (A:Option Addr) (n c:Nat) (A':Option Addr) (n' c':Nat) (S:List Sec) (C:List Pnd) (t:Int) (w:World) (hq:Dsk w A n c A' n' c' S C) (hs:SmallD S C) :
  Calls Try.prog 65 #[diskV A n c A' n' c',.int .i64 t] w (ReadOut w (rdB S C t) (rdE S C t)):=by
 by_cases h0:askE S C t=0
 ·exact callsIn_wide.1 (read_in A n c A' n' c' S C t w hq hs h0)
 ·have hE:rdE S C t=askE S C t:=by unfold rdE;rw [if_neg h0]
  have hw:rdB S C t=[]:=by unfold rdB;rw [hE,if_neg h0]
  rw [hw,hE]
  obtain ⟨w1,hw1,hsz1,hb,x0,x1,x2⟩:=three_boxes w [.slice A n c,.slice A' n' c'] 22 24 (.slice none 0 0) (.int .i64 0)
  have CA:=checkAt_any A n c A' n' c' S C t w1 (hq.below hb)
  clear hE
  obtain ⟨E,hE⟩:∃ E,E=askE S C t:=⟨_,rfl⟩
  rw [← hE] at CA h0 ⊢
  have hne:(E != 0)=true:=bne_iff_ne.2 h0
  have CA:=Lh CA
  have c0:=x0.cell 0
  have c1:=x0.cell 1
  simp only [gcZ,gcS] at c0 c1
  have X1:=Lh x1
  have X2:=Lh x2
  have BEL:=Lh hb
  clear hq hs hsz1 hb x0 x1 x2 hE h0 hw
  go_enter Try.func65,Try.ntmps65
  go_wp2_with fail
  rw [← hw1]
  clear hw1
  refine CA.out.mono ?_
  rintro e w2 ⟨rfl,hb2⟩
  have y1:=X1.out.below hb2 X1.out.lt
  have y2:Blk w2 (w.heap.size + 1 + 1) 24 [.int .i64 0]:=X2.out.below hb2 X2.out.lt
  have B2:=BEL.out.trans (hb2.mono BEL.out.size)
  obtain ⟨G2,hG2⟩:∃ G2,G2=w.heap.size + 1 + 1:=⟨_,rfl⟩
  have hG2w:w.heap.size≤G2:=by omega
  have hG12:w.heap.size + 1≠G2:=by omega
  rw [← hG2] at y2 ⊢
  have p1:=y1.cell 0
  have p2:=y2.cell 0
  have f1:=y1.free 0
  have f2:=y2.free 0
  simp only [gcZ] at p1 p2
  have e1:=((y1.one (.slice none 0 0)).away hG12 0 (.int .i64 E)).cell 0
  have e2:=((y2.away (Ne.symm hG12) 0 (.slice none 0 0)).one (.int .i64 E)).cell 0
  simp only [gcZ] at e1 e2
  have BB:=Lh ((B2.setCell (p:=⟨w.heap.size + 1,0,none⟩) (Nat.le_succ _) (.slice none 0 0)).setCell (p:=⟨G2,0,none⟩) hG2w (.int .i64 E))
  clear y1 y2 B2 hb2 hG2 c0 c1
  go_wp2
  refine bodyPost_ret (v:=.tuple #[.slice none 0 0,.int .i64 E]) ?_ rfl ⟨none,0,rfl,World.ownsRow_nil _ _ _ _,BB.out,fun _=>⟨rfl,rfl⟩⟩
  clear p1 p2 f1 f2
  simp [results,Try.f65,go_sem,e1,e2]
theorem pread_any (A:Option Addr) (n c:Nat) (A':Option Addr) (n' c':Nat) (S:List Sec) (C:List Pnd) (t:Int) (w:World) (hq:Dsk w A n c A' n' c' S C) (hs:SmallD S C) :
  Calls Try.prog 65 #[diskV A n c A' n' c',.int .i64 t] w (BytesOut w (rdB S C t) (rdE S C t)):=(pread_nil A n c A' n' c' S C t w hq hs).mono fun _ _ h=>h.bytes
end Go.Proofs.Ytdbeiikaeccbhaa
