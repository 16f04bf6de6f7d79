/- Texts of layers 1 to 12, joined. -/
import Derived.Test.YtifgcfepbenpjaaGreatNb31
import Derived.Test.YtifgcfepbenpjaaGreatNb32
import Derived.Maps.RangeWalk
set_option maxRecDepth 100000
set_option maxHeartbeats 12800000
set_option linter.unusedVariables false
namespace Go.Proofs.YtifgcfepbenpjaaGreat
open Go.RowKit Go.Shelf
attribute [local go_sem] Oper.semAt_some
def EachOf {α:Type} (F:Fence) (n:Nat) (P:Program) (g:Nat) (lb:Array Value) (encs:α→Array Value) (ok:α→World→Prop) (Kp:World→World→Prop) (S:List α→Prop) (N:Nat) (w:World):Prop :=
 ∀ (l:Nat) (J:List α→World→Prop) (W:World),Below w.heap.size w W→(∀ xs,AbideW W.heap.size (J xs)) →
  (∀ pre x W1,ok x W1→J pre W1→pre.length < N→YieldAt F (n - 1) P l (encs x) W1 fun e W'=>e=.returned (.bool true)∧J (pre ++ [x]) W'∧Kp W1 W')→J [] W →
  CallsIn F n P g (#[.func (.yield l) #[] #[]] ++ lb) W fun e W'=>(∃ v,e=.returned v)∧∃ xs,S xs∧J xs W'
def eachPost (Kp:World→World→Prop) (I:World→Prop) (W:World):Exit→Act→World→Prop
 | .normal,_,W'=>KeepsOthers W W'∧Kp W W'∧I W'
 | _,_,_=>False
theorem wpIn_rangeFunc_each {α:Type} {F:Fence} {n:Nat} {P:Program} {g:Operand} {ps:Array Tmp} {assign body:Code} {Q:Exit→Act→World→Prop} {a:Act} {w:World}
  (hro:F.round=none) (h1:1≤n) {gf:Nat} {lb:Array Value} (hg:a.eval g=.func (.func gf) #[] lb) (hFg:F.fn gf) (eg:∀ args w,(callFunc gf args).run P w=.ok (.enter gf args) w)
  {encs:α→Array Value} {ok:α→World→Prop} {Kp:World→World→Prop} {S:List α→Prop} {N:Nat} {w0:World} (hseq:EachOf F (n - 1) P gf lb encs ok Kp S N w0)
  (hKt:∀ {A B C:World},Kp A B→Kp B C→Kp A C) (hKb:∀ (W:World) (l:Nat) (o o':Obj),w.heap.size≤l→W.heap[l]?=some o→o.isCells=false→Kp W (W.putObj l o'))
  (hb0:Below w0.heap.size w0 w) (hps:∀ x,(encs x).size=ps.size) (hok:∀ x,AbideW w.heap.size (ok x))
  (I:List α→World→Prop) (hI:∀ xs,AbideW w.heap.size (I xs)) (h0:I [] w) (a₁:α→Act)
  (hassign:∀ (l:Nat) (x:α) (W:World) (K:Act→World→Prop),K (a₁ x) W →
   assign.wpIn (F.inRound l) (n - 1 - 1) P (Exit.then K (fun _ _ _=>False)) { tmps:=(ps.zip (encs x)).foldl (fun t (p,v)=>t.setIfInBounds p v) a.tmps,defers:=[] } W)
  (hbody:∀ (l:Nat) (pre:List α) (x:α) (W:World),ok x W→I pre W→pre.length < N→body.wpIn (F.inRound l) (n - 1 - 1) P (eachPost Kp (I (pre ++ [x])) W) (a₁ x) W)
  (hdone:∀ (D:Nat) (xs:List α) (W:World),w.heap.size≤D→S xs→I xs W→W.heap[D]?=some (.deferred (some []))→Q .normal { a with defers:={ target:=.collected D,args:=#[] } :: a.defers } W) :
  (Code.rangeFunc g ps assign body).wpIn F n P Q a w:=by
 refine wpIn_rangeFunc fun fn hfn=>?_
 rw [hro]
 obtain ⟨R,hR⟩:∃ R:LoopState→Option Code→Loop,R=fun st pe=>{ state:=st,pending:=pe,fn,tmps:=a.tmps,params:=ps,assign,body,defers:=w.heap.size }:=⟨_,rfl⟩
 obtain ⟨L,hL⟩:∃ L,L=w.heap.size + 1:=⟨_,rfl⟩
 obtain ⟨V,hV⟩:∃ V,V=(w.alloc (.deferred (some []))).alloc (.loop (R .ready none)):=⟨_,rfl⟩
 have hVL:V.heap[L]?=some (.loop (R .ready none)):=by
  have:=World.alloc_heap_new (w.alloc (.deferred (some []))) (.loop (R .ready none))
  rw [World.size_alloc] at this
  rw [hV,hL];exact this
 have hVD:V.heap[w.heap.size]?=some (.deferred (some [])):=by
  rw [hV];exact (Below.heap_alloc _ _ _ (by simp)).trans (World.alloc_heap_new w _)
 have hVs:V.heap.size=w.heap.size + 2:=by rw [hV];simp
 have hIV:I [] V:=by rw [hV];exact OwnFrom.alloc (s:=()) (hI _) _ (OwnFrom.alloc (s:=()) (hI _) _ h0)
 have hbV:Below w0.heap.size w0 V:=by
  rw [hV];exact hb0.trans ((((Below.refl _ w).alloc (Nat.le_refl _) _).alloc (by simp) _).mono hb0.size)
 refine ⟨L,[{ target:=.collected w.heap.size,args:=#[] }],V,{ target:=.fn (.func gf) lb,args:=#[.func (.yield L) #[] #[]] },V,gf,#[.func (.yield L) #[] #[]] ++ lb,V,?_,?_,?_,?_,fun _=>h1,?_⟩
 ·rw [hV,hR,hL];exact run_enterLoop_outer _ _ _ _ _
 ·simp only [resolve,hg]
  simp [go_sem]
 ·intro f' hf'
  simp [Target.leads] at hf'
  subst hf'
  exact hFg
 ·simp [invoke,go_sem,eg]
 ·
  have stay:∀ {X Y:World} {row:Option Nat} {k:Nat} {o:Obj},k < V.heap.size→X.grownBy Y row→(∀ r,row=some r→V.heap.size≤r∧∃ o:Obj,X.heap[r]?=some o∧o.isCells=false)→X.heap[k]?=some o→Y.heap[k]?=some o:=fun hk hgr hr hX =>
   (hgr.block _ (Array.getElem?_eq_some_iff.1 hX).1 (fun e=>by have:=(hr _ e.symm).1;omega)).trans hX
  refine (hseq L (fun pre W=>I pre W∧W.heap[L]?=some (.loop (R .ready none))∧W.heap[w.heap.size]?=some (.deferred (some []))) V hbV
   (fun xs s X Y row hs hgr hr=>⟨(hI xs).of (by omega) () X Y row hs.1 hgr hr,stay (by omega) hgr hr hs.2.1,stay (by omega) hgr hr hs.2.2⟩) ?_ ⟨hIV,hVL,hVD⟩).mono ?_
  ·rintro pre x W hf ⟨hi,hl,hk⟩ hlen
   have hlt:L < W.heap.size:=(Array.getElem?_eq_some_iff.1 hl).1
   have hy:=run_yield (P:=P) (args:=encs x) hl (by rw [hR];exact hps x)
   rw [hR] at hy
   refine ⟨fn,_,assign,body,hy,roundIn_of_wpIn hfn (hassign _ x W _ ⟨_,run_beginRound hl (by rw [hR]),?_⟩)⟩
   have hl2:(W.putObj L (.loop { R .ready none with state:=.busy })).heap[L]?=some (.loop { R .ready none with state:=.busy }):=World.putObj_heap_same hlt
   have hk2:(W.putObj L (.loop { R .ready none with state:=.busy })).heap[w.heap.size]?=some (.deferred (some [])):=(World.putObj_heap_other (by omega)).trans hk
   refine wpIn_mono (hbody _ pre x _ (OwnFrom.putObj (s:=()) (hok x) _ hf (by omega) hl rfl) (OwnFrom.putObj (s:=()) (hI pre) _ hi (by omega) hl rfl) hlen) ?_
   rintro e a3 W3 hp
   cases e with
   | normal =>
    obtain ⟨hk3,hkp,hi3⟩:=hp
    have hl3:=hk3.same _ _ hl2 rfl
    have he:=run_endRound (P:=P) none hl3
    refine ⟨_,_,he,rfl,⟨OwnFrom.putObj (s:=()) (hI _) _ hi3 (by omega) hl3 rfl,?_,(World.putObj_heap_other (by omega)).trans (hk3.same _ _ hk2 rfl)⟩,hKt (hKt (hKb _ _ _ _ (by omega) hl rfl) hkp) (hKb _ _ _ _ (by omega) hl3 rfl)⟩
    rw [World.putObj_heap_same (Array.getElem?_eq_some_iff.1 hl3).1,hR]
    rfl
   | ret=>exact hp.elim
   | exit id=>exact hp.elim
   | goto t=>exact hp.elim
   | panic ch=>exact hp.elim
   | outgrown=>exact hp.elim
  ·rintro e W2 ⟨⟨v,rfl⟩,xs,hS,hi,hl,hk⟩
   have he:=run_endLoop (P:=P) hl (by rw [hR];simp)
   rw [hR] at he
   exact ⟨none,_,he,hdone _ xs _ (Nat.le_refl _) hS (OwnFrom.putObj (s:=()) (hI _) _ hi (by omega) hl rfl) ((World.putObj_heap_other (by omega)).trans hk)⟩
abbrev El:=(Option Addr × Nat × Nat) × Txt
def elOk (B:Nat) (x:El) (W:World):Prop:=OwnTxt W B x.1.1 x.1.2.1 x.1.2.2 x.2∧∀ z ∈ x.2,isByte z
theorem OwnTxt.turned {W Y:World} {B:Nat} {A:Option Addr} {n c:Nat} {T:Txt} {row:Option Nat} (h:OwnTxt W B A n c T) (hg:W.grownBy Y row) (hr:∀ r,row=some r→∃ o:Obj,W.heap[r]?=some o∧o.isCells=false):OwnTxt Y B A n c T :=
 h.keep fun g _ hu=>hg.block g hu.lt fun e=>by
  obtain ⟨o,ho,hc⟩:=hr g e.symm
  obtain ⟨cs,hcs⟩:=hu
  rw [hcs] at ho
  injection ho with ho
  rw [← ho] at hc
  cases hc
theorem elOk_abide (B B':Nat) (x:El):AbideW B' (elOk B x):=fun _ X Y row hs hg hr=>⟨hs.1.turned hg fun r e=>(hr r e).2,hs.2⟩
structure NBox (W:World) (G:Nat) (D:Option Addr) (nd c:Nat) (D':Option Addr) (n' c':Nat) (a many g:Int):Prop where
 d0:W.cell? ⟨G,0,none⟩=some (.slice D nd c)
 d1:W.cell? ⟨G,1,none⟩=some (.slice D' n' c')
 a:W.cell? ⟨G + 1,0,none⟩=some (.int .i64 a)
 m:W.cell? ⟨G + 2,0,none⟩=some (.int .i64 many)
 g:W.cell? ⟨G + 3,0,none⟩=some (.int .u64 g)
def KpN (ne G:Nat) (W W':World):Prop:=Below ne W W'∧∀ p:Addr,G≤p.block→p.block < G + 4→W'.cell? p=W.cell? p
theorem KpN.trans {ne G:Nat} {A B C:World} (h:KpN ne G A B) (k:KpN ne G B C):KpN ne G A C:=⟨h.1.trans k.1,fun p h1 h2=>(k.2 p h1 h2).trans (h.2 p h1 h2)⟩
theorem KpN.of {ne G:Nat} {W W':World} {B:Nat} (h:Below B W W') (h1:ne≤B) (h2:G + 4≤B):KpN ne G W W':=⟨h.mono h1,fun p _ hp=>h.cell (by omega)⟩
theorem NBox.kept {W W':World} {ne G:Nat} {D:Option Addr} {nd c:Nat} {D':Option Addr} {n' c':Nat} {a many g:Int} (x:NBox W G D nd c D' n' c' a many g) (k:KpN ne G W W'):NBox W' G D nd c D' n' c' a many g :=
 ⟨(k.2 ⟨G,0,none⟩ (Nat.le_refl _) (by show G < _;omega)).trans x.d0,(k.2 ⟨G,1,none⟩ (Nat.le_refl _) (by show G < _;omega)).trans x.d1,(k.2 ⟨G + 1,0,none⟩ (by show G≤G + 1;omega) (by show G + 1 < _;omega)).trans x.a,
  (k.2 ⟨G + 2,0,none⟩ (by show G≤G + 2;omega) (by show G + 2 < _;omega)).trans x.m,(k.2 ⟨G + 3,0,none⟩ (by show G≤G + 3;omega) (by show G + 3 < _;omega)).trans x.g⟩
theorem range_all {f:Nat→Txt} {k:Nat} (h:∀ j,j < k→f j≠[]):(List.range k).map f=jN f k:=by
 unfold jN
 rw [jM_is (Nat.le_refl _) h (.inl rfl)]
theorem range_end {f:Nat→Txt} {k m:Nat} (hm:k≤m) (h:∀ j,j < k→f j≠[]) (h0:f k=[]):(List.range k).map f=jN f m:=by
 unfold jN
 rw [jM_is hm h (.inr h0)]
theorem assert_fn (E:Int) (w:World):(Instr.typeAssert (faultV E) 216 219 true).run Tryz.prog w=.ok (.tuple #[.agg #[.int .u64 0,.int .i64 0,.slice none 0 0],.bool false]) w:=by kernel_rfl
theorem assert_ff (E:Int) (w:World):(Instr.typeAssert (faultV E) 216 220 true).run Tryz.prog w=.ok (.tuple #[.int .i64 E,.bool true]) w:=by kernel_rfl
theorem assert_nn (g n:Int) (A:Option Addr) (k c:Nat) (w:World):(Instr.typeAssert (noteV g n A k c) 216 219 true).run Tryz.prog w=.ok (.tuple #[.agg #[.int .u64 g,.int .i64 n,.slice A k c],.bool true]) w:=by kernel_rfl
theorem opt_good {w:World} {D:Option Addr} {n c:Nat} {D':Option Addr} {n' c':Nat} {S:List Sec} {C:List Pnd} (hq:Dsk w D n c D' n' c' S C) {a:Int} {t:Txt} (ho:optAt S C a=some t):t.length=32∧∀ z ∈ t,isByte z:=by
 have h0:rdE S C a=0:=by
  unfold optAt at ho
  split at ho
  ·assumption
  ·cases ho
 have hgood:=rd_good h0 hq.secs.byte hq.pnds.byte
 have ht:rdB S C a=t:=by
  unfold optAt at ho
  rw [if_pos h0] at ho
  injection ho
 rwa [ht] at hgood
theorem note_no {w:World} {D:Option Addr} {n c:Nat} {D':Option Addr} {n' c':Nat} {S:List Sec} {C:List Pnd} (hq:Dsk w D n c D' n' c' S C) {a g:Int} {k:Nat} (hg:isG g) (hk:k≤255) (hno:noAt (optAt S C a)):noteO g k (optAt S C a)=[]:=by
 cases ho:optAt S C a with
 | none=>rfl
 | some t =>
  obtain ⟨h1,h2⟩:=opt_good hq ho
  exact (rd_note h1 h2 hg ⟨by omega,by omega⟩).2 (hno t ho)
theorem note_yes {w:World} {D:Option Addr} {n c:Nat} {D':Option Addr} {n' c':Nat} {S:List Sec} {C:List Pnd} (hq:Dsk w D n c D' n' c' S C) {a g:Int} {k:Nat} {t:Txt} (hg:isG g) (hk:k≤255) (ho:optAt S C a=some t) (hok:rdOk t) :
  noteO g k (optAt S C a)=if g=val (t.take 8)∧(k:Int)=t.getD 9 0 then rdTx t else []:=by
 obtain ⟨h1,h2⟩:=opt_good hq ho
 rw [ho]
 exact (rd_note h1 h2 hg ⟨by omega,by omega⟩).1 hok
theorem rdTx_some {t:Txt} (h:t.length=32) (hok:rdOk t):rdTx t≠[]:=fun e=>by
 have h1:=rdTx_length h
 rw [e] at h1
 have h2:=hok.1
 unfold rdM at h1
 simp only [List.length_nil] at h1
 omega
theorem notes1_each (n ne G many:Nat) (D:Option Addr) (nd c:Nat) (D':Option Addr) (n' c':Nat) (S:List Sec) (C:List Pnd) (a0:Int) (g:Int) (f:Nat→Txt) (we w:World) (hn:2≤n) (hmany:many≤100) (ha0:0≤a0∧a0≤1000) (hd:Dsk we D nd c D' n' c' S C) (hs:SmallD S C) (hg:isG g)
  (hf:∀ k:Nat,f k=noteO g k (optAt S C (a0 + k))) (hne:ne=we.heap.size) (hbe:Below ne we w) (hG1:ne≤G) (hG2:G + 4≤w.heap.size) (x:NBox w G D nd c D' n' c' a0 many g) :
  EachOf Fence.wide n Tryz.prog 126 #[.pointer (some ⟨G + 2,0,none⟩),.pointer (some ⟨G,0,none⟩),.pointer (some ⟨G + 1,0,none⟩),.pointer (some ⟨G + 3,0,none⟩)] (fun x:El=>#[.slice x.1.1 x.1.2.1 x.1.2.2]) (elOk w.heap.size) (KpN ne G) (fun xs=>xs.map (·.2)=jN f many) many w:=by
 intro l J W hW hJ hY h0
 have hWs:=hW.size
 have hX:=x.kept (KpN.of (ne:=ne) hW (by omega) hG2)
 have hBW:=hbe.trans (hW.mono (show ne≤w.heap.size by omega))
 have HY:=Lh hY
 have HJ:=Lh hJ
 have HF:=Lh hf
 have HD:=Lh hd
 have HS:=Lh hs
 have HG:=Lh hg
 have HNE:=Lh hne
 clear hY hJ hf hd hs hg hW hbe x
 refine callsIn_of_wp Tryz.func126 rfl trivial ?_ rfl
 simp only [Tryz.ntmps126,List.size_toArray,List.length_cons,List.length_nil,Nat.reduceAdd,Nat.reduceSub,Array.replicate_succ,Array.replicate_zero,List.push_toArray,List.append_toArray,List.nil_append,List.cons_append]
 have xm:=hX.m
 gi_wp2
 gi_loopw [10] (fun i wr=>∃ (k:Nat) (pre:List El),k≤many∧i=.int .i64 k∧J pre wr∧pre.map (·.2)=(List.range k).map f∧(∀ j,j < k→f j≠[])∧W.heap.size≤wr.heap.size∧Below ne we wr∧NBox wr G D nd c D' n' c' a0 many g) (fun i _=>many - (intOf i).toNat)
 case atStart=>exact ⟨0,[],Nat.zero_le _,rfl,h0,rfl,fun j h=>absurd h (Nat.not_lt_zero _),Nat.le_refl _,hBW,hX⟩
 case round =>
  obtain ⟨k,pre,hk,rfl,hJs,hpm,hall,hsz,hbw,hx⟩:=hrel
  clear hX hBW xm h0
  have PM:=Lh hpm
  have ALL:=Lh hall
  have JS:=Lh hJs
  have BW:=Lh hbw
  by_cases hkm:k < many
  ·have HX:=Lh hx
   obtain ⟨d0,d1,xa,xm,xg⟩:=hx
   obtain ⟨kk,hkk⟩:=Int.eq_ofNat_of_zero_le (show 0≤a0 + (k:Int) by omega)
   have e1:IntKind.i64.wrap (a0 + (k:Int))=a0 + (k:Int):=by rw [hkk];exact Lib.wrap_i64_small kk (by omega)
   have e2:IntKind.i64.wrap ((k:Int) + 1)=(k:Int) + 1:=by rw [show (k:Int) + 1=((k + 1:Nat):Int) by omega];exact Lib.wrap_i64_small (k + 1) (by omega)
   have hfk:=HF.out k
   have hdw:Dsk wr D nd c D' n' c' S C:=HD.out.below (by rw [← HNE.out];exact hbw)
   clear hkk
   clear hpm hall hJs hbw
   by_cases hno:noAt (optAt S C (a0 + (k:Int)))
   ·have R:=Lh (readat_no D nd c D' n' c' S C (a0 + (k:Int)) wr hdw HS.out hno)
    rw [note_no HD.out HG.out (by omega) hno] at hfk
    have FIN:=Lh (range_end (Nat.le_of_lt hkm) ALL.out hfk)
    clear hno hfk hdw
    have tfn:=assert_fn
    have tff:=assert_ff
    gi_wp2_with (refine ⟨trivial,fun _=>(by omega),?_⟩;gi_at_call 127;refine (callsIn_wide.2 R.out).mono ?_;rintro e w2 ⟨⟨E,rfl⟩,hb2⟩)
    have J2:=Lh (HJ.out pre () _ _ none JS.out (grown_of_below hb2) (by simp))
    clear hb2
    gi_wp2
    refine bodyPost_ret (results_none rfl _ _ _) rfl ?_
    exact ⟨⟨_,rfl⟩,pre,by rw [PM.out];exact FIN.out,J2.out⟩
   ·obtain ⟨t,ho,hok⟩:∃ t,optAt S C (a0 + (k:Int))=some t∧rdOk t:=Classical.byContradiction fun h=>hno fun t ht hk=>h ⟨t,ht,hk⟩
    obtain ⟨hl,hby⟩:=opt_good HD.out ho
    have R:=Lh (readat_yes D nd c D' n' c' S C (a0 + (k:Int)) t wr hdw HS.out ho hok)
    rw [note_yes HD.out HG.out (by omega) ho hok] at hfk
    have HT0:=Lh (rdTx_some hl hok)
    have HTB:=Lh (rdTx_byte hby)
    obtain ⟨gv,hgv⟩:∃ x,x=val (t.take 8):=⟨_,rfl⟩
    obtain ⟨nv,hnv⟩:∃ x,x=t.getD 9 0:=⟨_,rfl⟩
    obtain ⟨m,hm⟩:∃ m,m=rdM t:=⟨_,rfl⟩
    obtain ⟨T,hT⟩:∃ T,T=rdTx t:=⟨_,rfl⟩
    rw [← hgv,← hnv,← hm,← hT] at R
    rw [← hgv,← hnv,← hT] at hfk
    rw [← hT] at HT0 HTB
    clear hno hdw ho hok hl hby hgv hnv hm hT
    have tnn:=assert_nn
    by_cases hge:gv=g
    ·subst hge
     by_cases hne:nv=(k:Int)
     ·subst hne
      rw [if_pos ⟨rfl,rfl⟩] at hfk
      have HFK:=Lh hfk
      have hlen:pre.length=k:=by
       have:=congrArg List.length PM.out
       simpa using this
      have hlen2:pre.length < many:=by omega
      have HL:=Lh hlen2
      clear hfk hlen hlen2
      gi_wp2_with (refine ⟨trivial,fun _=>(by omega),?_⟩;gi_at_call 127;refine (callsIn_wide.2 R.out).mono ?_;rintro e w2 ⟨⟨A2,rfl,hown⟩,hb2⟩;have hs2:=hb2.size;have hX2:=HX.out.kept (KpN.of (ne:=ne) hb2 (by omega) (by omega));have hbA:=(Below.refl w2.heap.size w2).alloc (Nat.le_refl _) (.cells #[.int .u64 gv,.int .i64 (k:Int),.slice A2 m m] 219);have hX3:=hX2.kept (KpN.of (ne:=ne) hbA (by omega) (by omega));have xg3:=hX3.g;have J2:=HJ.out pre () _ _ none JS.out (grown_of_below hb2) (by simp);have J3:=Lh (HJ.out pre () _ _ none J2 (grown_of_below hbA) (by simp));obtain ⟨fn,tmps,assign,body,hy,hR⟩:=HY.out pre ((A2,m,m),T) _ ⟨(hown.below hbA).lower (by omega),HTB.out⟩ J3.out HL.out;have HR:=Lh hR;have BW2:=Lh (BW.out.trans ((hb2.mono (show ne≤wr.heap.size by omega)).trans (hbA.mono (show ne≤w2.heap.size by omega))));have HX3:=Lh hX3;have hsz3:=hbA.size;clear hR hown hX3;clear J2 d0 d1 xa xm xg hX2)
      refine ⟨fun _=>(by omega),?_⟩
      refine HR.out.mono ?_
      rintro e W3 ⟨rfl,hJ3,hk3⟩
      have J4:=Lh hJ3
      have K4:=Lh hk3
      clear hJ3 hk3
      gi_wp2
      go_roundw
      case rel =>
       have hs3:=K4.out.1.size
       refine ⟨k + 1,pre ++ [((A2,m,m),T)],by omega,by go_num,J4.out,?_,fun j hj=>?_,by omega,BW2.out.trans K4.out.1,HX3.out.kept K4.out⟩
       ·rw [List.map_append,PM.out,List.range_succ,List.map_append,List.map_cons,List.map_nil,List.map_cons,List.map_nil,HFK.out]
       ·rcases Nat.lt_or_ge j k with h | h
        ·exact ALL.out j h
        ·obtain rfl:j=k:=by omega
         rw [HFK.out]
         exact HT0.out
      case measure=>simp [intOf];omega
     ·rw [if_neg (fun h=>hne h.2.symm)] at hfk
      have hgn:¬ nv=(k:Int):=hne
      have FIN:=Lh (range_end (Nat.le_of_lt hkm) ALL.out hfk)
      clear hfk
      gi_wp2_with (refine ⟨trivial,fun _=>(by omega),?_⟩;gi_at_call 127;refine (callsIn_wide.2 R.out).mono ?_;rintro e w2 ⟨⟨A2,rfl,hown⟩,hb2⟩;have hs2:=hb2.size;have hX2:=HX.out.kept (KpN.of (ne:=ne) hb2 (by omega) (by omega));have hbA:=(Below.refl w2.heap.size w2).alloc (Nat.le_refl _) (.cells #[.int .u64 gv,.int .i64 nv,.slice A2 m m] 219);have hX3:=hX2.kept (KpN.of (ne:=ne) hbA (by omega) (by omega));have xg3:=hX3.g;have J2:=HJ.out pre () _ _ none JS.out (grown_of_below hb2) (by simp);have J3:=Lh (HJ.out pre () _ _ none J2 (grown_of_below hbA) (by simp));clear J2 d0 d1 xa xm xg hX2)
      refine ⟨fun _ h=>(by cases h),?_⟩
      gi_wp2
      refine bodyPost_ret (results_none rfl _ _ _) rfl ?_
      exact ⟨⟨_,rfl⟩,pre,by rw [PM.out];exact FIN.out,J3.out⟩
    ·rw [if_neg (fun h=>hge h.1.symm)] at hfk
     have hgn:¬ gv=g:=hge
     have FIN:=Lh (range_end (Nat.le_of_lt hkm) ALL.out hfk)
     clear hfk
     gi_wp2_with (refine ⟨trivial,fun _=>(by omega),?_⟩;gi_at_call 127;refine (callsIn_wide.2 R.out).mono ?_;rintro e w2 ⟨⟨A2,rfl,hown⟩,hb2⟩;have hs2:=hb2.size;have hX2:=HX.out.kept (KpN.of (ne:=ne) hb2 (by omega) (by omega));have hbA:=(Below.refl w2.heap.size w2).alloc (Nat.le_refl _) (.cells #[.int .u64 gv,.int .i64 nv,.slice A2 m m] 219);have hX3:=hX2.kept (KpN.of (ne:=ne) hbA (by omega) (by omega));have xg3:=hX3.g;have J2:=HJ.out pre () _ _ none JS.out (grown_of_below hb2) (by simp);have J3:=Lh (HJ.out pre () _ _ none J2 (grown_of_below hbA) (by simp));clear J2 d0 d1 xa xm xg hX2)
     refine ⟨fun _ h=>(by cases h),?_⟩
     gi_wp2
     refine bodyPost_ret (results_none rfl _ _ _) rfl ?_
     exact ⟨⟨_,rfl⟩,pre,by rw [PM.out];exact FIN.out,J3.out⟩
  ·obtain rfl:k=many:=by omega
   clear hpm hall hJs hbw hx
   gi_wp2
   go_end0
   exact ⟨⟨_,rfl⟩,pre,by rw [PM.out];exact range_all ALL.out,JS.out⟩
theorem boxes3n (w:World) (v1 v2 v3:Value) (t1 t2 t3:TypeId) :
  (((w.alloc (.cells #[v1] t1)).alloc (.cells #[v2] t2)).alloc (.cells #[v3] t3)).cell? ⟨w.heap.size,0,none⟩=some v1 ∧
  (((w.alloc (.cells #[v1] t1)).alloc (.cells #[v2] t2)).alloc (.cells #[v3] t3)).cell? ⟨w.heap.size + 1,0,none⟩=some v2 ∧
  (((w.alloc (.cells #[v1] t1)).alloc (.cells #[v2] t2)).alloc (.cells #[v3] t3)).cell? ⟨w.heap.size + 2,0,none⟩=some v3 ∧
  Below w.heap.size w (((w.alloc (.cells #[v1] t1)).alloc (.cells #[v2] t2)).alloc (.cells #[v3] t3)) ∧
  (((w.alloc (.cells #[v1] t1)).alloc (.cells #[v2] t2)).alloc (.cells #[v3] t3)).heap.size=w.heap.size + 3:=by
 have a1:=Blk.new w t1 [v1]
 have a2:=Blk.new (w.alloc (.cells #[v1] t1)) t2 [v2]
 have a3:=Blk.new ((w.alloc (.cells #[v1] t1)).alloc (.cells #[v2] t2)) t3 [v3]
 simp only [World.size_alloc] at a2 a3
 have k1:=(Below.refl (w.alloc (.cells #[v1] t1)).heap.size _).alloc (Nat.le_refl _) (.cells #[v2] t2)
 have k2:=(Below.refl ((w.alloc (.cells #[v1] t1)).alloc (.cells #[v2] t2)).heap.size _).alloc (Nat.le_refl _) (.cells #[v3] t3)
 refine ⟨((a1.below k1 a1.lt).below k2 (by simp;omega)).cell 0,(a2.below k2 (by simp)).cell 0,a3.cell 0,?_,by simp⟩
 exact (((Below.refl _ _).alloc (Nat.le_refl _) _).alloc (by simp) _).alloc (by simp;omega) _
theorem notes_any (D:Option Addr) (nd c:Nat) (D':Option Addr) (n' c':Nat) (a many g:Int) (w:World) :
  Calls Tryz.prog 82 #[diskV D nd c D' n' c',.int .i64 a,.int .i64 many,.int .u64 g] w fun e w' =>
   e=.returned (.func (.func 126) #[] #[.pointer (some ⟨w.heap.size + 2,0,none⟩),.pointer (some ⟨w.heap.size,0,none⟩),.pointer (some ⟨w.heap.size + 1,0,none⟩),.pointer (some ⟨w.heap.size + 3,0,none⟩)]) ∧
   NBox w' w.heap.size D nd c D' n' c' a many g∧Below w.heap.size w w'∧w.heap.size + 4≤w'.heap.size:=by
 have x0:=Blk.new w 25 [.slice D nd c,.slice D' n' c']
 have b0:Below w.heap.size w (w.alloc (.cells #[.slice D nd c,.slice D' n' c'] 25)):=(Below.refl _ _).alloc (Nat.le_refl _) _
 obtain ⟨w0,hw0⟩:∃ x,x=w.alloc (.cells #[.slice D nd c,.slice D' n' c'] 25):=⟨_,rfl⟩
 have hs0:w0.heap.size=w.heap.size + 1:=by rw [hw0];simp
 obtain ⟨b1,b2,b3,b4,b5⟩:=boxes3n w0 (.int .i64 a) (.int .i64 many) (.int .u64 g) 3 3 27
 rw [← hw0] at x0 b0
 have x1:=x0.below b4 (by omega)
 have d0:=x1.cell 0
 have d1:=x1.cell 1
 simp only [gcZ,gcS] at d0 d1
 rw [hs0] at b1 b2 b3 b5
 have X:=Lh (show NBox (((w0.alloc (.cells #[.int .i64 a] 3)).alloc (.cells #[.int .i64 many] 3)).alloc (.cells #[.int .u64 g] 27)) w.heap.size D nd c D' n' c' a many g from ⟨d0,d1,b1,b2,b3⟩)
 have B:=Lh (b0.trans (b4.mono (by omega)))
 have HS:=Lh b5
 clear b1 b2 b3 b4 b5 x0 x1 d0 d1 b0 hs0
 subst hw0
 go_enter Tryz.func82,Tryz.ntmps82
 go_wp2
 go_ret
 exact ⟨rfl,X.out,B.out,by rw [HS.out];omega⟩
end Go.Proofs.YtifgcfepbenpjaaGreat
namespace Go.Proofs.YtifgcfepbenpjaaGreat
open Go.RowKit Go.Shelf
attribute [local go_sem] Oper.semAt_some
theorem OwnTxs.kept {W Y:World} {B:Nat} {A:Option Addr} {n c:Nat} {L:List Txt} {row:Option Nat} (h:OwnTxs W B A n c L) (hg:W.grownBy Y row) (hr:∀ r,row=some r→r < B∨∃ o:Obj,W.heap[r]?=some o∧o.isCells=false):OwnTxs Y B A n c L:=by
 obtain ⟨vs,hown,hl,hby,hin⟩:=h
 refine ⟨vs,hown.kept hg ?_,hl,hby,fun i hi=>?_⟩
 ·rcases hown.2 with ⟨e,h0⟩ | ⟨g,cap,cur,e,hb,hgb,_⟩
  ·exact .inl (by rw [e];rfl)
  ·refine .inr fun e'=>?_
   rw [e] at e'
   rcases hr g (by simpa [Value.ownBlock] using e'.symm) with h | ⟨o,ho,hc⟩
   ·omega
   ·rw [hgb] at ho;cases ho;cases hc
 ·obtain ⟨Ai,ni,ci,h1,h2⟩:=hin i hi
  refine ⟨Ai,ni,ci,h1,h2.keep fun g hb hu=>hg.block g hu.lt fun e=>?_⟩
  rcases hr g e.symm with h | ⟨o,ho,hc⟩
  ·omega
  ·obtain ⟨cs,hcs⟩:=hu
   rw [hcs] at ho;cases ho;cases hc
def TxBox (Bb B0:Nat) (pre:List El) (W:World):Prop:=∃ A c,Boxed W Bb 103 (.slice A pre.length c)∧OwnTxs W B0 A pre.length c (pre.map (·.2))
theorem TxBox.abide (Bb B0 B:Nat) (pre:List El):AbideW B (TxBox Bb B0 pre):=by
 rintro _ X Y row ⟨A,c,hv,ht⟩ hg hr
 refine ⟨A,c,hv.kept hg (fun e=>?_),ht.kept hg fun r e=>.inr (hr r e).2⟩
 obtain ⟨_,o,ho,hc⟩:=hr Bb e.symm
 rw [show X.heap[Bb]?=_ from hv] at ho;cases ho;cases hc
theorem jscan_in (P T:Int) (A:Nat) (M W Q:Int) (D:Option Addr) (nd c:Nat) (D':Option Addr) (n' c':Nat) (S:List Sec) (C:List Pnd) (a g:Int) (w:World) (hq:Dsk w D nd c D' n' c' S C) (hs:SmallD S C) (hg:isG g) (h0:jaE P T A M W Q S C a=0) :
  CallsIn Fence.wide 5 Tryz.prog 41 #[cfgV P T A M W Q,diskV D nd c D' n' c',.int .i64 a,.int .u64 g] w (ScanOut w (jN (jf S C A a g) A) 0):=by
 obtain ⟨x,hbel⟩:=TBox.new P T A M W Q hq
 obtain ⟨w0,hw0⟩:∃ x:World,x=(w.alloc (.cells #[.int .i64 P,.int .i64 T,.int .i64 A,.int .i64 M,.int .i64 W,.int .i64 Q] 36)).alloc (.cells #[.slice D nd c,.slice D' n' c'] 25):=⟨_,rfl⟩
 rw [← hw0] at x hbel
 have FO:=Lh (firstof_any P T A M W Q D nd c D' n' c' S C a w0 x.dsk.dsk hs)
 rw [h0,show jaN P T A M W Q S C a=2 + a * A from if_pos h0] at FO
 have hm:=jae_may h0
 have hA32:A≤32:=by have:=hm.1.1;unfold mayC at this;omega
 have hA1:1≤A:=by have:=hm.1.1;unfold mayC at this;omega
 obtain ⟨hf0,hf1,_⟩:=first_wrap (j:=0) h0 (Int.le_refl _) (by omega)
 have HF:=Lh (show ∀ k:Nat,jf S C A a g k=noteO g k (optAt S C (2 + a * A + k)) from fun k=>rfl)
 obtain ⟨f,hf⟩:∃ f,f=jf S C A a g:=⟨_,rfl⟩
 rw [← hf] at HF ⊢
 obtain ⟨F,hF⟩:∃ F,F=2 + a * A:=⟨_,rfl⟩
 rw [← hF] at FO HF hf0 hf1
 obtain ⟨c0,c1,c2,c3,c4,c5,d0,d1⟩:=x.cells
 have X:=Lh x
 have B:=Lh hbel
 have HQ:=Lh hq
 have HS:=Lh hs
 have HG:=Lh hg
 obtain ⟨i0,hi,hz0,hz1,hz2⟩:=info_parts txts_info
 have hml:(100:Nat)≤maxLen:=by decide
 clear x hbel hq hs hg h0 hm hf hF
 refine callsIn_of_wp_marks Tryz.func41 rfl trivial ?_ rfl
 simp only [Tryz.ntmps41,List.size_toArray,List.length_cons,List.length_nil,Nat.reduceAdd,Nat.reduceSub,Array.replicate_succ,Array.replicate_zero,List.push_toArray,List.append_toArray,List.nil_append,List.cons_append]
 gi_wp2_with fail
 refine ⟨trivial,?_⟩
 rw [← hw0]
 clear hw0
 refine (callsIn_wide.2 FO.out).mono ?_
 rintro e w1 ⟨rfl,hb⟩
 have B1:=B.out.trans (hb.mono B.out.size)
 have X1:=X.out.below hb
 have hbA:Below w1.heap.size w1 (w1.alloc (.cells #[.slice none 0 0] 103)):=(Below.refl _ _).alloc (Nat.le_refl _) _
 have bO:=Boxed.new w1 103 (.slice none 0 0)
 have X2:=X1.below hbA
 have B2:=Lh (B1.trans (hbA.mono B1.size))
 have hs1:=B1.size
 clear c0 c1 c2 c3 c4 c5 d0 d1 hb X1 B1 B X FO
 obtain ⟨c0,c1,c2,c3,c4,c5,d0,d1⟩:=X2.cells
 obtain ⟨v1,hv1⟩:∃ x:World,x=w1.alloc (.cells #[.slice none 0 0] 103):=⟨_,rfl⟩
 have hv1s:v1.heap.size=w1.heap.size + 1:=by rw [hv1];simp
 have NT:=Lh (notes_any D nd c D' n' c' F A g v1)
 rw [← hv1] at bO B2
 have HV:=Lh hv1s
 gi_wp2_with fail
 refine ⟨trivial,?_⟩
 rw [← hv1]
 clear hv1 hbA X2 c0 c1 c2 c3 c4 c5 d0 d1 hv1s
 refine (callsIn_wide.2 NT.out).mono ?_
 rintro e W1 ⟨rfl,hx,hb,hsz⟩
 rw [HV.out] at hx hsz ⊢
 have hB1:=B2.out.trans (hb.mono B2.out.size)
 have bO1:=bO.kept (grown_of_below hb) (by simp)
 clear hb bO
 gi_wp2_with fail
 refine wpIn_rangeFunc_each rfl (by omega) (gf:=126) (lb:=#[.pointer (some ⟨w1.heap.size + 1 + 2,0,none⟩),.pointer (some ⟨w1.heap.size + 1,0,none⟩),.pointer (some ⟨w1.heap.size + 1 + 1,0,none⟩),.pointer (some ⟨w1.heap.size + 1 + 3,0,none⟩)]) rfl trivial (enters_of Tryz.func126 (by kernel_rfl) rfl)
  (notes1_each 4 w.heap.size (w1.heap.size + 1) A D nd c D' n' c' S C F g f w W1 (by omega) (by omega) ⟨by omega,by omega⟩ HQ.out HS.out HG.out HF.out rfl hB1 (by omega) (by omega) hx)
  (fun h k=>h.trans k) (fun W l o o' hl ho hc=>?kb) (Below.refl _ _) (fun _=>rfl) (fun x=>elOk_abide _ _ x)
  (fun pre W=>TxBox w1.heap.size W1.heap.size pre W∧(Below w.heap.size w W∧W1.heap.size≤W.heap.size))
  (fun pre=>OwnFrom.and (TxBox.abide _ _ _ pre) (OwnFrom.and (ownFrom_below (Nat.le_refl _) (by omega)) (fun s W W' row hs hg hr=>Nat.le_trans hs hg.size)))
  ⟨⟨none,0,bO1,OwnTxs.nil _ _⟩,hB1,Nat.le_refl _⟩
  (fun x=>{ tmps:=#[cfgV P T (A:Int) M W Q,diskV D nd c D' n' c',.int .i64 a,.int .u64 g,.pointer (some ⟨w.heap.size,0,none⟩),.pointer (some ⟨w.heap.size + 1,0,none⟩),undef,undef,.slice none 0 0,.int .i64 0,.int .i64 F,.int .i64 0,.pointer (some ⟨w1.heap.size,0,none⟩),.slice x.1.1 x.1.2.1 x.1.2.2,.tuple #[.int .i64 F,.int .i64 0],cfgV P T (A:Int) M W Q,diskV D nd c D' n' c',.int .i64 a,.tuple #[.int .i64 F,.int .i64 0],.int .i64 F,.int .i64 0,.int .i64 0,.bool false,undef,diskV D nd c D' n' c',.int .i64 F,.pointer (some ⟨w.heap.size,2,none⟩),.int .i64 (A:Int),.int .u64 g,.func (.func 126) #[] #[.pointer (some ⟨w1.heap.size + 1 + 2,0,none⟩),.pointer (some ⟨w1.heap.size + 1,0,none⟩),.pointer (some ⟨w1.heap.size + 1 + 1,0,none⟩),.pointer (some ⟨w1.heap.size + 1 + 3,0,none⟩)],.slice x.1.1 x.1.2.1 x.1.2.2,undef,undef,undef,undef,undef],defers:=[] }) ?assign ?body ?done
 case kb =>
  have hlt:=(Array.getElem?_eq_some_iff.1 ho).1
  exact ⟨(Below.refl w.heap.size W).grown (grownBy_putObj' W l o') (by omega) (fun k e=>by cases e;omega),fun p h1 h2=>World.cell?_of_block (World.putObj_heap_other (by omega))⟩
 case assign =>
  intro l x W K hK
  gi_wp2
  exact hK
 case body =>
  rintro l pre x W hok ⟨⟨A1,c1,hv,htx⟩,hB,hz⟩ hlt
  have hB:=Lh hB
  obtain ⟨vs,hown,hl,hby,hin⟩:=htx
  have hp32:pre.length < 32:=by omega
  have hc:=hv.cell
  have hbt:=(Below.refl W.heap.size W).alloc (Nat.le_refl _) (.cells #[.slice x.1.1 x.1.2.1 x.1.2.2] 42)
  gi_wp2_with (gi_at_builtin;refine wpListIn_append_own _ rfl _ _ 103 rfl W1.heap.size 42 i0 (.slice none 0 0) 1 24 Tryz.underlying103 hi hz0 hz1 hz2 rfl (by decide) _ _ _ rfl (hown.alloc _) ⟨W.heap.size,0,none⟩ 1 1 [.slice x.1.1 x.1.2.1 x.1.2.2] rfl rfl (cell_one_new _ _ _) (by simp [Value.oneCell']) (by omega) (by omega) (by simp;omega) ?_;intro v' w2 hown' hgrow _;obtain ⟨g',cap',rfl⟩:=ownsRow_succ hown';obtain ⟨hv1,hv2,hr2,hk2,hb2⟩:=hv.appended (by decide) (owns_base hown (show w1.heap.size≤_ by omega)) (by omega) (Nat.le_refl _) (owns_base hown' (by omega)) hgrow;have hc1:=hv1.cell;have hf1:=hv1.frozen;have hgr:=Lh hgrow;have hnw:=Lh hown';clear hgrow)
  have hsn:=OwnTxs.snoc (hown.alloc _) hl hby (fun i hi=>by
   obtain ⟨Aj,nj,cj,e,hj⟩:=hin i hi
   exact ⟨Aj,nj,cj,e,hj.allocated _⟩) hok.2 (hok.1.allocated _) hgr.out hnw.out
  have hfin:=hsn.kept (grownBy_set w2 w1.heap.size 0 (Value.slice (some ⟨g',0,none⟩) (pre.length + 1) cap')) (fun r e=>.inl (by injection e with e;omega))
  have hgs:=hgr.out.size
  rw [World.size_alloc] at hgs
  have hkp:KpN w.heap.size (w1.heap.size + 1) W (w2.setCell ⟨w1.heap.size,0,none⟩ (Value.slice (some ⟨g',0,none⟩) (pre.length + 1) cap')):=by
   refine ⟨hb2.mono hs1,fun p h1 h2=>World.cell?_of_block ?_⟩
   rw [Below.heap_setCell w2 ⟨w1.heap.size,0,none⟩ _ p.block (by dsimp only;omega),hgr.out.block p.block (by rw [World.size_alloc];omega) (fun e=>by have:=(hown.lt _ e.symm).1;omega)]
   exact Below.heap_alloc _ _ _ (by omega)
  refine ⟨hk2,hkp,⟨some ⟨g',0,none⟩,cap',?_,?_⟩,hB.out.trans (hb2.mono hs1),?_⟩
  ·rw [List.length_append,List.length_singleton]
   exact hv2
  ·rw [List.length_append,List.length_singleton,List.map_append,List.map_cons,List.map_nil]
   exact hfin
  ·show W1.heap.size≤(w2.setCell _ _).heap.size
   rw [World.size_setCell]
   omega
 case done =>
  rintro D2 xs W hD hS ⟨⟨A1,c1,hv,htx⟩,hB,hz⟩ hK
  have hc:=hv.cell
  have hfin:=Lh (hB.trans (belowK_b (w:=w) (Nat.le_refl _) W D2 _ (.deferred none) (by omega) hK rfl rfl))
  have hrow:=Lh ((htx.kept (grownBy_putObj' W D2 (.deferred none)) (fun r e=>.inr (by cases e;exact ⟨_,hK,rfl⟩))).lower (show w.heap.size≤_ by omega))
  have hK2:=Lh hK
  have hL:xs.length=(jN f A).length:=by rw [← hS,List.length_map]
  rw [hS] at hrow
  rw [hL] at hrow hc
  clear hB
  gi_wp2
  refine ⟨by simp,.inl ⟨_,_,rfl,run_takeDeferred hK2.out,?_⟩⟩
  exact ⟨_,results_tmp2 rfl _ _ _,_,_,rfl,hrow.out,hfin.out⟩
theorem jscan_any (P T A M W Q:Int) (D:Option Addr) (n c:Nat) (D':Option Addr) (n' c':Nat) (S:List Sec) (C:List Pnd) (a g:Int) (w:World) (hq:Dsk w D n c D' n' c' S C) (hs:SmallD S C) (hg:isG g) :
  Calls Tryz.prog 41 #[cfgV P T A M W Q,diskV D n c D' n' c',.int .i64 a,.int .u64 g] w (ScanOut w (jsL P T A M W Q S C a g) (jaE P T A M W Q S C a)):=by
 by_cases h0:jaE P T A M W Q S C a=0
 ·have hm:=jae_may h0
  obtain ⟨An,rfl⟩:=Int.eq_ofNat_of_zero_le (show 0≤A by have:=hm.1.1;unfold mayC at this;omega)
  have hL:jsL P T An M W Q S C a g=jN (jf S C An a g) An:=by unfold jsL;rw [if_pos h0,Int.toNat_natCast]
  rw [hL,h0]
  exact callsIn_wide.1 (jscan_in P T An M W Q D n c D' n' c' S C a g w hq hs hg h0)
 ·have hL:jsL P T A M W Q S C a g=[]:=if_neg h0
  rw [hL]
  obtain ⟨x,hbel⟩:=TBox.new P T A M W Q hq
  obtain ⟨w0,hw0⟩:∃ x:World,x=(w.alloc (.cells #[.int .i64 P,.int .i64 T,.int .i64 A,.int .i64 M,.int .i64 W,.int .i64 Q] 36)).alloc (.cells #[.slice D n c,.slice D' n' c'] 25):=⟨_,rfl⟩
  rw [← hw0] at x hbel
  have FO:=Lh (firstof_any P T A M W Q D n c D' n' c' S C a w0 x.dsk.dsk hs)
  rw [show jaN P T A M W Q S C a=0 from if_neg h0] at FO
  obtain ⟨E,hEE⟩:∃ E,E=jaE P T A M W Q S C a:=⟨_,rfl⟩
  rw [← hEE] at FO h0 ⊢
  have hne:(E != 0)=true:=by rw [bne_iff_ne];exact h0
  obtain ⟨c0,c1,c2,c3,c4,c5,d0,d1⟩:=x.cells
  have B:=Lh hbel
  clear x hbel hq hs hg h0 hEE hL
  go_enter Tryz.func41,Tryz.ntmps41
  go_wp2_with fail
  rw [← hw0]
  clear hw0
  refine FO.out.mono ?_
  rintro e w1 ⟨rfl,hb⟩
  have B1:=Lh (B.out.trans (hb.mono B.out.size))
  clear hb
  go_wp2
  go_ret2
  exact ⟨none,0,rfl,OwnTxs.nil _ _,B1.out⟩
end Go.Proofs.YtifgcfepbenpjaaGreat
namespace Go.Proofs.YtifgcfepbenpjaaGreat
open Go.RowKit Go.Maps
def recD (r:Rc):DataW Unit:=.agg [.lit (.int .i64 r.p),.lit (.int .u32 r.b),.lit (.int .u32 r.e),.lit (.int .i64 r.l),.lit (.int .u8 r.h),.lit (.int .i64 r.f),.lit (.bool r.q),.lit (.bool r.a)]
theorem recD_inj {r s:Rc} (h:recD r=recD s):r=s:=by
 unfold recD at h
 simp only [DataW.agg.injEq,List.cons.injEq,DataW.lit.injEq,Lit.int.injEq,Lit.bool.injEq,true_and,and_true] at h
 rw [Rc.eq_iff]
 exact h
theorem recV_inj {r s:Rc} (h:recV r=recV s):r=s:=by
 simp only [Value.agg.injEq,Array.mk.injEq,List.cons.injEq,Value.int.injEq,Value.bool.injEq,true_and,and_true] at h
 rw [Rc.eq_iff]
 exact h
open Classical in
noncomputable def recElem (v:Value):Option (DataW Unit × List MemPlace):=if h:∃ r,v=recV r∧isR r then some (recD h.choose,[]) else none
theorem recElem_rec {r:Rc} (hr:isR r):recElem (recV r)=some (recD r,[]):=by
 have h:∃ s,recV r=recV s∧isR s:=⟨r,rfl,hr⟩
 unfold recElem
 rw [dif_pos h]
 have e:=recV_inj h.choose_spec.1
 rw [← e]
theorem recElem_inv {v:Value} {y:DataW Unit × List MemPlace} (h:recElem v=some y):∃ r,v=recV r∧isR r∧y=(recD r,[]):=by
 unfold recElem at h
 split at h
 ·rename_i k
  injection h with h
  exact ⟨k.choose,k.choose_spec.1,k.choose_spec.2,h.symm⟩
 ·cases h
theorem key11:Keyed Tryz.prog 3:=int_keyed Tryz.underlying3
def TabD (D:DataW Unit) (t:List Rc):Prop:=(∀ p:Int,has D (.int .i64 p)=(fR t p).isSome)∧∀ p r,fR t p=some r→∀ zd,D.atKey (.int .i64 p) zd=recD r
def TabAt (w:World) (B n:Nat) (t:List Rc):Prop:=∃ D,w.ownsMap Tryz.prog 3 recElem B n D∧TabD D t
section
variable {w w':World} {B n:Nat} {t t':List Rc} {D:DataW Unit}
theorem TabAt.made (w:World):TabAt (w.alloc (.map #[] 0)) w.heap.size 0 []:=⟨_,World.ownsMap_made w _ _ _,fun p=>rfl,fun p r h=>by cases h⟩
theorem TabAt.lt (h:TabAt w B n t):B < w.heap.size:=by
 obtain ⟨D,h,_⟩:=h
 exact h.lt
theorem TabAt.kept (h:TabAt w B n t) {row:Option Nat} (hg:w.grownBy w' row) (hne:some B≠row):TabAt w' B n t:=by
 obtain ⟨D,h,k⟩:=h
 exact ⟨D,h.kept hg hne,k⟩
theorem below_grown11 (h:Below w.heap.size w w') (row:Option Nat):w.grownBy w' row:=⟨h.os,h.tape,h.output,h.size,fun k hk _=>h.block k hk⟩
theorem TabAt.below (h:TabAt w B n t) (hb:Below w.heap.size w w'):TabAt w' B n t:=h.kept (below_grown11 hb none) (by simp)
theorem TabAt.isMap (h:TabAt w B n t):∃ es c,w.heap[B]?=some (.map es c):=by
 obtain ⟨D,⟨es,c,hb,_⟩,_⟩:=h
 exact ⟨es,c,hb⟩
theorem TabAt.cell (h:TabAt w B n t) (hg:w.grownBy w' (some B)) {p:Addr} {v:Value} (hc:w.cell? p=some v):w'.cell? p=some v:=by
 obtain ⟨es,c,hb⟩:=h.isMap
 have hne:p.block≠B:=fun e=>by
  unfold World.cell? at hc
  rw [e,hb] at hc
  cases hc
 have hlt:p.block < w.heap.size:=by
  rcases Nat.lt_or_ge p.block w.heap.size with k | k
  ·exact k
  ·unfold World.cell? at hc
   rw [Array.getElem?_eq_none k] at hc
   cases hc
 rw [World.cell?_of_block (hg.block p.block hlt (fun e=>hne (by injection e)))]
 exact hc
theorem Seq.turned {A:Option Addr} {xs:List Value} (h:TabAt w B n t) (hg:w.grownBy w' (some B)) (hs:Seq w w.heap.size A xs):Seq w' w'.heap.size A xs:=fun j v hv=>by
 obtain ⟨b,o,e,hlt,hc⟩:=hs j v hv
 exact ⟨b,o,e,Nat.lt_of_lt_of_le hlt hg.size,h.cell hg hc⟩
theorem Arg.turned {k:IntKind} {A:Option Addr} {m c:Nat} {zs:List Int} (h:TabAt w B n t) (hg:w.grownBy w' (some B)) (ha:Arg w k A m c zs):Arg w' k A m c zs:=⟨Seq.turned h hg ha.seq,ha.len,ha.cap,ha.max⟩
theorem Texts.turned {A:Option Addr} {m c:Nat} {l:List Txt} (h:TabAt w B n t) (hg:w.grownBy w' (some B)) (hl:Texts w A m c l):Texts w' A m c l :=
 ⟨hl.len,hl.cap,hl.max,hl.byte,fun i hi=>by
  obtain ⟨b,o,Ai,ni,ci,e,hlt,hc,ha⟩:=hl.at_ i hi
  exact ⟨b,o,Ai,ni,ci,e,Nat.lt_of_lt_of_le hlt hg.size,h.cell hg hc,Arg.turned h hg ha⟩⟩
theorem key_ne {p q:Int} (h:p≠q):(Lit.int .i64 p)≠.int .i64 q:=fun e=>h (by injection e)
theorem TabD.put (hD:IsMap D) (h:TabD D t) {r:Rc} (ht:∀ p,fR t' p=if p=r.p then some r else fR t p):TabD (D.put (.int .i64 r.p) (recD r)) t':=by
 refine ⟨fun p=>?_,fun p s hs zd=>?_⟩
 ·rw [ht]
  by_cases hp:p=r.p
  ·subst hp
   rw [if_pos rfl]
   exact has_put_same hD (show WideAt.IsKeyLit (.int .i64 r.p) from trivial) _
  ·rw [if_neg hp,has_put_other (key_ne hp)]
   exact h.1 p
 ·rw [ht] at hs
  by_cases hp:p=r.p
  ·subst hp
   rw [if_pos rfl] at hs
   injection hs with hs
   subst hs
   exact atKey_put_same hD (show WideAt.IsKeyLit (.int .i64 r.p) from trivial) _ _
  ·rw [if_neg hp] at hs
   rw [atKey_put_other (key_ne hp)]
   exact h.2 p s hs zd
theorem TabD.del (h:TabD D t) {q:Int} (ht:∀ p,fR t' p=if p=q then none else fR t p):TabD (D.del (.int .i64 q)) t':=by
 refine ⟨fun p=>?_,fun p s hs zd=>?_⟩
 ·rw [ht]
  by_cases hp:p=q
  ·subst hp
   rw [if_pos rfl]
   exact has_del_same
  ·rw [if_neg hp,has_del_other (key_ne hp)]
   exact h.1 p
 ·rw [ht] at hs
  by_cases hp:p=q
  ·rw [if_pos hp] at hs
   cases hs
  ·rw [if_neg hp] at hs
   rw [atKey_del_other (key_ne hp)]
   exact h.2 p s hs zd
end
section
variable (w:World) {ops:Array Oper} {rest:List Oper} {o:Oper} {a:Act} {Q:Exit→Act→World→Prop}
theorem wpList_tab_put (hg:o.guard=none) (m x v:Operand) (hop:o.op=.mapUpdate 143 m x v) (B n:Nat) (t t':List Rc) (hm:a.eval m=.map (some B)) (h:TabAt w B n t) (hn:n < maxLen) (r:Rc) (hr:isR r) (hp:(Lit.int .i64 r.p).wf=true)
  (hx:a.eval x=.int .i64 r.p) (hv:a.eval v=recV r) (ht:∀ p,fR t' p=if p=r.p then some r else fR t p) (hK:∀ w',TabAt w' B (n + 1) t'→w.grownBy w' (some B)→wpList Tryz.prog ops Q rest (a.put o.dst undef) w'):wpList Tryz.prog ops Q (o :: rest) a w:=by
 obtain ⟨D,hown,hD⟩:=h
 exact wpList_mapUpdate_own w hg m x v 143 hop 3 64 key11 Tryz.underlying143 recElem B n D hm hown hn _ _ (.int .i64 r.p) hx hv (keyOf_int_mk Tryz.underlying3 hp) (recD r) [] (recElem_rec hr) fun w' h1 h2=>hK w' ⟨_,h1,hD.put hown.isMap ht⟩ h2
theorem wpList_tab_del (hg:o.guard=none) (m x:Operand) (hop:o.op=Op.call { callee:=Callee.builtin Builtin.delete,args:=#[m,x],argTypes:=#[143,3] }) (B n:Nat) (t t':List Rc) (hm:a.eval m=.map (some B)) (h:TabAt w B n t) (q:Int) (hp:(Lit.int .i64 q).wf=true)
  (hx:a.eval x=.int .i64 q) (ht:∀ p,fR t' p=if p=q then none else fR t p) (hK:∀ w',TabAt w' B n t'→w.grownBy w' (some B)→wpList Tryz.prog ops Q rest (a.put o.dst (.tuple #[])) w'):wpList Tryz.prog ops Q (o :: rest) a w:=by
 obtain ⟨D,hown,hD⟩:=h
 exact wpList_delete_own w hg m x 143 3 hop 64 key11 Tryz.underlying143 recElem B n D hm hown _ (.int .i64 q) hx (keyOf_int_mk Tryz.underlying3 hp) fun w' h1 h2=>hK w' ⟨_,h1,hD.del ht⟩ h2.grown
end
def Coll (t:List Rc) (left:Lit→Bool) (M:List Rc):Prop:=(∀ r ∈ M,r ∈ t)∧(M.Pairwise fun r s=>r.p≠s.p)∧∀ r ∈ t,(r ∈ M↔left (.int .i64 r.p)=false)
theorem fR_mem {t:List Rc} (ht:t.Pairwise fun r s=>r.p≠s.p) {r:Rc} (hr:r ∈ t):fR t r.p=some r:=by
 induction t with
 | nil=>cases hr
 | cons s t ih =>
  obtain ⟨h1,h2⟩:=List.pairwise_cons.1 ht
  unfold fR
  rcases List.mem_cons.1 hr with rfl | hr
  ·simp
  ·have:=h1 r hr
   rw [List.find?_cons_of_neg (by simpa using this)]
   exact ih h2 hr
theorem mayTab_ne {t:List Rc} (h:mayTab t):t.Pairwise fun r s=>r.p≠s.p:=((mayTab_iff t).1 h).2.imp fun h=>by omega
theorem Coll.start {D:DataW Unit} {t:List Rc} (ht:t.Pairwise fun r s=>r.p≠s.p) (h:TabD D t):Coll t (has D) [] :=
 ⟨(fun r hr=>by cases hr),List.Pairwise.nil,fun r hr=>by rw [h.1,fR_mem ht hr];simp⟩
theorem Coll.step {t:List Rc} {left:Lit→Bool} {M:List Rc} (ht:t.Pairwise fun r s=>r.p≠s.p) (h:Coll t left M) {c:Rc} (hc:c ∈ t) (hl:left (.int .i64 c.p)=true):Coll t (fun z=>left z && !z.sameKey (.int .i64 c.p)) (M ++ [c]):=by
 obtain ⟨h1,h2,h3⟩:=h
 refine ⟨fun r hr=>?_,?_,fun r hr=>?_⟩
 ·rcases List.mem_append.1 hr with hr | hr
  ·exact h1 r hr
  ·rw [List.mem_singleton.1 hr];exact hc
 ·refine List.pairwise_append.2 ⟨h2,List.pairwise_singleton _ _,fun r hr s hs=>?_⟩
  rw [List.mem_singleton.1 hs]
  intro e
  have:=(h3 r (h1 r hr)).1 hr
  rw [e,hl] at this
  cases this
 ·by_cases e:r.p=c.p
  ·have hrc:r=c:=by
    have a:=fR_mem ht hr
    have b:=fR_mem ht hc
    rw [e,b] at a
    injection a with a
    exact a.symm
   subst hrc
   simp [Lit.sameKey]
  ·have hne:r≠c:=fun k=>e (by rw [k])
   rw [List.mem_append,h3 r hr]
   simp [Lit.sameKey,e,hne]
theorem Coll.done {t:List Rc} {left:Lit→Bool} {M:List Rc} (h:Coll t left M) (hl:∀ kl,left kl=false) (r:Rc):r ∈ M↔r ∈ t:=⟨h.1 r,fun hr=>(h.2.2 r hr).2 (hl _)⟩
theorem three_of {M:List Rc} (h:M.Pairwise fun r s=>r.p≠s.p) (hp:∀ r ∈ M,0≤r.p∧r.p < 3):M.length≤3:=by
 match M with
 | [] | [_] | [_,_] | [_,_,_]=>simp
 | a :: b :: c :: d :: l =>
  exfalso
  have ha:=hp a (by simp)
  have hb:=hp b (by simp)
  have hc:=hp c (by simp)
  have hd:=hp d (by simp)
  simp only [List.pairwise_cons,List.mem_cons] at h
  obtain ⟨h1,h2,h3,_⟩:=h
  have:=h1 b (.inl rfl)
  have:=h1 c (.inr (.inl rfl))
  have:=h1 d (.inr (.inr (.inl rfl)))
  have:=h2 c (.inl rfl)
  have:=h2 d (.inr (.inl rfl))
  have:=h3 d (.inl rfl)
  omega
def swpR (L:List Rc) (j:Nat):List Rc:=(L.set (j + 1) (L.getD j zR)).set j (L.getD (j + 1) zR)
def insR:Nat→List Rc→List Rc
 | 0,L=>L
 | j + 1,L=>if (L.getD (j + 1) zR).p < (L.getD j zR).p then insR j (swpR L j) else L
def isoR (L:List Rc):Nat→List Rc
 | 0=>L
 | i + 1=>insR i (isoR L i)
theorem swpR_length (L:List Rc) (j:Nat):(swpR L j).length=L.length:=by simp [swpR]
theorem insR_length:∀ (j:Nat) (L:List Rc),(insR j L).length=L.length
 | 0,_=>rfl
 | j + 1,L=>by
  unfold insR
  split
  ·rw [insR_length j,swpR_length]
  ·rfl
theorem isoR_length (L:List Rc) (i:Nat):(isoR L i).length=L.length:=by
 induction i with
 | zero=>rfl
 | succ i ih=>rw [isoR,insR_length,ih]
theorem iso_sorted {L:List Rc} (hl:L.length≤3) (hd:L.Pairwise fun r s=>r.p≠s.p):((isoR L L.length).Pairwise fun r s=>r.p < s.p)∧∀ r,r ∈ isoR L L.length↔r ∈ L:=by
 match L,hl with
 | [],_=>exact ⟨List.Pairwise.nil,fun r=>Iff.rfl⟩
 | [a],_=>exact ⟨List.pairwise_singleton _ _,fun r=>Iff.rfl⟩
 | [a,b],_ =>
  have hab:a.p≠b.p:=by simpa using hd
  show ((insR 1 (insR 0 [a,b])).Pairwise _)∧∀ r,r ∈ insR 1 (insR 0 [a,b])↔_
  by_cases h:b.p < a.p
  ·have e:insR 1 (insR 0 [a,b])=[b,a]:=if_pos h
   rw [e]
   exact ⟨by simpa using h,fun r=>by simp [or_comm]⟩
  ·have e:insR 1 (insR 0 [a,b])=[a,b]:=if_neg h
   rw [e]
   exact ⟨by simp;omega,fun r=>Iff.rfl⟩
 | [a,b,c],_ =>
  simp only [List.pairwise_cons,List.mem_cons,List.not_mem_nil,or_false,forall_eq_or_imp,forall_eq] at hd
  obtain ⟨⟨hab,hac⟩,hbc,_⟩:=hd
  show ((insR 2 (insR 1 (insR 0 [a,b,c]))).Pairwise _)∧∀ r,r ∈ insR 2 (insR 1 (insR 0 [a,b,c]))↔_
  have key:∀ x y:Rc,x.p < y.p→c.p≠x.p→c.p≠y.p→((insR 2 [x,y,c]).Pairwise fun r s=>r.p < s.p)∧∀ r,r ∈ insR 2 [x,y,c]↔r=x∨r=y∨r=c:=by
   intro x y hxy hx hy
   by_cases h1:c.p < y.p
   ·have e:insR 2 [x,y,c]=insR 1 [x,c,y]:=if_pos h1
    rw [e]
    by_cases h2:c.p < x.p
    ·have e2:insR 1 [x,c,y]=[c,x,y]:=if_pos h2
     rw [e2]
     refine ⟨by simp;omega,fun r=>?_⟩
     simp only [List.mem_cons,List.not_mem_nil,or_false]
     constructor
     ·rintro (h | h | h) <;> simp [h]
     ·rintro (h | h | h) <;> simp [h]
    ·have e2:insR 1 [x,c,y]=[x,c,y]:=if_neg h2
     rw [e2]
     refine ⟨by simp;omega,fun r=>?_⟩
     simp only [List.mem_cons,List.not_mem_nil,or_false]
     constructor
     ·rintro (h | h | h) <;> simp [h]
     ·rintro (h | h | h) <;> simp [h]
   ·have e:insR 2 [x,y,c]=[x,y,c]:=if_neg h1
    rw [e]
    refine ⟨by simp;omega,fun r=>?_⟩
    simp only [List.mem_cons,List.not_mem_nil,or_false]
  by_cases h:b.p < a.p
  ·have e:insR 1 (insR 0 [a,b,c])=[b,a,c]:=if_pos h
   rw [e]
   obtain ⟨k1,k2⟩:=key b a h (fun k=>hbc k.symm) (fun k=>hac k.symm)
   refine ⟨k1,fun r=>(k2 r).trans ?_⟩
   simp only [List.mem_cons,List.not_mem_nil,or_false]
   constructor
   ·rintro (h | h | h) <;> simp [h]
   ·rintro (h | h | h) <;> simp [h]
  ·have e:insR 1 (insR 0 [a,b,c])=[a,b,c]:=if_neg h
   rw [e]
   obtain ⟨k1,k2⟩:=key a b (by omega) (fun k=>hac k.symm) (fun k=>hbc k.symm)
   refine ⟨k1,fun r=>(k2 r).trans ?_⟩
   simp only [List.mem_cons,List.not_mem_nil,or_false]
theorem iso_tab {t M:List Rc} (ht:mayTab t) (hM:M.Pairwise fun r s=>r.p≠s.p) (hm:∀ r,r ∈ M↔r ∈ t):isoR M M.length=t:=by
 have h:=(mayTab_iff t).1 ht
 have hl:=three_of hM fun r hr=>⟨(h.1 r ((hm r).1 hr)).1.1,(h.1 r ((hm r).1 hr)).1.2.1⟩
 obtain ⟨s1,s2⟩:=iso_sorted hl hM
 have s3:=s1.imp (S:=fun r s:Rc=>r.p≠s.p) fun h=>by omega
 refine tab_ext s1 h.2 fun p=>?_
 have hmem:∀ r,r ∈ isoR M M.length↔r ∈ t:=fun r=>(s2 r).trans (hm r)
 cases e:fR t p with
 | none =>
  refine List.find?_eq_none.2 fun r hr k=>?_
  have hp:r.p=p:=by simpa using k
  have:=fR_mem (mayTab_ne ht) ((hmem r).1 hr)
  rw [hp,e] at this
  cases this
 | some r =>
  obtain ⟨h1,h2⟩:=fR_some e
  rw [← h2]
  exact fR_mem s3 ((hmem r).2 h1)
end Go.Proofs.YtifgcfepbenpjaaGreat
namespace Go.Proofs.YtifgcfepbenpjaaGreat
open Go.RowKit
def cmpI (a b:Int):Int:=if a < b then -1 else if b < a then 1 else 0
theorem cmpI_neg (a b:Int):decide (cmpI a b < 0)=decide (a < b):=by
 unfold cmpI
 by_cases h:a < b
 ·simp [h]
 ·by_cases k:b < a <;> simp [h,k]
theorem pnan_any (n:Int) (w:World):Calls Tryz.prog 178 #[.int .i64 n] w fun e w'=>e=.returned (.bool false)∧w'=w:=by
 have hb:(n != n)=false:=by simp
 go_enter Tryz.func178,Tryz.ntmps178
 go_wp2
 go_ret
 exact ⟨rfl,rfl⟩
theorem pcompare_any (a b:Int) (w:World):Calls Tryz.prog 153 #[.int .i64 a,.int .i64 b] w fun e w'=>e=.returned (.int .i64 (cmpI a b))∧w'=w:=by
 have N:=Lh (fun n wx=>pnan_any n wx)
 by_cases h:a < b
 ·rw [show cmpI a b=-1 from if_pos h]
  go_enter Tryz.func153,Tryz.ntmps153
  go_wp2_with fail
  refine (N.out _ _).mono ?_
  rintro e w1 ⟨rfl,rfl⟩
  go_wp2_with fail
  refine (N.out _ _).mono ?_
  rintro e w2 ⟨rfl,rfl⟩
  go_wp2
  go_ret
  exact ⟨rfl,rfl⟩
 ·by_cases k:b < a
  ·rw [show cmpI a b=1 from (if_neg h).trans (if_pos k)]
   go_enter Tryz.func153,Tryz.ntmps153
   go_wp2_with fail
   refine (N.out _ _).mono ?_
   rintro e w1 ⟨rfl,rfl⟩
   go_wp2_with fail
   refine (N.out _ _).mono ?_
   rintro e w2 ⟨rfl,rfl⟩
   go_wp2
   go_ret
   exact ⟨rfl,rfl⟩
  ·rw [show cmpI a b=0 from (if_neg h).trans (if_neg k)]
   go_enter Tryz.func153,Tryz.ntmps153
   go_wp2_with fail
   refine (N.out _ _).mono ?_
   rintro e w1 ⟨rfl,rfl⟩
   go_wp2_with fail
   refine (N.out _ _).mono ?_
   rintro e w2 ⟨rfl,rfl⟩
   go_wp2
   go_ret
   exact ⟨rfl,rfl⟩
theorem pclos_any (r s:Rc) (w:World):Calls Tryz.prog 152 #[recV r,recV s] w fun e w'=>e=.returned (.int .i64 (cmpI r.p s.p))∧Below w.heap.size w w':=by
 obtain ⟨x,hbx⟩:=rec_box w r
 obtain ⟨y,hby⟩:=rec_box (w.alloc (.cells (recL r).toArray 64)) s
 have x2:=x.below hby x.lt
 have B:=Lh (hbx.trans (hby.mono hbx.size))
 have C:=Lh (fun wx=>pcompare_any r.p s.p wx)
 obtain ⟨c0,c1,c2,c3,c4,c5,c6,c7⟩:=x2.rec
 obtain ⟨d0,d1,d2,d3,d4,d5,d6,d7⟩:=y.rec
 clear x y hbx hby x2 c1 c2 c3 c4 c5 c6 c7 d1 d2 d3 d4 d5 d6 d7
 go_enter Tryz.func152,Tryz.ntmps152
 go_wp2_with fail
 refine (C.out _).mono ?_
 rintro e w1 ⟨rfl,rfl⟩
 go_wp2
 go_ret
 exact ⟨rfl,B.out⟩
theorem plen64_0 (w:World):Calls Tryz.prog 201 #[.int .u64 0] w fun e w'=>(∃ k,e=.returned (.int .i64 k))∧w'=w:=by
 go_enter Tryz.func201,Tryz.ntmps201
 go_wp2
 go_ret
 exact ⟨⟨_,rfl⟩,rfl⟩
theorem plen64_1 (w:World):Calls Tryz.prog 201 #[.int .u64 1] w fun e w'=>(∃ k,e=.returned (.int .i64 k))∧w'=w:=by
 go_enter Tryz.func201,Tryz.ntmps201
 go_wp2
 go_ret
 exact ⟨⟨_,rfl⟩,rfl⟩
theorem plen64_2 (w:World):Calls Tryz.prog 201 #[.int .u64 2] w fun e w'=>(∃ k,e=.returned (.int .i64 k))∧w'=w:=by
 go_enter Tryz.func201,Tryz.ntmps201
 go_wp2
 go_ret
 exact ⟨⟨_,rfl⟩,rfl⟩
theorem plen64_3 (w:World):Calls Tryz.prog 201 #[.int .u64 3] w fun e w'=>(∃ k,e=.returned (.int .i64 k))∧w'=w:=by
 go_enter Tryz.func201,Tryz.ntmps201
 go_wp2
 go_ret
 exact ⟨⟨_,rfl⟩,rfl⟩
end Go.Proofs.YtifgcfepbenpjaaGreat
