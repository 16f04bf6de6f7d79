/- Texts of layers 1 to 12, joined. -/
import Derived.Test.YtifgcfepbenpjaaGreatOa43
import Derived.Lib.SmallJoins
set_option maxRecDepth 100000
set_option maxHeartbeats 12800000
set_option linter.unusedVariables false
namespace Go.Proofs.YtifgcfepbenpjaaGreat
open Go.RowKit Go.Shelf
attribute [local go_sem] Oper.semAt_some
def EachOf {α : Type} (F : Fence) (n : Nat) (P : Program) (g : Nat) (lb : Array Value) (encs : α → Array Value) (ok : α → World → Prop) (Kp : World → World → Prop) (S : List α → Prop) (N : Nat) (w : World) : Prop :=
 ∀ (l : Nat) (J : List α → World → Prop) (W : World), Below w.heap.size w W → (∀ xs, AbideW W.heap.size (J xs)) →
  (∀ pre x W1, ok x W1 → J pre W1 → pre.length < N → YieldAt F (n - 1) P l (encs x) W1 fun e W' => e = .returned (.bool true) ∧ J (pre ++ [x]) W' ∧ Kp W1 W') → J [] W →
  CallsIn F n P g (#[.func (.yield l) #[] #[]] ++ lb) W fun e W' => (∃ v, e = .returned v) ∧ ∃ xs, S xs ∧ J xs W'
def eachPost (Kp : World → World → Prop) (I : World → Prop) (W : World) : Exit → Act → World → Prop
 | .normal, _, W' => KeepsOthers W W' ∧ Kp W W' ∧ I W'
 | _, _, _ => False
theorem wpIn_rangeFunc_each {α : Type} {F : Fence} {n : Nat} {P : Program} {g : Operand} {ps : Array Tmp} {assign body : Code} {Q : Exit → Act → World → Prop} {a : Act} {w : World}
  (hro : F.round = none) (h1 : 1 ≤ n) {gf : Nat} {lb : Array Value} (hg : a.eval g = .func (.func gf) #[] lb) (hFg : F.fn gf) (eg : ∀ args w, (callFunc gf args).run P w = .ok (.enter gf args) w)
  {encs : α → Array Value} {ok : α → World → Prop} {Kp : World → World → Prop} {S : List α → Prop} {N : Nat} {w0 : World} (hseq : EachOf F (n - 1) P gf lb encs ok Kp S N w0)
  (hKt : ∀ {A B C : World}, Kp A B → Kp B C → Kp A C) (hKb : ∀ (W : World) (l : Nat) (o o' : Obj), w.heap.size ≤ l → W.heap[l]? = some o → o.isCells = false → Kp W (W.putObj l o'))
  (hb0 : Below w0.heap.size w0 w) (hps : ∀ x, (encs x).size = ps.size) (hok : ∀ x, AbideW w.heap.size (ok x))
  (I : List α → World → Prop) (hI : ∀ xs, AbideW w.heap.size (I xs)) (h0 : I [] w) (a₁ : α → Act)
  (hassign : ∀ (l : Nat) (x : α) (W : World) (K : Act → World → Prop), K (a₁ x) W →
   assign.wpIn (F.inRound l) (n - 1 - 1) P (Exit.then K (fun _ _ _ => False)) { tmps := (ps.zip (encs x)).foldl (fun t (p, v) => t.setIfInBounds p v) a.tmps, defers := [] } W)
  (hbody : ∀ (l : Nat) (pre : List α) (x : α) (W : World), ok x W → I pre W → pre.length < N → body.wpIn (F.inRound l) (n - 1 - 1) P (eachPost Kp (I (pre ++ [x])) W) (a₁ x) W)
  (hdone : ∀ (D : Nat) (xs : List α) (W : World), w.heap.size ≤ D → S xs → I xs W → W.heap[D]? = some (.deferred (some [])) → Q .normal { a with defers := { target := .collected D, args := #[] } :: a.defers } W) :
  (Code.rangeFunc g ps assign body).wpIn F n P Q a w := by
 refine wpIn_rangeFunc fun fn hfn => ?_
 rw [hro]
 obtain ⟨R, hR⟩ : ∃ R : LoopState → Option Code → Loop, R = fun st pe => { state := st, pending := pe, fn, tmps := a.tmps, params := ps, assign, body, defers := w.heap.size } := ⟨_, rfl⟩
 obtain ⟨L, hL⟩ : ∃ L, L = w.heap.size + 1 := ⟨_, rfl⟩
 obtain ⟨V, hV⟩ : ∃ V, V = (w.alloc (.deferred (some []))).alloc (.loop (R .ready none)) := ⟨_, rfl⟩
 have hVL : V.heap[L]? = some (.loop (R .ready none)) := by
  have := World.alloc_heap_new (w.alloc (.deferred (some []))) (.loop (R .ready none))
  rw [World.size_alloc] at this
  rw [hV, hL]; exact this
 have hVD : V.heap[w.heap.size]? = some (.deferred (some [])) := by
  rw [hV]; exact (Below.heap_alloc _ _ _ (by simp)).trans (World.alloc_heap_new w _)
 have hVs : V.heap.size = w.heap.size + 2 := by rw [hV]; simp
 have hIV : I [] V := by rw [hV]; exact OwnFrom.alloc (s := ()) (hI _) _ (OwnFrom.alloc (s := ()) (hI _) _ h0)
 have hbV : Below w0.heap.size w0 V := by
  rw [hV]; exact hb0.trans ((((Below.refl _ w).alloc (Nat.le_refl _) _).alloc (by simp) _).mono hb0.size)
 refine ⟨L, [{ target := .collected w.heap.size, args := #[] }], V, { target := .fn (.func gf) lb, args := #[.func (.yield L) #[] #[]] }, V, gf, #[.func (.yield L) #[] #[]] ++ lb, V, ?_, ?_, ?_, ?_, fun _ => h1, ?_⟩
 ·rw [hV, hR, hL]; exact run_enterLoop_outer _ _ _ _ _
 ·simp only [resolve, hg]
  simp [go_sem]
 ·intro f' hf'
  simp [Target.leads] at hf'
  subst hf'
  exact hFg
 ·simp [invoke, go_sem, eg]
 ·
  have stay : ∀ {X Y : World} {row : Option Nat} {k : Nat} {o : Obj}, k < V.heap.size → X.grownBy Y row → (∀ r, row = some r → V.heap.size ≤ r ∧ ∃ o : Obj, X.heap[r]? = some o ∧ o.isCells = false) → X.heap[k]? = some o → Y.heap[k]? = some o := fun hk hgr hr hX =>
   (hgr.block _ (Array.getElem?_eq_some_iff.1 hX).1 (fun e => by have := (hr _ e.symm).1; omega)).trans hX
  refine (hseq L (fun pre W => I pre W ∧ W.heap[L]? = some (.loop (R .ready none)) ∧ W.heap[w.heap.size]? = some (.deferred (some []))) V hbV
   (fun xs s X Y row hs hgr hr => ⟨(hI xs).of (by omega) () X Y row hs.1 hgr hr, stay (by omega) hgr hr hs.2.1, stay (by omega) hgr hr hs.2.2⟩) ?_ ⟨hIV, hVL, hVD⟩).mono ?_
  ·rintro pre x W hf ⟨hi, hl, hk⟩ hlen
   have hlt : L < W.heap.size := (Array.getElem?_eq_some_iff.1 hl).1
   have hy := run_yield (P := P) (args := encs x) hl (by rw [hR]; exact hps x)
   rw [hR] at hy
   refine ⟨fn, _, assign, body, hy, roundIn_of_wpIn hfn (hassign _ x W _ ⟨_, run_beginRound hl (by rw [hR]), ?_⟩)⟩
   have hl2 : (W.putObj L (.loop { R .ready none with state := .busy })).heap[L]? = some (.loop { R .ready none with state := .busy }) := World.putObj_heap_same hlt
   have hk2 : (W.putObj L (.loop { R .ready none with state := .busy })).heap[w.heap.size]? = some (.deferred (some [])) := (World.putObj_heap_other (by omega)).trans hk
   refine wpIn_mono (hbody _ pre x _ (OwnFrom.putObj (s := ()) (hok x) _ hf (by omega) hl rfl) (OwnFrom.putObj (s := ()) (hI pre) _ hi (by omega) hl rfl) hlen) ?_
   rintro e a3 W3 hp
   cases e with
   | normal =>
    obtain ⟨hk3, hkp, hi3⟩ := hp
    have hl3 := hk3.same _ _ hl2 rfl
    have he := run_endRound (P := P) none hl3
    refine ⟨_, _, he, rfl, ⟨OwnFrom.putObj (s := ()) (hI _) _ hi3 (by omega) hl3 rfl, ?_, (World.putObj_heap_other (by omega)).trans (hk3.same _ _ hk2 rfl)⟩, hKt (hKt (hKb _ _ _ _ (by omega) hl rfl) hkp) (hKb _ _ _ _ (by omega) hl3 rfl)⟩
    rw [World.putObj_heap_same (Array.getElem?_eq_some_iff.1 hl3).1, hR]
    rfl
   | ret => exact hp.elim
   | exit id => exact hp.elim
   | goto t => exact hp.elim
   | panic ch => exact hp.elim
   | outgrown => exact hp.elim
  ·rintro e W2 ⟨⟨v, rfl⟩, xs, hS, hi, hl, hk⟩
   have he := run_endLoop (P := P) hl (by rw [hR]; simp)
   rw [hR] at he
   exact ⟨none, _, he, hdone _ xs _ (Nat.le_refl _) hS (OwnFrom.putObj (s := ()) (hI _) _ hi (by omega) hl rfl) ((World.putObj_heap_other (by omega)).trans hk)⟩
abbrev El := (Option Addr × Nat × Nat) × Txt
def elOk (B : Nat) (x : El) (W : World) : Prop := OwnTxt W B x.1.1 x.1.2.1 x.1.2.2 x.2 ∧ ∀ z ∈ x.2, isByte z
theorem OwnTxt.turned {W Y : World} {B : Nat} {A : Option Addr} {n c : Nat} {T : Txt} {row : Option Nat} (h : OwnTxt W B A n c T) (hg : W.grownBy Y row) (hr : ∀ r, row = some r → ∃ o : Obj, W.heap[r]? = some o ∧ o.isCells = false) : OwnTxt Y B A n c T :=
 h.keep fun g _ hu => hg.block g hu.lt fun e => by
  obtain ⟨o, ho, hc⟩ := hr g e.symm
  obtain ⟨cs, hcs⟩ := hu
  rw [hcs] at ho
  injection ho with ho
  rw [← ho] at hc
  cases hc
theorem elOk_abide (B B' : Nat) (x : El) : AbideW B' (elOk B x) := fun _ X Y row hs hg hr => ⟨hs.1.turned hg fun r e => (hr r e).2, hs.2⟩
structure NBox (W : World) (G : Nat) (D : Option Addr) (nd c : Nat) (D' : Option Addr) (n' c' : Nat) (a many g : Int) : Prop where
 d0 : W.cell? ⟨G, 0, none⟩ = some (.slice D nd c)
 d1 : W.cell? ⟨G, 1, none⟩ = some (.slice D' n' c')
 a : W.cell? ⟨G + 1, 0, none⟩ = some (.int .i64 a)
 m : W.cell? ⟨G + 2, 0, none⟩ = some (.int .i64 many)
 g : W.cell? ⟨G + 3, 0, none⟩ = some (.int .u64 g)
def KpN (ne G : Nat) (W W' : World) : Prop := Below ne W W' ∧ ∀ p : Addr, G ≤ p.block → p.block < G + 4 → W'.cell? p = W.cell? p
theorem KpN.trans {ne G : Nat} {A B C : World} (h : KpN ne G A B) (k : KpN ne G B C) : KpN ne G A C := ⟨h.1.trans k.1, fun p h1 h2 => (k.2 p h1 h2).trans (h.2 p h1 h2)⟩
theorem KpN.of {ne G : Nat} {W W' : World} {B : Nat} (h : Below B W W') (h1 : ne ≤ B) (h2 : G + 4 ≤ B) : KpN ne G W W' := ⟨h.mono h1, fun p _ hp => h.cell (by omega)⟩
theorem NBox.kept {W W' : World} {ne G : Nat} {D : Option Addr} {nd c : Nat} {D' : Option Addr} {n' c' : Nat} {a many g : Int} (x : NBox W G D nd c D' n' c' a many g) (k : KpN ne G W W') : NBox W' G D nd c D' n' c' a many g :=
 ⟨(k.2 ⟨G, 0, none⟩ (Nat.le_refl _) (by show G < _; omega)).trans x.d0, (k.2 ⟨G, 1, none⟩ (Nat.le_refl _) (by show G < _; omega)).trans x.d1, (k.2 ⟨G + 1, 0, none⟩ (by show G ≤ G + 1; omega) (by show G + 1 < _; omega)).trans x.a,
  (k.2 ⟨G + 2, 0, none⟩ (by show G ≤ G + 2; omega) (by show G + 2 < _; omega)).trans x.m, (k.2 ⟨G + 3, 0, none⟩ (by show G ≤ G + 3; omega) (by show G + 3 < _; omega)).trans x.g⟩
theorem range_all {f : Nat → Txt} {k : Nat} (h : ∀ j, j < k → f j ≠ []) : (List.range k).map f = jN f k := by
 unfold jN
 rw [jM_is (Nat.le_refl _) h (.inl rfl)]
theorem range_end {f : Nat → Txt} {k m : Nat} (hm : k ≤ m) (h : ∀ j, j < k → f j ≠ []) (h0 : f k = []) : (List.range k).map f = jN f m := by
 unfold jN
 rw [jM_is hm h (.inr h0)]
theorem assert_fn (E : Int) (w : World) : (Instr.typeAssert (faultV E) 216 219 true).run Tryz.prog w = .ok (.tuple #[.agg #[.int .u64 0, .int .i64 0, .slice none 0 0], .bool false]) w := by kernel_rfl
theorem assert_ff (E : Int) (w : World) : (Instr.typeAssert (faultV E) 216 220 true).run Tryz.prog w = .ok (.tuple #[.int .i64 E, .bool true]) w := by kernel_rfl
theorem assert_nn (g n : Int) (A : Option Addr) (k c : Nat) (w : World) : (Instr.typeAssert (noteV g n A k c) 216 219 true).run Tryz.prog w = .ok (.tuple #[.agg #[.int .u64 g, .int .i64 n, .slice A k c], .bool true]) w := by kernel_rfl
theorem opt_good {w : World} {D : Option Addr} {n c : Nat} {D' : Option Addr} {n' c' : Nat} {S : List Sec} {C : List Pnd} (hq : Dsk w D n c D' n' c' S C) {a : Int} {t : Txt} (ho : optAt S C a = some t) : t.length = 32 ∧ ∀ z ∈ t, isByte z := by
 have h0 : rdE S C a = 0 := by
  unfold optAt at ho
  split at ho
  ·assumption
  ·cases ho
 have hgood := rd_good h0 hq.secs.byte hq.pnds.byte
 have ht : rdB S C a = t := by
  unfold optAt at ho
  rw [if_pos h0] at ho
  injection ho
 rwa [ht] at hgood
theorem note_no {w : World} {D : Option Addr} {n c : Nat} {D' : Option Addr} {n' c' : Nat} {S : List Sec} {C : List Pnd} (hq : Dsk w D n c D' n' c' S C) {a g : Int} {k : Nat} (hg : isG g) (hk : k ≤ 255) (hno : noAt (optAt S C a)) : noteO g k (optAt S C a) = [] := by
 cases ho : optAt S C a with
 | none => rfl
 | some t =>
  obtain ⟨h1, h2⟩ := opt_good hq ho
  exact (rd_note h1 h2 hg ⟨by omega, by omega⟩).2 (hno t ho)
theorem note_yes {w : World} {D : Option Addr} {n c : Nat} {D' : Option Addr} {n' c' : Nat} {S : List Sec} {C : List Pnd} (hq : Dsk w D n c D' n' c' S C) {a g : Int} {k : Nat} {t : Txt} (hg : isG g) (hk : k ≤ 255) (ho : optAt S C a = some t) (hok : rdOk t) :
  noteO g k (optAt S C a) = if g = val (t.take 8) ∧ (k : Int) = t.getD 9 0 then rdTx t else [] := by
 obtain ⟨h1, h2⟩ := opt_good hq ho
 rw [ho]
 exact (rd_note h1 h2 hg ⟨by omega, by omega⟩).1 hok
theorem rdTx_some {t : Txt} (h : t.length = 32) (hok : rdOk t) : rdTx t ≠ [] := fun e => by
 have h1 := rdTx_length h
 rw [e] at h1
 have h2 := hok.1
 unfold rdM at h1
 simp only [List.length_nil] at h1
 omega
theorem notes1_each (n ne G many : Nat) (D : Option Addr) (nd c : Nat) (D' : Option Addr) (n' c' : Nat) (S : List Sec) (C : List Pnd) (a0 : Int) (g : Int) (f : Nat → Txt) (we w : World) (hn : 2 ≤ n) (hmany : many ≤ 100) (ha0 : 0 ≤ a0 ∧ a0 ≤ 1000) (hd : Dsk we D nd c D' n' c' S C) (hs : SmallD S C) (hg : isG g)
  (hf : ∀ k : Nat, f k = noteO g k (optAt S C (a0 + k))) (hne : ne = we.heap.size) (hbe : Below ne we w) (hG1 : ne ≤ G) (hG2 : G + 4 ≤ w.heap.size) (x : NBox w G D nd c D' n' c' a0 many g) :
  EachOf Fence.wide n Tryz.prog 126 #[.pointer (some ⟨G + 2, 0, none⟩), .pointer (some ⟨G, 0, none⟩), .pointer (some ⟨G + 1, 0, none⟩), .pointer (some ⟨G + 3, 0, none⟩)] (fun x : El => #[.slice x.1.1 x.1.2.1 x.1.2.2]) (elOk w.heap.size) (KpN ne G) (fun xs => xs.map (·.2) = jN f many) many w := by
 intro l J W hW hJ hY h0
 have hWs := hW.size
 have hX := x.kept (KpN.of (ne := ne) hW (by omega) hG2)
 have hBW := hbe.trans (hW.mono (show ne ≤ w.heap.size by omega))
 have HY := Lh hY
 have HJ := Lh hJ
 have HF := Lh hf
 have HD := Lh hd
 have HS := Lh hs
 have HG := Lh hg
 have HNE := Lh hne
 clear hY hJ hf hd hs hg hW hbe x
 refine callsIn_of_wp Tryz.func126 rfl trivial ?_ rfl
 simp only [Tryz.ntmps126, List.size_toArray, List.length_cons, List.length_nil, Nat.reduceAdd, Nat.reduceSub, Array.replicate_succ, Array.replicate_zero, List.push_toArray, List.append_toArray, List.nil_append, List.cons_append]
 have xm := hX.m
 gi_wp2
 gi_loopw [10] (fun i wr => ∃ (k : Nat) (pre : List El), k ≤ many ∧ i = .int .i64 k ∧ J pre wr ∧ pre.map (·.2) = (List.range k).map f ∧ (∀ j, j < k → f j ≠ []) ∧ W.heap.size ≤ wr.heap.size ∧ Below ne we wr ∧ NBox wr G D nd c D' n' c' a0 many g) (fun i _ => many - (intOf i).toNat)
 case atStart => exact ⟨0, [], Nat.zero_le _, rfl, h0, rfl, fun j h => absurd h (Nat.not_lt_zero _), Nat.le_refl _, hBW, hX⟩
 case round =>
  obtain ⟨k, pre, hk, rfl, hJs, hpm, hall, hsz, hbw, hx⟩ := hrel
  clear hX hBW xm h0
  have PM := Lh hpm
  have ALL := Lh hall
  have JS := Lh hJs
  have BW := Lh hbw
  by_cases hkm : k < many
  ·have HX := Lh hx
   obtain ⟨d0, d1, xa, xm, xg⟩ := hx
   obtain ⟨kk, hkk⟩ := Int.eq_ofNat_of_zero_le (show 0 ≤ a0 + (k : Int) by omega)
   have e1 : IntKind.i64.wrap (a0 + (k : Int)) = a0 + (k : Int) := by rw [hkk]; exact Lib.wrap_i64_small kk (by omega)
   have e2 : IntKind.i64.wrap ((k : Int) + 1) = (k : Int) + 1 := by rw [show (k : Int) + 1 = ((k + 1 : Nat) : Int) by omega]; exact Lib.wrap_i64_small (k + 1) (by omega)
   have hfk := HF.out k
   have hdw : Dsk wr D nd c D' n' c' S C := HD.out.below (by rw [← HNE.out]; exact hbw)
   clear hkk
   clear hpm hall hJs hbw
   by_cases hno : noAt (optAt S C (a0 + (k : Int)))
   ·have R := Lh (readat_no D nd c D' n' c' S C (a0 + (k : Int)) wr hdw HS.out hno)
    rw [note_no HD.out HG.out (by omega) hno] at hfk
    have FIN := Lh (range_end (Nat.le_of_lt hkm) ALL.out hfk)
    clear hno hfk hdw
    have tfn := assert_fn
    have tff := assert_ff
    gi_wp2_with (refine ⟨trivial, fun _ => (by omega), ?_⟩; gi_at_call 127; refine (callsIn_wide.2 R.out).mono ?_; rintro e w2 ⟨⟨E, rfl⟩, hb2⟩)
    have J2 := Lh (HJ.out pre () _ _ none JS.out (grown_of_below hb2) (by simp))
    clear hb2
    gi_wp2
    refine bodyPost_ret (results_none rfl _ _ _) rfl ?_
    exact ⟨⟨_, rfl⟩, pre, by rw [PM.out]; exact FIN.out, J2.out⟩
   ·obtain ⟨t, ho, hok⟩ : ∃ t, optAt S C (a0 + (k : Int)) = some t ∧ rdOk t := Classical.byContradiction fun h => hno fun t ht hk => h ⟨t, ht, hk⟩
    obtain ⟨hl, hby⟩ := opt_good HD.out ho
    have R := Lh (readat_yes D nd c D' n' c' S C (a0 + (k : Int)) t wr hdw HS.out ho hok)
    rw [note_yes HD.out HG.out (by omega) ho hok] at hfk
    have HT0 := Lh (rdTx_some hl hok)
    have HTB := Lh (rdTx_byte hby)
    obtain ⟨gv, hgv⟩ : ∃ x, x = val (t.take 8) := ⟨_, rfl⟩
    obtain ⟨nv, hnv⟩ : ∃ x, x = t.getD 9 0 := ⟨_, rfl⟩
    obtain ⟨m, hm⟩ : ∃ m, m = rdM t := ⟨_, rfl⟩
    obtain ⟨T, hT⟩ : ∃ T, T = rdTx t := ⟨_, rfl⟩
    rw [← hgv, ← hnv, ← hm, ← hT] at R
    rw [← hgv, ← hnv, ← hT] at hfk
    rw [← hT] at HT0 HTB
    clear hno hdw ho hok hl hby hgv hnv hm hT
    have tnn := assert_nn
    by_cases hge : gv = g
    ·subst hge
     by_cases hne : nv = (k : Int)
     ·subst hne
      rw [if_pos ⟨rfl, rfl⟩] at hfk
      have HFK := Lh hfk
      have hlen : pre.length = k := by
       have := congrArg List.length PM.out
       simpa using this
      have hlen2 : pre.length < many := by omega
      have HL := Lh hlen2
      clear hfk hlen hlen2
      gi_wp2_with (refine ⟨trivial, fun _ => (by omega), ?_⟩; gi_at_call 127; refine (callsIn_wide.2 R.out).mono ?_; rintro e w2 ⟨⟨A2, rfl, hown⟩, hb2⟩; have hs2 := hb2.size; have hX2 := HX.out.kept (KpN.of (ne := ne) hb2 (by omega) (by omega)); have hbA := (Below.refl w2.heap.size w2).alloc (Nat.le_refl _) (.cells #[.int .u64 gv, .int .i64 (k : Int), .slice A2 m m] 219); have hX3 := hX2.kept (KpN.of (ne := ne) hbA (by omega) (by omega)); have xg3 := hX3.g; have J2 := HJ.out pre () _ _ none JS.out (grown_of_below hb2) (by simp); have J3 := Lh (HJ.out pre () _ _ none J2 (grown_of_below hbA) (by simp)); obtain ⟨fn, tmps, assign, body, hy, hR⟩ := HY.out pre ((A2, m, m), T) _ ⟨(hown.below hbA).lower (by omega), HTB.out⟩ J3.out HL.out; have HR := Lh hR; have BW2 := Lh (BW.out.trans ((hb2.mono (show ne ≤ wr.heap.size by omega)).trans (hbA.mono (show ne ≤ w2.heap.size by omega)))); have HX3 := Lh hX3; have hsz3 := hbA.size; clear hR hown hX3; clear J2 d0 d1 xa xm xg hX2)
      refine ⟨fun _ => (by omega), ?_⟩
      refine HR.out.mono ?_
      rintro e W3 ⟨rfl, hJ3, hk3⟩
      have J4 := Lh hJ3
      have K4 := Lh hk3
      clear hJ3 hk3
      gi_wp2
      go_roundw
      case rel =>
       have hs3 := K4.out.1.size
       refine ⟨k + 1, pre ++ [((A2, m, m), T)], by omega, by go_num, J4.out, ?_, fun j hj => ?_, by omega, BW2.out.trans K4.out.1, HX3.out.kept K4.out⟩
       ·rw [List.map_append, PM.out, List.range_succ, List.map_append, List.map_cons, List.map_nil, List.map_cons, List.map_nil, HFK.out]
       ·rcases Nat.lt_or_ge j k with h | h
        ·exact ALL.out j h
        ·obtain rfl : j = k := by omega
         rw [HFK.out]
         exact HT0.out
      case measure => simp [intOf]; omega
     ·rw [if_neg (fun h => hne h.2.symm)] at hfk
      have hgn : ¬ nv = (k : Int) := hne
      have FIN := Lh (range_end (Nat.le_of_lt hkm) ALL.out hfk)
      clear hfk
      gi_wp2_with (refine ⟨trivial, fun _ => (by omega), ?_⟩; gi_at_call 127; refine (callsIn_wide.2 R.out).mono ?_; rintro e w2 ⟨⟨A2, rfl, hown⟩, hb2⟩; have hs2 := hb2.size; have hX2 := HX.out.kept (KpN.of (ne := ne) hb2 (by omega) (by omega)); have hbA := (Below.refl w2.heap.size w2).alloc (Nat.le_refl _) (.cells #[.int .u64 gv, .int .i64 nv, .slice A2 m m] 219); have hX3 := hX2.kept (KpN.of (ne := ne) hbA (by omega) (by omega)); have xg3 := hX3.g; have J2 := HJ.out pre () _ _ none JS.out (grown_of_below hb2) (by simp); have J3 := Lh (HJ.out pre () _ _ none J2 (grown_of_below hbA) (by simp)); clear J2 d0 d1 xa xm xg hX2)
      refine ⟨fun _ h => (by cases h), ?_⟩
      gi_wp2
      refine bodyPost_ret (results_none rfl _ _ _) rfl ?_
      exact ⟨⟨_, rfl⟩, pre, by rw [PM.out]; exact FIN.out, J3.out⟩
    ·rw [if_neg (fun h => hge h.1.symm)] at hfk
     have hgn : ¬ gv = g := hge
     have FIN := Lh (range_end (Nat.le_of_lt hkm) ALL.out hfk)
     clear hfk
     gi_wp2_with (refine ⟨trivial, fun _ => (by omega), ?_⟩; gi_at_call 127; refine (callsIn_wide.2 R.out).mono ?_; rintro e w2 ⟨⟨A2, rfl, hown⟩, hb2⟩; have hs2 := hb2.size; have hX2 := HX.out.kept (KpN.of (ne := ne) hb2 (by omega) (by omega)); have hbA := (Below.refl w2.heap.size w2).alloc (Nat.le_refl _) (.cells #[.int .u64 gv, .int .i64 nv, .slice A2 m m] 219); have hX3 := hX2.kept (KpN.of (ne := ne) hbA (by omega) (by omega)); have xg3 := hX3.g; have J2 := HJ.out pre () _ _ none JS.out (grown_of_below hb2) (by simp); have J3 := Lh (HJ.out pre () _ _ none J2 (grown_of_below hbA) (by simp)); clear J2 d0 d1 xa xm xg hX2)
     refine ⟨fun _ h => (by cases h), ?_⟩
     gi_wp2
     refine bodyPost_ret (results_none rfl _ _ _) rfl ?_
     exact ⟨⟨_, rfl⟩, pre, by rw [PM.out]; exact FIN.out, J3.out⟩
  ·obtain rfl : k = many := by omega
   clear hpm hall hJs hbw hx
   gi_wp2
   go_end0
   exact ⟨⟨_, rfl⟩, pre, by rw [PM.out]; exact range_all ALL.out, JS.out⟩
theorem boxes3n (w : World) (v1 v2 v3 : Value) (t1 t2 t3 : TypeId) :
  (((w.alloc (.cells #[v1] t1)).alloc (.cells #[v2] t2)).alloc (.cells #[v3] t3)).cell? ⟨w.heap.size, 0, none⟩ = some v1 ∧
  (((w.alloc (.cells #[v1] t1)).alloc (.cells #[v2] t2)).alloc (.cells #[v3] t3)).cell? ⟨w.heap.size + 1, 0, none⟩ = some v2 ∧
  (((w.alloc (.cells #[v1] t1)).alloc (.cells #[v2] t2)).alloc (.cells #[v3] t3)).cell? ⟨w.heap.size + 2, 0, none⟩ = some v3 ∧
  Below w.heap.size w (((w.alloc (.cells #[v1] t1)).alloc (.cells #[v2] t2)).alloc (.cells #[v3] t3)) ∧
  (((w.alloc (.cells #[v1] t1)).alloc (.cells #[v2] t2)).alloc (.cells #[v3] t3)).heap.size = w.heap.size + 3 := by
 have a1 := Blk.new w t1 [v1]
 have a2 := Blk.new (w.alloc (.cells #[v1] t1)) t2 [v2]
 have a3 := Blk.new ((w.alloc (.cells #[v1] t1)).alloc (.cells #[v2] t2)) t3 [v3]
 simp only [World.size_alloc] at a2 a3
 have k1 := (Below.refl (w.alloc (.cells #[v1] t1)).heap.size _).alloc (Nat.le_refl _) (.cells #[v2] t2)
 have k2 := (Below.refl ((w.alloc (.cells #[v1] t1)).alloc (.cells #[v2] t2)).heap.size _).alloc (Nat.le_refl _) (.cells #[v3] t3)
 refine ⟨((a1.below k1 a1.lt).below k2 (by simp; omega)).cell 0, (a2.below k2 (by simp)).cell 0, a3.cell 0, ?_, by simp⟩
 exact (((Below.refl _ _).alloc (Nat.le_refl _) _).alloc (by simp) _).alloc (by simp; omega) _
theorem notes_any (D : Option Addr) (nd c : Nat) (D' : Option Addr) (n' c' : Nat) (a many g : Int) (w : World) :
  Calls Tryz.prog 82 #[diskV D nd c D' n' c', .int .i64 a, .int .i64 many, .int .u64 g] w fun e w' =>
   e = .returned (.func (.func 126) #[] #[.pointer (some ⟨w.heap.size + 2, 0, none⟩), .pointer (some ⟨w.heap.size, 0, none⟩), .pointer (some ⟨w.heap.size + 1, 0, none⟩), .pointer (some ⟨w.heap.size + 3, 0, none⟩)]) ∧
   NBox w' w.heap.size D nd c D' n' c' a many g ∧ Below w.heap.size w w' ∧ w.heap.size + 4 ≤ w'.heap.size := by
 have x0 := Blk.new w 25 [.slice D nd c, .slice D' n' c']
 have b0 : Below w.heap.size w (w.alloc (.cells #[.slice D nd c, .slice D' n' c'] 25)) := (Below.refl _ _).alloc (Nat.le_refl _) _
 obtain ⟨w0, hw0⟩ : ∃ x, x = w.alloc (.cells #[.slice D nd c, .slice D' n' c'] 25) := ⟨_, rfl⟩
 have hs0 : w0.heap.size = w.heap.size + 1 := by rw [hw0]; simp
 obtain ⟨b1, b2, b3, b4, b5⟩ := boxes3n w0 (.int .i64 a) (.int .i64 many) (.int .u64 g) 3 3 27
 rw [← hw0] at x0 b0
 have x1 := x0.below b4 (by omega)
 have d0 := x1.cell 0
 have d1 := x1.cell 1
 simp only [gcZ, gcS] at d0 d1
 rw [hs0] at b1 b2 b3 b5
 have X := Lh (show NBox (((w0.alloc (.cells #[.int .i64 a] 3)).alloc (.cells #[.int .i64 many] 3)).alloc (.cells #[.int .u64 g] 27)) w.heap.size D nd c D' n' c' a many g from ⟨d0, d1, b1, b2, b3⟩)
 have B := Lh (b0.trans (b4.mono (by omega)))
 have HS := Lh b5
 clear b1 b2 b3 b4 b5 x0 x1 d0 d1 b0 hs0
 subst hw0
 go_enter Tryz.func82, Tryz.ntmps82
 go_wp2
 go_ret
 exact ⟨rfl, X.out, B.out, by rw [HS.out]; omega⟩
end Go.Proofs.YtifgcfepbenpjaaGreat
namespace Go.Proofs.YtifgcfepbenpjaaGreat
open Go.RowKit Go.Shelf
attribute [local go_sem] Oper.semAt_some
theorem OwnTxs.kept {W Y : World} {B : Nat} {A : Option Addr} {n c : Nat} {L : List Txt} {row : Option Nat} (h : OwnTxs W B A n c L) (hg : W.grownBy Y row) (hr : ∀ r, row = some r → r < B ∨ ∃ o : Obj, W.heap[r]? = some o ∧ o.isCells = false) : OwnTxs Y B A n c L := by
 obtain ⟨vs, hown, hl, hby, hin⟩ := h
 refine ⟨vs, hown.kept hg ?_, hl, hby, fun i hi => ?_⟩
 ·rcases hown.2 with ⟨e, h0⟩ | ⟨g, cap, cur, e, hb, hgb, _⟩
  ·exact .inl (by rw [e]; rfl)
  ·refine .inr fun e' => ?_
   rw [e] at e'
   rcases hr g (by simpa [Value.ownBlock] using e'.symm) with h | ⟨o, ho, hc⟩
   ·omega
   ·rw [hgb] at ho; cases ho; cases hc
 ·obtain ⟨Ai, ni, ci, h1, h2⟩ := hin i hi
  refine ⟨Ai, ni, ci, h1, h2.keep fun g hb hu => hg.block g hu.lt fun e => ?_⟩
  rcases hr g e.symm with h | ⟨o, ho, hc⟩
  ·omega
  ·obtain ⟨cs, hcs⟩ := hu
   rw [hcs] at ho; cases ho; cases hc
def TxBox (Bb B0 : Nat) (pre : List El) (W : World) : Prop := ∃ A c, Boxed W Bb 103 (.slice A pre.length c) ∧ OwnTxs W B0 A pre.length c (pre.map (·.2))
theorem TxBox.abide (Bb B0 B : Nat) (pre : List El) : AbideW B (TxBox Bb B0 pre) := by
 rintro _ X Y row ⟨A, c, hv, ht⟩ hg hr
 refine ⟨A, c, hv.kept hg (fun e => ?_), ht.kept hg fun r e => .inr (hr r e).2⟩
 obtain ⟨_, o, ho, hc⟩ := hr Bb e.symm
 rw [show X.heap[Bb]? = _ from hv] at ho; cases ho; cases hc
theorem jscan_in (P T : Int) (A : Nat) (M W Q : Int) (D : Option Addr) (nd c : Nat) (D' : Option Addr) (n' c' : Nat) (S : List Sec) (C : List Pnd) (a g : Int) (w : World) (hq : Dsk w D nd c D' n' c' S C) (hs : SmallD S C) (hg : isG g) (h0 : jaE P T A M W Q S C a = 0) :
  CallsIn Fence.wide 5 Tryz.prog 41 #[cfgV P T A M W Q, diskV D nd c D' n' c', .int .i64 a, .int .u64 g] w (ScanOut w (jN (jf S C A a g) A) 0) := by
 obtain ⟨x, hbel⟩ := TBox.new P T A M W Q hq
 obtain ⟨w0, hw0⟩ : ∃ x : World, x = (w.alloc (.cells #[.int .i64 P, .int .i64 T, .int .i64 A, .int .i64 M, .int .i64 W, .int .i64 Q] 36)).alloc (.cells #[.slice D nd c, .slice D' n' c'] 25) := ⟨_, rfl⟩
 rw [← hw0] at x hbel
 have FO := Lh (firstof_any P T A M W Q D nd c D' n' c' S C a w0 x.dsk.dsk hs)
 rw [h0, show jaN P T A M W Q S C a = 2 + a * A from if_pos h0] at FO
 have hm := jae_may h0
 have hA32 : A ≤ 32 := by have := hm.1.1; unfold mayC at this; omega
 have hA1 : 1 ≤ A := by have := hm.1.1; unfold mayC at this; omega
 obtain ⟨hf0, hf1, _⟩ := first_wrap (j := 0) h0 (Int.le_refl _) (by omega)
 have HF := Lh (show ∀ k : Nat, jf S C A a g k = noteO g k (optAt S C (2 + a * A + k)) from fun k => rfl)
 obtain ⟨f, hf⟩ : ∃ f, f = jf S C A a g := ⟨_, rfl⟩
 rw [← hf] at HF ⊢
 obtain ⟨F, hF⟩ : ∃ F, F = 2 + a * A := ⟨_, rfl⟩
 rw [← hF] at FO HF hf0 hf1
 obtain ⟨c0, c1, c2, c3, c4, c5, d0, d1⟩ := x.cells
 have X := Lh x
 have B := Lh hbel
 have HQ := Lh hq
 have HS := Lh hs
 have HG := Lh hg
 obtain ⟨i0, hi, hz0, hz1, hz2⟩ := info_parts txts_info
 have hml : (100 : Nat) ≤ maxLen := by decide
 clear x hbel hq hs hg h0 hm hf hF
 refine callsIn_of_wp_marks Tryz.func41 rfl trivial ?_ rfl
 simp only [Tryz.ntmps41, List.size_toArray, List.length_cons, List.length_nil, Nat.reduceAdd, Nat.reduceSub, Array.replicate_succ, Array.replicate_zero, List.push_toArray, List.append_toArray, List.nil_append, List.cons_append]
 gi_wp2_with fail
 refine ⟨trivial, ?_⟩
 rw [← hw0]
 clear hw0
 refine (callsIn_wide.2 FO.out).mono ?_
 rintro e w1 ⟨rfl, hb⟩
 have B1 := B.out.trans (hb.mono B.out.size)
 have X1 := X.out.below hb
 have hbA : Below w1.heap.size w1 (w1.alloc (.cells #[.slice none 0 0] 103)) := (Below.refl _ _).alloc (Nat.le_refl _) _
 have bO := Boxed.new w1 103 (.slice none 0 0)
 have X2 := X1.below hbA
 have B2 := Lh (B1.trans (hbA.mono B1.size))
 have hs1 := B1.size
 clear c0 c1 c2 c3 c4 c5 d0 d1 hb X1 B1 B X FO
 obtain ⟨c0, c1, c2, c3, c4, c5, d0, d1⟩ := X2.cells
 obtain ⟨v1, hv1⟩ : ∃ x : World, x = w1.alloc (.cells #[.slice none 0 0] 103) := ⟨_, rfl⟩
 have hv1s : v1.heap.size = w1.heap.size + 1 := by rw [hv1]; simp
 have NT := Lh (notes_any D nd c D' n' c' F A g v1)
 rw [← hv1] at bO B2
 have HV := Lh hv1s
 gi_wp2_with fail
 refine ⟨trivial, ?_⟩
 rw [← hv1]
 clear hv1 hbA X2 c0 c1 c2 c3 c4 c5 d0 d1 hv1s
 refine (callsIn_wide.2 NT.out).mono ?_
 rintro e W1 ⟨rfl, hx, hb, hsz⟩
 rw [HV.out] at hx hsz ⊢
 have hB1 := B2.out.trans (hb.mono B2.out.size)
 have bO1 := bO.kept (grown_of_below hb) (by simp)
 clear hb bO
 gi_wp2_with fail
 refine wpIn_rangeFunc_each rfl (by omega) (gf := 126) (lb := #[.pointer (some ⟨w1.heap.size + 1 + 2, 0, none⟩), .pointer (some ⟨w1.heap.size + 1, 0, none⟩), .pointer (some ⟨w1.heap.size + 1 + 1, 0, none⟩), .pointer (some ⟨w1.heap.size + 1 + 3, 0, none⟩)]) rfl trivial (enters_of Tryz.func126 (by kernel_rfl) rfl)
  (notes1_each 4 w.heap.size (w1.heap.size + 1) A D nd c D' n' c' S C F g f w W1 (by omega) (by omega) ⟨by omega, by omega⟩ HQ.out HS.out HG.out HF.out rfl hB1 (by omega) (by omega) hx)
  (fun h k => h.trans k) (fun W l o o' hl ho hc => ?kb) (Below.refl _ _) (fun _ => rfl) (fun x => elOk_abide _ _ x)
  (fun pre W => TxBox w1.heap.size W1.heap.size pre W ∧ (Below w.heap.size w W ∧ W1.heap.size ≤ W.heap.size))
  (fun pre => OwnFrom.and (TxBox.abide _ _ _ pre) (OwnFrom.and (ownFrom_below (Nat.le_refl _) (by omega)) (fun s W W' row hs hg hr => Nat.le_trans hs hg.size)))
  ⟨⟨none, 0, bO1, OwnTxs.nil _ _⟩, hB1, Nat.le_refl _⟩
  (fun x => { tmps := #[cfgV P T (A : Int) M W Q, diskV D nd c D' n' c', .int .i64 a, .int .u64 g, .pointer (some ⟨w.heap.size, 0, none⟩), .pointer (some ⟨w.heap.size + 1, 0, none⟩), undef, undef, .slice none 0 0, .int .i64 0, .int .i64 F, .int .i64 0, .pointer (some ⟨w1.heap.size, 0, none⟩), .slice x.1.1 x.1.2.1 x.1.2.2, .tuple #[.int .i64 F, .int .i64 0], cfgV P T (A : Int) M W Q, diskV D nd c D' n' c', .int .i64 a, .tuple #[.int .i64 F, .int .i64 0], .int .i64 F, .int .i64 0, .int .i64 0, .bool false, undef, diskV D nd c D' n' c', .int .i64 F, .pointer (some ⟨w.heap.size, 2, none⟩), .int .i64 (A : Int), .int .u64 g, .func (.func 126) #[] #[.pointer (some ⟨w1.heap.size + 1 + 2, 0, none⟩), .pointer (some ⟨w1.heap.size + 1, 0, none⟩), .pointer (some ⟨w1.heap.size + 1 + 1, 0, none⟩), .pointer (some ⟨w1.heap.size + 1 + 3, 0, none⟩)], .slice x.1.1 x.1.2.1 x.1.2.2, undef, undef, undef, undef, undef], defers := [] }) ?assign ?body ?done
 case kb =>
  have hlt := (Array.getElem?_eq_some_iff.1 ho).1
  exact ⟨(Below.refl w.heap.size W).grown (grownBy_putObj' W l o') (by omega) (fun k e => by cases e; omega), fun p h1 h2 => World.cell?_of_block (World.putObj_heap_other (by omega))⟩
 case assign =>
  intro l x W K hK
  gi_wp2
  exact hK
 case body =>
  rintro l pre x W hok ⟨⟨A1, c1, hv, htx⟩, hB, hz⟩ hlt
  have hB := Lh hB
  obtain ⟨vs, hown, hl, hby, hin⟩ := htx
  have hp32 : pre.length < 32 := by omega
  have hc := hv.cell
  have hbt := (Below.refl W.heap.size W).alloc (Nat.le_refl _) (.cells #[.slice x.1.1 x.1.2.1 x.1.2.2] 42)
  gi_wp2_with (gi_at_builtin; refine wpListIn_append_own _ rfl _ _ 103 rfl W1.heap.size 42 i0 (.slice none 0 0) 1 24 Tryz.underlying103 hi hz0 hz1 hz2 rfl (by decide) _ _ _ rfl (hown.alloc _) ⟨W.heap.size, 0, none⟩ 1 1 [.slice x.1.1 x.1.2.1 x.1.2.2] rfl rfl (cell_one_new _ _ _) (by simp [Value.oneCell']) (by omega) (by omega) (by simp; omega) ?_; intro v' w2 hown' hgrow _; obtain ⟨g', cap', rfl⟩ := ownsRow_succ hown'; obtain ⟨hv1, hv2, hr2, hk2, hb2⟩ := hv.appended (by decide) (owns_base hown (show w1.heap.size ≤ _ by omega)) (by omega) (Nat.le_refl _) (owns_base hown' (by omega)) hgrow; have hc1 := hv1.cell; have hf1 := hv1.frozen; have hgr := Lh hgrow; have hnw := Lh hown'; clear hgrow)
  have hsn := OwnTxs.snoc (hown.alloc _) hl hby (fun i hi => by
   obtain ⟨Aj, nj, cj, e, hj⟩ := hin i hi
   exact ⟨Aj, nj, cj, e, hj.allocated _⟩) hok.2 (hok.1.allocated _) hgr.out hnw.out
  have hfin := hsn.kept (grownBy_set w2 w1.heap.size 0 (Value.slice (some ⟨g', 0, none⟩) (pre.length + 1) cap')) (fun r e => .inl (by injection e with e; omega))
  have hgs := hgr.out.size
  rw [World.size_alloc] at hgs
  have hkp : KpN w.heap.size (w1.heap.size + 1) W (w2.setCell ⟨w1.heap.size, 0, none⟩ (Value.slice (some ⟨g', 0, none⟩) (pre.length + 1) cap')) := by
   refine ⟨hb2.mono hs1, fun p h1 h2 => World.cell?_of_block ?_⟩
   rw [Below.heap_setCell w2 ⟨w1.heap.size, 0, none⟩ _ p.block (by dsimp only; omega), hgr.out.block p.block (by rw [World.size_alloc]; omega) (fun e => by have := (hown.lt _ e.symm).1; omega)]
   exact Below.heap_alloc _ _ _ (by omega)
  refine ⟨hk2, hkp, ⟨some ⟨g', 0, none⟩, cap', ?_, ?_⟩, hB.out.trans (hb2.mono hs1), ?_⟩
  ·rw [List.length_append, List.length_singleton]
   exact hv2
  ·rw [List.length_append, List.length_singleton, List.map_append, List.map_cons, List.map_nil]
   exact hfin
  ·show W1.heap.size ≤ (w2.setCell _ _).heap.size
   rw [World.size_setCell]
   omega
 case done =>
  rintro D2 xs W hD hS ⟨⟨A1, c1, hv, htx⟩, hB, hz⟩ hK
  have hc := hv.cell
  have hfin := Lh (hB.trans (belowK_b (w := w) (Nat.le_refl _) W D2 _ (.deferred none) (by omega) hK rfl rfl))
  have hrow := Lh ((htx.kept (grownBy_putObj' W D2 (.deferred none)) (fun r e => .inr (by cases e; exact ⟨_, hK, rfl⟩))).lower (show w.heap.size ≤ _ by omega))
  have hK2 := Lh hK
  have hL : xs.length = (jN f A).length := by rw [← hS, List.length_map]
  rw [hS] at hrow
  rw [hL] at hrow hc
  clear hB
  gi_wp2
  refine ⟨by simp, .inl ⟨_, _, rfl, run_takeDeferred hK2.out, ?_⟩⟩
  exact ⟨_, results_tmp2 rfl _ _ _, _, _, rfl, hrow.out, hfin.out⟩
theorem jscan_any (P T A M W Q : Int) (D : Option Addr) (n c : Nat) (D' : Option Addr) (n' c' : Nat) (S : List Sec) (C : List Pnd) (a g : Int) (w : World) (hq : Dsk w D n c D' n' c' S C) (hs : SmallD S C) (hg : isG g) :
  Calls Tryz.prog 41 #[cfgV P T A M W Q, diskV D n c D' n' c', .int .i64 a, .int .u64 g] w (ScanOut w (jsL P T A M W Q S C a g) (jaE P T A M W Q S C a)) := by
 by_cases h0 : jaE P T A M W Q S C a = 0
 ·have hm := jae_may h0
  obtain ⟨An, rfl⟩ := Int.eq_ofNat_of_zero_le (show 0 ≤ A by have := hm.1.1; unfold mayC at this; omega)
  have hL : jsL P T An M W Q S C a g = jN (jf S C An a g) An := by unfold jsL; rw [if_pos h0, Int.toNat_natCast]
  rw [hL, h0]
  exact callsIn_wide.1 (jscan_in P T An M W Q D n c D' n' c' S C a g w hq hs hg h0)
 ·have hL : jsL P T A M W Q S C a g = [] := if_neg h0
  rw [hL]
  obtain ⟨x, hbel⟩ := TBox.new P T A M W Q hq
  obtain ⟨w0, hw0⟩ : ∃ x : World, x = (w.alloc (.cells #[.int .i64 P, .int .i64 T, .int .i64 A, .int .i64 M, .int .i64 W, .int .i64 Q] 36)).alloc (.cells #[.slice D n c, .slice D' n' c'] 25) := ⟨_, rfl⟩
  rw [← hw0] at x hbel
  have FO := Lh (firstof_any P T A M W Q D n c D' n' c' S C a w0 x.dsk.dsk hs)
  rw [show jaN P T A M W Q S C a = 0 from if_neg h0] at FO
  obtain ⟨E, hEE⟩ : ∃ E, E = jaE P T A M W Q S C a := ⟨_, rfl⟩
  rw [← hEE] at FO h0 ⊢
  have hne : (E != 0) = true := by rw [bne_iff_ne]; exact h0
  obtain ⟨c0, c1, c2, c3, c4, c5, d0, d1⟩ := x.cells
  have B := Lh hbel
  clear x hbel hq hs hg h0 hEE hL
  go_enter Tryz.func41, Tryz.ntmps41
  go_wp2_with fail
  rw [← hw0]
  clear hw0
  refine FO.out.mono ?_
  rintro e w1 ⟨rfl, hb⟩
  have B1 := Lh (B.out.trans (hb.mono B.out.size))
  clear hb
  go_wp2
  go_ret2
  exact ⟨none, 0, rfl, OwnTxs.nil _ _, B1.out⟩
end Go.Proofs.YtifgcfepbenpjaaGreat
namespace Go.Proofs.YtifgcfepbenpjaaGreat
open Go.RowKit Go.OpenShut Go.ChangeShapes Go.WideShapes Go.Deep Go.Joins
def wfR (r : Rc) : Prop := (Lit.int .i64 r.p).wf = true ∧ (Lit.int .i64 r.l).wf = true ∧ (Lit.int .i64 r.f).wf = true
section
variable {P : Program} {w : World} {base : Nat} {H : Type} {enc : TypeId × Value → H}
theorem trod_eight {t : TypeId} {f0 f1 f2 f3 f4 f5 f6 f7 : Field} {fuel : Nat} {cs : List Value} {x : DataW H × List MemPlace} (ht : P.underlying t = some (.struct #[f0, f1, f2, f3, f4, f5, f6, f7])) (h : DataW.trod enc P w base (fun _ => true) true fuel t cs = some x) :
  ∃ y0 y1 y2 y3 y4 y5 y6 y7 n, DataW.trod enc P w base (fun _ => true) true n f0.type ((cs.drop f0.offset).take (P.cellsOf f0.type)) = some y0 ∧ DataW.trod enc P w base (fun _ => true) true n f1.type ((cs.drop f1.offset).take (P.cellsOf f1.type)) = some y1 ∧ DataW.trod enc P w base (fun _ => true) true n f2.type ((cs.drop f2.offset).take (P.cellsOf f2.type)) = some y2 ∧ DataW.trod enc P w base (fun _ => true) true n f3.type ((cs.drop f3.offset).take (P.cellsOf f3.type)) = some y3 ∧ DataW.trod enc P w base (fun _ => true) true n f4.type ((cs.drop f4.offset).take (P.cellsOf f4.type)) = some y4 ∧ DataW.trod enc P w base (fun _ => true) true n f5.type ((cs.drop f5.offset).take (P.cellsOf f5.type)) = some y5 ∧ DataW.trod enc P w base (fun _ => true) true n f6.type ((cs.drop f6.offset).take (P.cellsOf f6.type)) = some y6 ∧ DataW.trod enc P w base (fun _ => true) true n f7.type ((cs.drop f7.offset).take (P.cellsOf f7.type)) = some y7 := by
 obtain ⟨xs, n, _, rfl, hl, hlen, hf⟩ := DataW.trod_struct ht h
 match xs, hlen with
 | [y0, y1, y2, y3, y4, y5, y6, y7], _ => exact ⟨y0, y1, y2, y3, y4, y5, y6, y7, n, by simpa using hf 0 f0 rfl, by simpa using hf 1 f1 rfl, by simpa using hf 2 f2 rfl, by simpa using hf 3 f3 rfl, by simpa using hf 4 f4 rfl, by simpa using hf 5 f5 rfl, by simpa using hf 6 f6 rfl, by simpa using hf 7 f7 rfl⟩
end
theorem rec_of {H : Type} {enc : TypeId × Value → H} {W : World} {fuel : Nat} {cs : List Value} {y : DataW H × List MemPlace} (hl : cs.length = 8) (h : DataW.trod enc Tryz.prog W 0 (fun _ => true) true fuel 64 cs = some y) :
  ∃ r, cs = recL r ∧ isR r ∧ wfR r := by
 obtain ⟨y0, y1, y2, y3, y4, y5, y6, y7, n, g0, g1, g2, g3, g4, g5, g6, g7⟩ := trod_eight Tryz.underlying64 h
 match cs, hl with
 | [v0, v1, v2, v3, v4, v5, v6, v7], _ =>
  have g0 : DataW.trod enc Tryz.prog W 0 (fun _ => true) true n 3 [v0] = some y0 := g0
  obtain ⟨z0, e0, _, w0⟩ := DataW.trod_int Tryz.underlying3 g0
  have g1 : DataW.trod enc Tryz.prog W 0 (fun _ => true) true n 26 [v1] = some y1 := g1
  obtain ⟨z1, e1, _, w1⟩ := DataW.trod_int Tryz.underlying26 g1
  have g2 : DataW.trod enc Tryz.prog W 0 (fun _ => true) true n 26 [v2] = some y2 := g2
  obtain ⟨z2, e2, _, w2⟩ := DataW.trod_int Tryz.underlying26 g2
  have g3 : DataW.trod enc Tryz.prog W 0 (fun _ => true) true n 3 [v3] = some y3 := g3
  obtain ⟨z3, e3, _, w3⟩ := DataW.trod_int Tryz.underlying3 g3
  have g4 : DataW.trod enc Tryz.prog W 0 (fun _ => true) true n 5 [v4] = some y4 := g4
  obtain ⟨z4, e4, _, w4⟩ := DataW.trod_int Tryz.underlying5 g4
  have g5 : DataW.trod enc Tryz.prog W 0 (fun _ => true) true n 3 [v5] = some y5 := g5
  obtain ⟨z5, e5, _, w5⟩ := DataW.trod_int Tryz.underlying3 g5
  have g6 : DataW.trod enc Tryz.prog W 0 (fun _ => true) true n 4 [v6] = some y6 := g6
  obtain ⟨z6, e6, _⟩ := DataW.trod_bool Tryz.underlying4 g6
  have g7 : DataW.trod enc Tryz.prog W 0 (fun _ => true) true n 4 [v7] = some y7 := g7
  obtain ⟨z7, e7, _⟩ := DataW.trod_bool Tryz.underlying4 g7
  injection e0 with e0 _
  injection e1 with e1 _
  injection e2 with e2 _
  injection e3 with e3 _
  injection e4 with e4 _
  injection e5 with e5 _
  injection e6 with e6 _
  injection e7 with e7 _
  subst e0; subst e1; subst e2; subst e3; subst e4; subst e5; subst e6; subst e7
  have b1 := bounds_u32 w1
  have b2 := bounds_u32 w2
  have b4 := bounds_u8 w4
  exact ⟨⟨z0, z1, z2, z3, z4, z5, z6, z7⟩, rfl, ⟨⟨b1.1, by have := b1.2; dsimp only; omega⟩, ⟨b2.1, by have := b2.2; dsimp only; omega⟩, ⟨b4.1, by have := b4.2; dsimp only; omega⟩⟩, w0, w3, w5⟩
theorem open_recs {H : Type} {enc : TypeId × Value → H} {W : World} {fuel : Nat} {v : Value} {y : DataW H × List MemPlace} (h : DataW.trod enc Tryz.prog W 0 (fun _ => true) true fuel 30 [v] = some y) :
  ∃ A n c L, v = .slice A n c ∧ Recs W A n c L := by
 rcases open_slice Tryz.underlying30 h with ⟨hcs, _⟩ | ⟨a, len, cap, m, k, D, Pl, hcs, _, hl, hm, hmm, _, hx⟩
 ·have hv : v = .slice none 0 0 := by simpa using hcs
  exact ⟨none, 0, 0, [], hv, Recs.nil W⟩
 ·have hv : v = .slice (some a) len cap := by simpa using hcs
  simp only [if_true] at hmm
  have hce : Tryz.prog.cellsOf 64 = 8 := by kernel_rfl
  have each : ∀ i, i < len → ∃ r : Rc, (∀ j v, (recL r)[j]? = some v → W.cell? ((a.add (i * 8)).add j) = some v) ∧ isR r := fun i hi => by
   obtain ⟨cs', h1, h2⟩ := hx i (by omega)
   rw [hce] at h1
   obtain ⟨_, hlen, hcell⟩ := World.cells?_some h1
   obtain ⟨r, e, hr, _⟩ := rec_of hlen h2
   refine ⟨r, fun j v hv => ?_, hr⟩
   have hj : j < 8 := by
    rcases Nat.lt_or_ge j 8 with hj | hj
    ·exact hj
    ·rw [List.getElem?_eq_none (by simpa using hj)] at hv; cases hv
   have h3 := hcell j hj
   rw [e] at h3
   rw [h3]
   exact hv
  obtain ⟨s, hs⟩ := choose_lt each
  refine ⟨some a, len, cap, (List.range len).map s, hv, by simp, hl, hm, ?_, fun i hi => ?_⟩
  ·intro t ht
   obtain ⟨r, hr, rfl⟩ := List.mem_map.1 ht
   exact (hs r (List.mem_range.1 hr)).2
  ·obtain ⟨b, o, spot⟩ := a
   have hc0 := (hs 0 (by omega)).1 0 _ rfl
   have hsp : spot = none := by simpa [Addr.add] using World.cell?_spot hc0
   subst hsp
   have e2 : ((List.range len).map s).getD i zR = s i := by simp [List.getD_eq_getElem?_getD, hi]
   rw [e2]
   have hci := (hs i hi).1
   simp only [add_none] at hci
   exact ⟨b, o, rfl, World.block_lt_of_cell? W _ (hci 0 _ rfl), hci⟩
end Go.Proofs.YtifgcfepbenpjaaGreat
namespace Go.Proofs.YtifgcfepbenpjaaGreat
open Go.RowKit Go.OpenShut Go.ChangeShapes Go.WideShapes Go.Deep Go.Joins
theorem open_met {H : Type} {enc : TypeId × Value → H} {W : World} {b0 : Nat} {r : Reach} {v : Value} {d : DataW H} {p : List MemPlace} (hv : Value.okWide Tryz.prog W r b0 32 v) (h : DataW.Trod enc Tryz.prog W 0 (fun _ => true) true 32 v d p) :
  ∃ x y z n u B k c t, v = metV x y z n u B k c ∧ Recs W B k c t ∧ isS (x, y, z) := by
 obtain ⟨cs, rfl, hsz⟩ := okWide_struct Tryz.underlying32 hv
 have h6 : cs.toList.length = 6 := by simpa using hsz.trans (show Tryz.prog.cellsOf 32 = 6 by kernel_rfl)
 obtain ⟨fuel, hf⟩ := h
 obtain ⟨l⟩ := cs
 match l, h6 with
 | [v0, v1, v2, v3, v4, v5], _ =>
  have hf' : DataW.trod enc Tryz.prog W 0 (fun _ => true) true fuel 32 [v0, v1, v2, v3, v4, v5] = some (d, p) := by simpa [Value.cells] using hf
  obtain ⟨y0, y1, y2, y3, n, _, _, g0, g1, g2, g3⟩ := trod_struct4 Tryz.underlying32 hf'
  have g0 : DataW.trod enc Tryz.prog W 0 (fun _ => true) true n 29 [v0, v1, v2] = some y0 := g0
  have g1 : DataW.trod enc Tryz.prog W 0 (fun _ => true) true n 3 [v3] = some y1 := g1
  have g2 : DataW.trod enc Tryz.prog W 0 (fun _ => true) true n 3 [v4] = some y2 := g2
  have g3 : DataW.trod enc Tryz.prog W 0 (fun _ => true) true n 30 [v5] = some y3 := g3
  obtain ⟨s0, s1, s2, n2, _, _, k0, k1, k2⟩ := trod_struct3 Tryz.underlying29 g0
  have k0 : DataW.trod enc Tryz.prog W 0 (fun _ => true) true n2 26 [v0] = some s0 := k0
  have k1 : DataW.trod enc Tryz.prog W 0 (fun _ => true) true n2 3 [v1] = some s1 := k1
  have k2 : DataW.trod enc Tryz.prog W 0 (fun _ => true) true n2 27 [v2] = some s2 := k2
  obtain ⟨z0, e0, _, w0⟩ := DataW.trod_int Tryz.underlying26 k0
  obtain ⟨z1, e1, _, w1⟩ := DataW.trod_int Tryz.underlying3 k1
  obtain ⟨z2, e2, _, w2⟩ := DataW.trod_int Tryz.underlying27 k2
  obtain ⟨z3, e3, _, w3⟩ := DataW.trod_int Tryz.underlying3 g1
  obtain ⟨z4, e4, _, w4⟩ := DataW.trod_int Tryz.underlying3 g2
  obtain ⟨B, k, c, t, e5, ht⟩ := open_recs g3
  injection e0 with e0 _
  injection e1 with e1 _
  injection e2 with e2 _
  injection e3 with e3 _
  injection e4 with e4 _
  subst e0; subst e1; subst e2; subst e3; subst e4; subst e5
  have b0 := bounds_u32 w0
  have b2 := bounds_u64 w2
  exact ⟨z0, z1, z2, z3, z4, B, k, c, t, rfl, ht, ⟨b0.1, by have := b0.2; dsimp only; omega⟩, b2.1, by have := b2.2; dsimp only; omega⟩
end Go.Proofs.YtifgcfepbenpjaaGreat
