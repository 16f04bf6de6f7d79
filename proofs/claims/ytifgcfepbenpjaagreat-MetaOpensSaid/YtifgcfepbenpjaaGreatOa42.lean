/- Texts of layers 1 to 12, joined (JrnW JrnP3 JrnP4 JrnP5). -/
import Derived.Test.YtifgcfepbenpjaaGreatOa29
import Derived.Test.YtifgcfepbenpjaaGreatOa39
set_option maxRecDepth 100000
set_option maxHeartbeats 12800000
namespace Go.Proofs.YtifgcfepbenpjaaGreat
open Go.RowKit
set_option linter.unusedVariables false
section
variable {w w' : World} {G : Nat} {P T A M W Q : Int} {D D' : Option Addr} {n c n' c' : Nat} {S : List Sec} {C : List Pnd}
end
theorem OwnTxt.few {w : World} {base n c c' : Nat} {A : Option Addr} {zs : List Int} (h : OwnTxt w base A n c zs) (h1 : n ≤ c') (h2 : c' ≤ c) : OwnTxt w base A n c' zs := ⟨h.1, h1, Nat.le_trans h2 h.2.2.1, h.2.2.2⟩
def noAt (o : Option Txt) : Prop := ∀ t, o = some t → ¬ rdOk t
theorem readat_no (D : Option Addr) (n c : Nat) (D' : Option Addr) (n' c' : Nat) (S : List Sec) (C : List Pnd) (a : Int) (w : World) (hq : Dsk w D n c D' n' c' S C) (hs : SmallD S C) (hno : noAt (optAt S C a)) :
  Calls Tryz.prog 127 #[diskV D n c D' n' c', .int .i64 a] w fun e w' => (∃ E, e = .returned (faultV E)) ∧ Below w.heap.size w w' := by
 have X0 := Lh (DBox.new hq)
 have hb0 : Below w.heap.size w (w.alloc (.cells #[.slice D n c, .slice D' n' c'] 25)) := (Below.refl _ _).alloc (Nat.le_refl _) _
 have RD := Lh (dsk_does.read D n c D' n' c' S C a _ (hq.below hb0) hs)
 have B0 := Lh hb0
 by_cases h0 : rdE S C a = 0
 ·have ho : optAt S C a = some (rdB S C a) := if_pos h0
  have hgood := rd_good h0 hq.secs.byte hq.pnds.byte
  have hn := Lh (hno _ ho)
  obtain ⟨t, ht⟩ : ∃ t, t = rdB S C a := ⟨_, rfl⟩
  rw [← ht] at RD hgood hn
  rw [h0] at RD
  obtain ⟨hl, hby⟩ := hgood
  have HBY := Lh hby
  have HL := Lh hl
  clear ho h0 hno hq hs hb0 ht hl hby
  go_enter Tryz.func127, Tryz.ntmps127
  go_wp2_with fail
  refine RD.out.mono ?_
  rintro e w1 ⟨A1, c1, rfl, hown, hb1⟩
  rw [HL.out] at hown
  obtain ⟨g1, rfl, _⟩ := owns_int_at (j := 0) hown (by decide)
  have B1 := Lh (B0.out.trans (hb1.mono B0.out.size))
  have RO := Lh (readof_any g1 0 c1 t w1 (Arg.own hown) HBY.out)
  clear hown hb1 RD X0 B0
  rw [HL.out]
  go_wp2_with fail
  refine RO.out.mono ?_
  rintro e w2 ⟨⟨hy, _⟩ | ⟨_, rfl⟩, hb2⟩
  ·exact absurd hy hn.out
  ·have B2 := Lh (B1.out.trans (hb2.mono B1.out.size))
   clear hb2
   go_wp2
   go_ret
   exact ⟨⟨_, rfl⟩, B2.out⟩
 ·have hb' : rdB S C a = [] := if_neg h0
  rw [hb'] at RD
  obtain ⟨E, hE⟩ : ∃ E, E = rdE S C a := ⟨_, rfl⟩
  rw [← hE] at RD h0
  have hne : (E != 0) = true := by rw [bne_iff_ne]; exact h0
  clear hno hq hs hb0 hb' hE h0
  go_enter Tryz.func127, Tryz.ntmps127
  go_wp2_with fail
  refine RD.out.mono ?_
  rintro e w1 ⟨A1, c1, rfl, hown, hb1⟩
  have B1 := Lh (B0.out.trans (hb1.mono B0.out.size))
  clear hown hb1 RD X0 B0
  go_wp2
  go_ret
  exact ⟨⟨_, rfl⟩, B1.out⟩
theorem readat_yes (D : Option Addr) (n c : Nat) (D' : Option Addr) (n' c' : Nat) (S : List Sec) (C : List Pnd) (a : Int) (t : Txt) (w : World) (hq : Dsk w D n c D' n' c' S C) (hs : SmallD S C) (ho : optAt S C a = some t) (hok : rdOk t) :
  Calls Tryz.prog 127 #[diskV D n c D' n' c', .int .i64 a] w fun e w' => (∃ A, e = .returned (noteV (val (t.take 8)) (t.getD 9 0) A (rdM t) (rdM t)) ∧ OwnTxt w' w.heap.size A (rdM t) (rdM t) (rdTx t)) ∧ Below w.heap.size w w' := by
 have X0 := Lh (DBox.new hq)
 have hb0 : Below w.heap.size w (w.alloc (.cells #[.slice D n c, .slice D' n' c'] 25)) := (Below.refl _ _).alloc (Nat.le_refl _) _
 have RD := Lh (dsk_does.read D n c D' n' c' S C a _ (hq.below hb0) hs)
 have B0 := Lh hb0
 have h0 : rdE S C a = 0 := by
  unfold optAt at ho
  split at ho
  ·assumption
  ·cases ho
 have hgood := rd_good h0 hq.secs.byte hq.pnds.byte
 have ht : rdB S C a = t := by
  unfold optAt at ho
  rw [if_pos h0] at ho
  injection ho
 rw [ht] at RD hgood
 rw [h0] at RD
 obtain ⟨hl, hby⟩ := hgood
 have HBY := Lh hby
 have HL := Lh hl
 have HOK := Lh hok
 obtain ⟨gv, hgv⟩ : ∃ x, x = val (t.take 8) := ⟨_, rfl⟩
 obtain ⟨nv, hnv⟩ : ∃ x, x = t.getD 9 0 := ⟨_, rfl⟩
 obtain ⟨m, hm⟩ : ∃ m, m = rdM t := ⟨_, rfl⟩
 have HM := Lh (⟨by have := rdM_le t; omega, by unfold rdTx; rw [← hm]⟩ : m ≤ 20 ∧ rdTx t = (t.drop 12).take m)
 have RO := Lh (fun b o c wx (h : Arg wx .u8 (some ⟨b, o, none⟩) 32 c t) => readof_any b o c t wx h HBY.out)
 rw [← hgv, ← hnv, ← hm] at RO ⊢
 clear ho h0 hq hs hb0 ht hl hby hok hgv hnv hm
 go_enter Tryz.func127, Tryz.ntmps127
 go_wp2_with fail
 refine RD.out.mono ?_
 rintro e w1 ⟨A1, c1, rfl, hown, hb1⟩
 rw [HL.out] at hown
 obtain ⟨g1, rfl, _⟩ := owns_int_at (j := 0) hown (by decide)
 have B1 := Lh (B0.out.trans (hb1.mono B0.out.size))
 have hsz := B0.out.size
 have RO := Lh (RO.out g1 0 c1 w1 (Arg.own hown))
 have OW := Lh (show OwnTxt w1 w.heap.size (some ⟨g1, 0 + 12, none⟩) m m (rdTx t) by
  have h := ((OwnTxt.of hown).lower hsz).sub (lo := 12) (hi := 12 + m) (by omega) (by have := HM.out.1; omega)
  rw [show 12 + m - 12 = m by omega] at h
  rw [HM.out.2]
  exact h.few (Nat.le_refl _) (by have := HM.out.1; have := (Arg.own hown).cap; omega))
 clear hown hb1 RD X0 B0 hsz
 rw [HL.out]
 go_wp2_with fail
 refine RO.out.mono ?_
 rintro e w2 ⟨⟨_, rfl⟩ | ⟨hno, _⟩, hb2⟩
 ·have B2 := Lh (B1.out.trans (hb2.mono B1.out.size))
  have OW2 := Lh (OW.out.below hb2)
  clear hb2 RO OW
  go_wp2
  go_ret
  exact ⟨⟨_, rfl, OW2.out⟩, B2.out⟩
 ·exact absurd HOK.out hno
theorem jae_may {P T A M W Q : Int} {S : List Sec} {C : List Pnd} {a : Int} (h : jaE P T A M W Q S C a = 0) : mayT P T A M W Q S C ∧ arJ a := by
 unfold jaE at h
 split at h
 ·split at h
  ·exact ⟨by assumption, by assumption⟩
  ·cases h
 ·cases h
theorem first_wrap {P T A M W Q : Int} {S : List Sec} {C : List Pnd} {a j : Int} (h : jaE P T A M W Q S C a = 0) (hj : 0 ≤ j) (hA : j < A) : 0 ≤ 2 + a * A ∧ 2 + a * A ≤ 100 ∧ IntKind.i64.wrap (2 + a * A + j) = 2 + a * A + j := by
 obtain ⟨h1, h2⟩ := jae_may h
 have h3 := h1.1
 unfold mayC at h3
 have e : a * A = 0 ∨ a * A = A := by
  unfold arJ at h2
  rcases (show a = 0 ∨ a = 1 by omega) with r | r
  ·rw [r]; left; simp
  ·rw [r]; right; simp
 obtain ⟨k, hk⟩ := Int.eq_ofNat_of_zero_le (show 0 ≤ 2 + a * A + j by omega)
 refine ⟨by omega, by omega, ?_⟩
 rw [hk]
 exact Lib.wrap_i64_small k (by omega)
def jaN (P T A M W Q : Int) (S : List Sec) (C : List Pnd) (a : Int) : Int := if jaE P T A M W Q S C a = 0 then 2 + a * A else 0
theorem firstof_any (P T A M W Q : Int) (D : Option Addr) (n c : Nat) (D' : Option Addr) (n' c' : Nat) (S : List Sec) (C : List Pnd) (a : Int) (w : World) (hq : Dsk w D n c D' n' c' S C) (hs : SmallD S C) :
  Calls Tryz.prog 81 #[cfgV P T A M W Q, diskV D n c D' n' c', .int .i64 a] w fun e w' => e = .returned (.tuple #[.int .i64 (jaN P T A M W Q S C a), .int .i64 (jaE P T A M W Q S C a)]) ∧ Below w.heap.size w w' := by
 obtain ⟨x, hbel⟩ := TBox.new P T A M W Q hq
 obtain ⟨w0, hw0⟩ : ∃ x : World, x = (w.alloc (.cells #[.int .i64 P, .int .i64 T, .int .i64 A, .int .i64 M, .int .i64 W, .int .i64 Q] 36)).alloc (.cells #[.slice D n c, .slice D' n' c'] 25) := ⟨_, rfl⟩
 rw [← hw0] at x hbel
 have X := Lh x
 have B := Lh hbel
 have CK := Lh (tcheck_any P T A M W Q D n c D' n' c' S C w0 x.dsk.dsk hs)
 obtain ⟨c0, c1, c2, c3, c4, c5, d0, d1⟩ := x.cells
 by_cases hm : mayT P T A M W Q S C
 ·rw [show tcE P T A M W Q S C = 0 from if_pos hm] at CK
  have hmc : mayC P T A M W Q := hm.1
  have hA1 : 1 ≤ A := by unfold mayC at hmc; omega
  have hE : jaE P T A M W Q S C a = areE P T A M W Q a 0 := by
   unfold jaE areE
   rw [if_pos hm, if_pos hmc]
   by_cases h : arJ a
   ·rw [if_pos h, if_pos ⟨h.1, h.2, by omega, by omega⟩]
   ·rw [if_neg h, if_neg (fun k => h ⟨k.1, k.2.1⟩)]
  have hN : jaN P T A M W Q S C a = areN P T A M W Q a 0 := by
   unfold jaN jaE areN
   rw [if_pos hm, if_pos hmc]
   by_cases h : arJ a
   ·rw [if_pos h, if_pos rfl, if_pos ⟨h.1, h.2, by omega, by omega⟩]
    omega
   ·rw [if_neg h, if_neg (by decide), if_neg (fun k => h ⟨k.1, k.2.1⟩)]
  rw [hE, hN]
  have AR := Lh (fun wx => parea_any P T A M W Q a 0 wx)
  obtain ⟨E, hEE⟩ : ∃ E, E = areE P T A M W Q a 0 := ⟨_, rfl⟩
  obtain ⟨y, hy⟩ : ∃ y, y = areN P T A M W Q a 0 := ⟨_, rfl⟩
  rw [← hEE, ← hy] at AR ⊢
  clear hm hmc hA1 hE hN hEE hy hq hs hbel
  go_enter Tryz.func81, Tryz.ntmps81
  go_wp2_with fail
  rw [← hw0]
  clear hw0
  refine CK.out.mono ?_
  rintro e w1 ⟨rfl, hb⟩
  have B := Lh (B.out.trans (hb.mono B.out.size))
  have X := Lh (X.out.below hb)
  clear hb x CK c0 c1 c2 c3 c4 c5 d0 d1
  obtain ⟨c0, c1, c2, c3, c4, c5, d0, d1⟩ := X.out.cells
  go_wp2_with fail
  refine (AR.out _).mono ?_
  rintro e w2 ⟨rfl, hb⟩
  have B := Lh (B.out.trans (hb.mono B.out.size))
  clear hb X AR c0 c1 c2 c3 c4 c5 d0 d1
  go_wp2
  go_ret2
  exact ⟨rfl, B.out⟩
 ·rw [show tcE P T A M W Q S C = 8 from if_neg hm] at CK
  have hE : jaE P T A M W Q S C a = 8 := if_neg hm
  rw [show jaN P T A M W Q S C a = 0 by unfold jaN; rw [hE]; rfl, hE]
  clear hm hE hq hs hbel
  go_enter Tryz.func81, Tryz.ntmps81
  go_wp2_with fail
  rw [← hw0]
  clear hw0
  refine CK.out.mono ?_
  rintro e w1 ⟨rfl, hb⟩
  have B := Lh (B.out.trans (hb.mono B.out.size))
  clear hb x CK c0 c1 c2 c3 c4 c5 d0 d1
  go_wp2
  go_ret2
  exact ⟨rfl, B.out⟩
end Go.Proofs.YtifgcfepbenpjaaGreat
namespace Go.Proofs.YtifgcfepbenpjaaGreat
open Go.RowKit Go.Shelf
set_option linter.unusedVariables false
attribute [local go_sem] Oper.semAt_some
def EachOf {α : Type} (F : Fence) (n : Nat) (P : Program) (g : Nat) (lb : Array Value) (encs : α → Array Value) (ok : α → World → Prop) (Kp : World → World → Prop) (S : List α → Prop) (N : Nat) (w : World) : Prop :=
 ∀ (l : Nat) (J : List α → World → Prop) (W : World), Below w.heap.size w W → (∀ xs, AbideW W.heap.size (J xs)) →
  (∀ pre x W1, ok x W1 → J pre W1 → pre.length < N → YieldAt F (n - 1) P l (encs x) W1 fun e W' => e = .returned (.bool true) ∧ J (pre ++ [x]) W' ∧ Kp W1 W') → J [] W →
  CallsIn F n P g (#[.func (.yield l) #[] #[]] ++ lb) W fun e W' => (∃ v, e = .returned v) ∧ ∃ xs, S xs ∧ J xs W'
def eachPost (Kp : World → World → Prop) (I : World → Prop) (W : World) : Exit → Act → World → Prop
 | .normal, _, W' => KeepsOthers W W' ∧ Kp W W' ∧ I W'
 | _, _, _ => False
theorem wpIn_rangeFunc_each {α : Type} {F : Fence} {n : Nat} {P : Program} {g : Operand} {ps : Array Tmp} {assign body : Code} {Q : Exit → Act → World → Prop} {a : Act} {w : World}
  (hro : F.round = none) (h1 : 1 ≤ n) {gf : Nat} {lb : Array Value} (hg : a.eval g = .func (.func gf) #[] lb) (hFg : F.fn gf) (eg : ∀ args w, (callFunc gf args).run P w = .ok (.enter gf args) w)
  {encs : α → Array Value} {ok : α → World → Prop} {Kp : World → World → Prop} {S : List α → Prop} {N : Nat} {w0 : World} (hseq : EachOf F (n - 1) P gf lb encs ok Kp S N w0)
  (hKt : ∀ {A B C : World}, Kp A B → Kp B C → Kp A C) (hKb : ∀ (W : World) (l : Nat) (o o' : Obj), w.heap.size ≤ l → W.heap[l]? = some o → o.isCells = false → Kp W (W.putObj l o'))
  (hb0 : Below w0.heap.size w0 w) (hps : ∀ x, (encs x).size = ps.size) (hok : ∀ x, AbideW w.heap.size (ok x))
  (I : List α → World → Prop) (hI : ∀ xs, AbideW w.heap.size (I xs)) (h0 : I [] w) (a₁ : α → Act)
  (hassign : ∀ (l : Nat) (x : α) (W : World) (K : Act → World → Prop), K (a₁ x) W →
   assign.wpIn (F.inRound l) (n - 1 - 1) P (Exit.then K (fun _ _ _ => False)) { tmps := (ps.zip (encs x)).foldl (fun t (p, v) => t.setIfInBounds p v) a.tmps, defers := [] } W)
  (hbody : ∀ (l : Nat) (pre : List α) (x : α) (W : World), ok x W → I pre W → pre.length < N → body.wpIn (F.inRound l) (n - 1 - 1) P (eachPost Kp (I (pre ++ [x])) W) (a₁ x) W)
  (hdone : ∀ (D : Nat) (xs : List α) (W : World), w.heap.size ≤ D → S xs → I xs W → W.heap[D]? = some (.deferred (some [])) → Q .normal { a with defers := { target := .collected D, args := #[] } :: a.defers } W) :
  (Code.rangeFunc g ps assign body).wpIn F n P Q a w := by
 refine wpIn_rangeFunc fun fn hfn => ?_
 rw [hro]
 obtain ⟨R, hR⟩ : ∃ R : LoopState → Option Code → Loop, R = fun st pe => { state := st, pending := pe, fn, tmps := a.tmps, params := ps, assign, body, defers := w.heap.size } := ⟨_, rfl⟩
 obtain ⟨L, hL⟩ : ∃ L, L = w.heap.size + 1 := ⟨_, rfl⟩
 obtain ⟨V, hV⟩ : ∃ V, V = (w.alloc (.deferred (some []))).alloc (.loop (R .ready none)) := ⟨_, rfl⟩
 have hVL : V.heap[L]? = some (.loop (R .ready none)) := by
  have := World.alloc_heap_new (w.alloc (.deferred (some []))) (.loop (R .ready none))
  rw [World.size_alloc] at this
  rw [hV, hL]; exact this
 have hVD : V.heap[w.heap.size]? = some (.deferred (some [])) := by
  rw [hV]; exact (Below.heap_alloc _ _ _ (by simp)).trans (World.alloc_heap_new w _)
 have hVs : V.heap.size = w.heap.size + 2 := by rw [hV]; simp
 have hIV : I [] V := by rw [hV]; exact OwnFrom.alloc (s := ()) (hI _) _ (OwnFrom.alloc (s := ()) (hI _) _ h0)
 have hbV : Below w0.heap.size w0 V := by
  rw [hV]; exact hb0.trans ((((Below.refl _ w).alloc (Nat.le_refl _) _).alloc (by simp) _).mono hb0.size)
 refine ⟨L, [{ target := .collected w.heap.size, args := #[] }], V, { target := .fn (.func gf) lb, args := #[.func (.yield L) #[] #[]] }, V, gf, #[.func (.yield L) #[] #[]] ++ lb, V, ?_, ?_, ?_, ?_, fun _ => h1, ?_⟩
 ·rw [hV, hR, hL]; exact run_enterLoop_outer _ _ _ _ _
 ·simp only [resolve, hg]
  simp [go_sem]
 ·intro f' hf'
  simp [Target.leads] at hf'
  subst hf'
  exact hFg
 ·simp [invoke, go_sem, eg]
 ·
  have stay : ∀ {X Y : World} {row : Option Nat} {k : Nat} {o : Obj}, k < V.heap.size → X.grownBy Y row → (∀ r, row = some r → V.heap.size ≤ r ∧ ∃ o : Obj, X.heap[r]? = some o ∧ o.isCells = false) → X.heap[k]? = some o → Y.heap[k]? = some o := fun hk hgr hr hX =>
   (hgr.block _ (Array.getElem?_eq_some_iff.1 hX).1 (fun e => by have := (hr _ e.symm).1; omega)).trans hX
  refine (hseq L (fun pre W => I pre W ∧ W.heap[L]? = some (.loop (R .ready none)) ∧ W.heap[w.heap.size]? = some (.deferred (some []))) V hbV
   (fun xs s X Y row hs hgr hr => ⟨(hI xs).of (by omega) () X Y row hs.1 hgr hr, stay (by omega) hgr hr hs.2.1, stay (by omega) hgr hr hs.2.2⟩) ?_ ⟨hIV, hVL, hVD⟩).mono ?_
  ·rintro pre x W hf ⟨hi, hl, hk⟩ hlen
   have hlt : L < W.heap.size := (Array.getElem?_eq_some_iff.1 hl).1
   have hy := run_yield (P := P) (args := encs x) hl (by rw [hR]; exact hps x)
   rw [hR] at hy
   refine ⟨fn, _, assign, body, hy, roundIn_of_wpIn hfn (hassign _ x W _ ⟨_, run_beginRound hl (by rw [hR]), ?_⟩)⟩
   have hl2 : (W.putObj L (.loop { R .ready none with state := .busy })).heap[L]? = some (.loop { R .ready none with state := .busy }) := World.putObj_heap_same hlt
   have hk2 : (W.putObj L (.loop { R .ready none with state := .busy })).heap[w.heap.size]? = some (.deferred (some [])) := (World.putObj_heap_other (by omega)).trans hk
   refine wpIn_mono (hbody _ pre x _ (OwnFrom.putObj (s := ()) (hok x) _ hf (by omega) hl rfl) (OwnFrom.putObj (s := ()) (hI pre) _ hi (by omega) hl rfl) hlen) ?_
   rintro e a3 W3 hp
   cases e with
   | normal =>
    obtain ⟨hk3, hkp, hi3⟩ := hp
    have hl3 := hk3.same _ _ hl2 rfl
    have he := run_endRound (P := P) none hl3
    refine ⟨_, _, he, rfl, ⟨OwnFrom.putObj (s := ()) (hI _) _ hi3 (by omega) hl3 rfl, ?_, (World.putObj_heap_other (by omega)).trans (hk3.same _ _ hk2 rfl)⟩, hKt (hKt (hKb _ _ _ _ (by omega) hl rfl) hkp) (hKb _ _ _ _ (by omega) hl3 rfl)⟩
    rw [World.putObj_heap_same (Array.getElem?_eq_some_iff.1 hl3).1, hR]
    rfl
   | ret => exact hp.elim
   | exit id => exact hp.elim
   | goto t => exact hp.elim
   | panic ch => exact hp.elim
   | outgrown => exact hp.elim
  ·rintro e W2 ⟨⟨v, rfl⟩, xs, hS, hi, hl, hk⟩
   have he := run_endLoop (P := P) hl (by rw [hR]; simp)
   rw [hR] at he
   exact ⟨none, _, he, hdone _ xs _ (Nat.le_refl _) hS (OwnFrom.putObj (s := ()) (hI _) _ hi (by omega) hl rfl) ((World.putObj_heap_other (by omega)).trans hk)⟩
abbrev El := (Option Addr × Nat × Nat) × Txt
def elOk (B : Nat) (x : El) (W : World) : Prop := OwnTxt W B x.1.1 x.1.2.1 x.1.2.2 x.2 ∧ ∀ z ∈ x.2, isByte z
theorem OwnTxt.turned {W Y : World} {B : Nat} {A : Option Addr} {n c : Nat} {T : Txt} {row : Option Nat} (h : OwnTxt W B A n c T) (hg : W.grownBy Y row) (hr : ∀ r, row = some r → ∃ o : Obj, W.heap[r]? = some o ∧ o.isCells = false) : OwnTxt Y B A n c T :=
 h.keep fun g _ hu => hg.block g hu.lt fun e => by
  obtain ⟨o, ho, hc⟩ := hr g e.symm
  obtain ⟨cs, hcs⟩ := hu
  rw [hcs] at ho
  injection ho with ho
  rw [← ho] at hc
  cases hc
theorem elOk_abide (B B' : Nat) (x : El) : AbideW B' (elOk B x) := fun _ X Y row hs hg hr => ⟨hs.1.turned hg fun r e => (hr r e).2, hs.2⟩
structure NBox (W : World) (G : Nat) (D : Option Addr) (nd c : Nat) (D' : Option Addr) (n' c' : Nat) (a many g : Int) : Prop where
 d0 : W.cell? ⟨G, 0, none⟩ = some (.slice D nd c)
 d1 : W.cell? ⟨G, 1, none⟩ = some (.slice D' n' c')
 a : W.cell? ⟨G + 1, 0, none⟩ = some (.int .i64 a)
 m : W.cell? ⟨G + 2, 0, none⟩ = some (.int .i64 many)
 g : W.cell? ⟨G + 3, 0, none⟩ = some (.int .u64 g)
def KpN (ne G : Nat) (W W' : World) : Prop := Below ne W W' ∧ ∀ p : Addr, G ≤ p.block → p.block < G + 4 → W'.cell? p = W.cell? p
theorem KpN.trans {ne G : Nat} {A B C : World} (h : KpN ne G A B) (k : KpN ne G B C) : KpN ne G A C := ⟨h.1.trans k.1, fun p h1 h2 => (k.2 p h1 h2).trans (h.2 p h1 h2)⟩
theorem KpN.of {ne G : Nat} {W W' : World} {B : Nat} (h : Below B W W') (h1 : ne ≤ B) (h2 : G + 4 ≤ B) : KpN ne G W W' := ⟨h.mono h1, fun p _ hp => h.cell (by omega)⟩
theorem NBox.kept {W W' : World} {ne G : Nat} {D : Option Addr} {nd c : Nat} {D' : Option Addr} {n' c' : Nat} {a many g : Int} (x : NBox W G D nd c D' n' c' a many g) (k : KpN ne G W W') : NBox W' G D nd c D' n' c' a many g :=
 ⟨(k.2 ⟨G, 0, none⟩ (Nat.le_refl _) (by show G < _; omega)).trans x.d0, (k.2 ⟨G, 1, none⟩ (Nat.le_refl _) (by show G < _; omega)).trans x.d1, (k.2 ⟨G + 1, 0, none⟩ (by show G ≤ G + 1; omega) (by show G + 1 < _; omega)).trans x.a,
  (k.2 ⟨G + 2, 0, none⟩ (by show G ≤ G + 2; omega) (by show G + 2 < _; omega)).trans x.m, (k.2 ⟨G + 3, 0, none⟩ (by show G ≤ G + 3; omega) (by show G + 3 < _; omega)).trans x.g⟩
theorem range_all {f : Nat → Txt} {k : Nat} (h : ∀ j, j < k → f j ≠ []) : (List.range k).map f = jN f k := by
 unfold jN
 rw [jM_is (Nat.le_refl _) h (.inl rfl)]
theorem range_end {f : Nat → Txt} {k m : Nat} (hm : k ≤ m) (h : ∀ j, j < k → f j ≠ []) (h0 : f k = []) : (List.range k).map f = jN f m := by
 unfold jN
 rw [jM_is hm h (.inr h0)]
theorem assert_fn (E : Int) (w : World) : (Instr.typeAssert (faultV E) 216 219 true).run Tryz.prog w = .ok (.tuple #[.agg #[.int .u64 0, .int .i64 0, .slice none 0 0], .bool false]) w := by kernel_rfl
theorem assert_ff (E : Int) (w : World) : (Instr.typeAssert (faultV E) 216 220 true).run Tryz.prog w = .ok (.tuple #[.int .i64 E, .bool true]) w := by kernel_rfl
theorem assert_nn (g n : Int) (A : Option Addr) (k c : Nat) (w : World) : (Instr.typeAssert (noteV g n A k c) 216 219 true).run Tryz.prog w = .ok (.tuple #[.agg #[.int .u64 g, .int .i64 n, .slice A k c], .bool true]) w := by kernel_rfl
theorem opt_good {w : World} {D : Option Addr} {n c : Nat} {D' : Option Addr} {n' c' : Nat} {S : List Sec} {C : List Pnd} (hq : Dsk w D n c D' n' c' S C) {a : Int} {t : Txt} (ho : optAt S C a = some t) : t.length = 32 ∧ ∀ z ∈ t, isByte z := by
 have h0 : rdE S C a = 0 := by
  unfold optAt at ho
  split at ho
  ·assumption
  ·cases ho
 have hgood := rd_good h0 hq.secs.byte hq.pnds.byte
 have ht : rdB S C a = t := by
  unfold optAt at ho
  rw [if_pos h0] at ho
  injection ho
 rwa [ht] at hgood
theorem note_no {w : World} {D : Option Addr} {n c : Nat} {D' : Option Addr} {n' c' : Nat} {S : List Sec} {C : List Pnd} (hq : Dsk w D n c D' n' c' S C) {a g : Int} {k : Nat} (hg : isG g) (hk : k ≤ 255) (hno : noAt (optAt S C a)) : noteO g k (optAt S C a) = [] := by
 cases ho : optAt S C a with
 | none => rfl
 | some t =>
  obtain ⟨h1, h2⟩ := opt_good hq ho
  exact (rd_note h1 h2 hg ⟨by omega, by omega⟩).2 (hno t ho)
theorem note_yes {w : World} {D : Option Addr} {n c : Nat} {D' : Option Addr} {n' c' : Nat} {S : List Sec} {C : List Pnd} (hq : Dsk w D n c D' n' c' S C) {a g : Int} {k : Nat} {t : Txt} (hg : isG g) (hk : k ≤ 255) (ho : optAt S C a = some t) (hok : rdOk t) :
  noteO g k (optAt S C a) = if g = val (t.take 8) ∧ (k : Int) = t.getD 9 0 then rdTx t else [] := by
 obtain ⟨h1, h2⟩ := opt_good hq ho
 rw [ho]
 exact (rd_note h1 h2 hg ⟨by omega, by omega⟩).1 hok
theorem rdTx_some {t : Txt} (h : t.length = 32) (hok : rdOk t) : rdTx t ≠ [] := fun e => by
 have h1 := rdTx_length h
 rw [e] at h1
 have h2 := hok.1
 unfold rdM at h1
 simp only [List.length_nil] at h1
 omega
theorem notes1_each (n ne G many : Nat) (D : Option Addr) (nd c : Nat) (D' : Option Addr) (n' c' : Nat) (S : List Sec) (C : List Pnd) (a0 : Int) (g : Int) (f : Nat → Txt) (we w : World) (hn : 2 ≤ n) (hmany : many ≤ 100) (ha0 : 0 ≤ a0 ∧ a0 ≤ 1000) (hd : Dsk we D nd c D' n' c' S C) (hs : SmallD S C) (hg : isG g)
  (hf : ∀ k : Nat, f k = noteO g k (optAt S C (a0 + k))) (hne : ne = we.heap.size) (hbe : Below ne we w) (hG1 : ne ≤ G) (hG2 : G + 4 ≤ w.heap.size) (x : NBox w G D nd c D' n' c' a0 many g) :
  EachOf Fence.wide n Tryz.prog 126 #[.pointer (some ⟨G + 2, 0, none⟩), .pointer (some ⟨G, 0, none⟩), .pointer (some ⟨G + 1, 0, none⟩), .pointer (some ⟨G + 3, 0, none⟩)] (fun x : El => #[.slice x.1.1 x.1.2.1 x.1.2.2]) (elOk w.heap.size) (KpN ne G) (fun xs => xs.map (·.2) = jN f many) many w := by
 intro l J W hW hJ hY h0
 have hWs := hW.size
 have hX := x.kept (KpN.of (ne := ne) hW (by omega) hG2)
 have hBW := hbe.trans (hW.mono (show ne ≤ w.heap.size by omega))
 have HY := Lh hY
 have HJ := Lh hJ
 have HF := Lh hf
 have HD := Lh hd
 have HS := Lh hs
 have HG := Lh hg
 have HNE := Lh hne
 clear hY hJ hf hd hs hg hW hbe x
 refine callsIn_of_wp Tryz.func126 rfl trivial ?_ rfl
 simp only [Tryz.ntmps126, List.size_toArray, List.length_cons, List.length_nil, Nat.reduceAdd, Nat.reduceSub, Array.replicate_succ, Array.replicate_zero, List.push_toArray, List.append_toArray, List.nil_append, List.cons_append]
 have xm := hX.m
 gi_wp2
 gi_loopw [10] (fun i wr => ∃ (k : Nat) (pre : List El), k ≤ many ∧ i = .int .i64 k ∧ J pre wr ∧ pre.map (·.2) = (List.range k).map f ∧ (∀ j, j < k → f j ≠ []) ∧ W.heap.size ≤ wr.heap.size ∧ Below ne we wr ∧ NBox wr G D nd c D' n' c' a0 many g) (fun i _ => many - (intOf i).toNat)
 case atStart => exact ⟨0, [], Nat.zero_le _, rfl, h0, rfl, fun j h => absurd h (Nat.not_lt_zero _), Nat.le_refl _, hBW, hX⟩
 case round =>
  obtain ⟨k, pre, hk, rfl, hJs, hpm, hall, hsz, hbw, hx⟩ := hrel
  clear hX hBW xm h0
  have PM := Lh hpm
  have ALL := Lh hall
  have JS := Lh hJs
  have BW := Lh hbw
  by_cases hkm : k < many
  ·have HX := Lh hx
   obtain ⟨d0, d1, xa, xm, xg⟩ := hx
   obtain ⟨kk, hkk⟩ := Int.eq_ofNat_of_zero_le (show 0 ≤ a0 + (k : Int) by omega)
   have e1 : IntKind.i64.wrap (a0 + (k : Int)) = a0 + (k : Int) := by rw [hkk]; exact Lib.wrap_i64_small kk (by omega)
   have e2 : IntKind.i64.wrap ((k : Int) + 1) = (k : Int) + 1 := by rw [show (k : Int) + 1 = ((k + 1 : Nat) : Int) by omega]; exact Lib.wrap_i64_small (k + 1) (by omega)
   have hfk := HF.out k
   have hdw : Dsk wr D nd c D' n' c' S C := HD.out.below (by rw [← HNE.out]; exact hbw)
   clear hkk
   clear hpm hall hJs hbw
   by_cases hno : noAt (optAt S C (a0 + (k : Int)))
   ·have R := Lh (readat_no D nd c D' n' c' S C (a0 + (k : Int)) wr hdw HS.out hno)
    rw [note_no HD.out HG.out (by omega) hno] at hfk
    have FIN := Lh (range_end (Nat.le_of_lt hkm) ALL.out hfk)
    clear hno hfk hdw
    have tfn := assert_fn
    have tff := assert_ff
    gi_wp2_with (refine ⟨trivial, fun _ => (by omega), ?_⟩; gi_at_call 127; refine (callsIn_wide.2 R.out).mono ?_; rintro e w2 ⟨⟨E, rfl⟩, hb2⟩)
    have J2 := Lh (HJ.out pre () _ _ none JS.out (grown_of_below hb2) (by simp))
    clear hb2
    gi_wp2
    refine bodyPost_ret (results_none rfl _ _ _) rfl ?_
    exact ⟨⟨_, rfl⟩, pre, by rw [PM.out]; exact FIN.out, J2.out⟩
   ·obtain ⟨t, ho, hok⟩ : ∃ t, optAt S C (a0 + (k : Int)) = some t ∧ rdOk t := Classical.byContradiction fun h => hno fun t ht hk => h ⟨t, ht, hk⟩
    obtain ⟨hl, hby⟩ := opt_good HD.out ho
    have R := Lh (readat_yes D nd c D' n' c' S C (a0 + (k : Int)) t wr hdw HS.out ho hok)
    rw [note_yes HD.out HG.out (by omega) ho hok] at hfk
    have HT0 := Lh (rdTx_some hl hok)
    have HTB := Lh (rdTx_byte hby)
    obtain ⟨gv, hgv⟩ : ∃ x, x = val (t.take 8) := ⟨_, rfl⟩
    obtain ⟨nv, hnv⟩ : ∃ x, x = t.getD 9 0 := ⟨_, rfl⟩
    obtain ⟨m, hm⟩ : ∃ m, m = rdM t := ⟨_, rfl⟩
    obtain ⟨T, hT⟩ : ∃ T, T = rdTx t := ⟨_, rfl⟩
    rw [← hgv, ← hnv, ← hm, ← hT] at R
    rw [← hgv, ← hnv, ← hT] at hfk
    rw [← hT] at HT0 HTB
    clear hno hdw ho hok hl hby hgv hnv hm hT
    have tnn := assert_nn
    by_cases hge : gv = g
    ·subst hge
     by_cases hne : nv = (k : Int)
     ·subst hne
      rw [if_pos ⟨rfl, rfl⟩] at hfk
      have HFK := Lh hfk
      have hlen : pre.length = k := by
       have := congrArg List.length PM.out
       simpa using this
      have hlen2 : pre.length < many := by omega
      have HL := Lh hlen2
      clear hfk hlen hlen2
      gi_wp2_with (refine ⟨trivial, fun _ => (by omega), ?_⟩; gi_at_call 127; refine (callsIn_wide.2 R.out).mono ?_; rintro e w2 ⟨⟨A2, rfl, hown⟩, hb2⟩; have hs2 := hb2.size; have hX2 := HX.out.kept (KpN.of (ne := ne) hb2 (by omega) (by omega)); have hbA := (Below.refl w2.heap.size w2).alloc (Nat.le_refl _) (.cells #[.int .u64 gv, .int .i64 (k : Int), .slice A2 m m] 219); have hX3 := hX2.kept (KpN.of (ne := ne) hbA (by omega) (by omega)); have xg3 := hX3.g; have J2 := HJ.out pre () _ _ none JS.out (grown_of_below hb2) (by simp); have J3 := Lh (HJ.out pre () _ _ none J2 (grown_of_below hbA) (by simp)); obtain ⟨fn, tmps, assign, body, hy, hR⟩ := HY.out pre ((A2, m, m), T) _ ⟨(hown.below hbA).lower (by omega), HTB.out⟩ J3.out HL.out; have HR := Lh hR; have BW2 := Lh (BW.out.trans ((hb2.mono (show ne ≤ wr.heap.size by omega)).trans (hbA.mono (show ne ≤ w2.heap.size by omega)))); have HX3 := Lh hX3; have hsz3 := hbA.size; clear hR hown hX3; clear J2 d0 d1 xa xm xg hX2)
      refine ⟨fun _ => (by omega), ?_⟩
      refine HR.out.mono ?_
      rintro e W3 ⟨rfl, hJ3, hk3⟩
      have J4 := Lh hJ3
      have K4 := Lh hk3
      clear hJ3 hk3
      gi_wp2
      go_roundw
      case rel =>
       have hs3 := K4.out.1.size
       refine ⟨k + 1, pre ++ [((A2, m, m), T)], by omega, by go_num, J4.out, ?_, fun j hj => ?_, by omega, BW2.out.trans K4.out.1, HX3.out.kept K4.out⟩
       ·rw [List.map_append, PM.out, List.range_succ, List.map_append, List.map_cons, List.map_nil, List.map_cons, List.map_nil, HFK.out]
       ·rcases Nat.lt_or_ge j k with h | h
        ·exact ALL.out j h
        ·obtain rfl : j = k := by omega
         rw [HFK.out]
         exact HT0.out
      case measure => simp [intOf]; omega
     ·rw [if_neg (fun h => hne h.2.symm)] at hfk
      have hgn : ¬ nv = (k : Int) := hne
      have FIN := Lh (range_end (Nat.le_of_lt hkm) ALL.out hfk)
      clear hfk
      gi_wp2_with (refine ⟨trivial, fun _ => (by omega), ?_⟩; gi_at_call 127; refine (callsIn_wide.2 R.out).mono ?_; rintro e w2 ⟨⟨A2, rfl, hown⟩, hb2⟩; have hs2 := hb2.size; have hX2 := HX.out.kept (KpN.of (ne := ne) hb2 (by omega) (by omega)); have hbA := (Below.refl w2.heap.size w2).alloc (Nat.le_refl _) (.cells #[.int .u64 gv, .int .i64 nv, .slice A2 m m] 219); have hX3 := hX2.kept (KpN.of (ne := ne) hbA (by omega) (by omega)); have xg3 := hX3.g; have J2 := HJ.out pre () _ _ none JS.out (grown_of_below hb2) (by simp); have J3 := Lh (HJ.out pre () _ _ none J2 (grown_of_below hbA) (by simp)); clear J2 d0 d1 xa xm xg hX2)
      refine ⟨fun _ h => (by cases h), ?_⟩
      gi_wp2
      refine bodyPost_ret (results_none rfl _ _ _) rfl ?_
      exact ⟨⟨_, rfl⟩, pre, by rw [PM.out]; exact FIN.out, J3.out⟩
    ·rw [if_neg (fun h => hge h.1.symm)] at hfk
     have hgn : ¬ gv = g := hge
     have FIN := Lh (range_end (Nat.le_of_lt hkm) ALL.out hfk)
     clear hfk
     gi_wp2_with (refine ⟨trivial, fun _ => (by omega), ?_⟩; gi_at_call 127; refine (callsIn_wide.2 R.out).mono ?_; rintro e w2 ⟨⟨A2, rfl, hown⟩, hb2⟩; have hs2 := hb2.size; have hX2 := HX.out.kept (KpN.of (ne := ne) hb2 (by omega) (by omega)); have hbA := (Below.refl w2.heap.size w2).alloc (Nat.le_refl _) (.cells #[.int .u64 gv, .int .i64 nv, .slice A2 m m] 219); have hX3 := hX2.kept (KpN.of (ne := ne) hbA (by omega) (by omega)); have xg3 := hX3.g; have J2 := HJ.out pre () _ _ none JS.out (grown_of_below hb2) (by simp); have J3 := Lh (HJ.out pre () _ _ none J2 (grown_of_below hbA) (by simp)); clear J2 d0 d1 xa xm xg hX2)
     refine ⟨fun _ h => (by cases h), ?_⟩
     gi_wp2
     refine bodyPost_ret (results_none rfl _ _ _) rfl ?_
     exact ⟨⟨_, rfl⟩, pre, by rw [PM.out]; exact FIN.out, J3.out⟩
  ·obtain rfl : k = many := by omega
   clear hpm hall hJs hbw hx
   gi_wp2
   go_end0
   exact ⟨⟨_, rfl⟩, pre, by rw [PM.out]; exact range_all ALL.out, JS.out⟩
theorem boxes3n (w : World) (v1 v2 v3 : Value) (t1 t2 t3 : TypeId) :
  (((w.alloc (.cells #[v1] t1)).alloc (.cells #[v2] t2)).alloc (.cells #[v3] t3)).cell? ⟨w.heap.size, 0, none⟩ = some v1 ∧
  (((w.alloc (.cells #[v1] t1)).alloc (.cells #[v2] t2)).alloc (.cells #[v3] t3)).cell? ⟨w.heap.size + 1, 0, none⟩ = some v2 ∧
  (((w.alloc (.cells #[v1] t1)).alloc (.cells #[v2] t2)).alloc (.cells #[v3] t3)).cell? ⟨w.heap.size + 2, 0, none⟩ = some v3 ∧
  Below w.heap.size w (((w.alloc (.cells #[v1] t1)).alloc (.cells #[v2] t2)).alloc (.cells #[v3] t3)) ∧
  (((w.alloc (.cells #[v1] t1)).alloc (.cells #[v2] t2)).alloc (.cells #[v3] t3)).heap.size = w.heap.size + 3 := by
 have a1 := Blk.new w t1 [v1]
 have a2 := Blk.new (w.alloc (.cells #[v1] t1)) t2 [v2]
 have a3 := Blk.new ((w.alloc (.cells #[v1] t1)).alloc (.cells #[v2] t2)) t3 [v3]
 simp only [World.size_alloc] at a2 a3
 have k1 := (Below.refl (w.alloc (.cells #[v1] t1)).heap.size _).alloc (Nat.le_refl _) (.cells #[v2] t2)
 have k2 := (Below.refl ((w.alloc (.cells #[v1] t1)).alloc (.cells #[v2] t2)).heap.size _).alloc (Nat.le_refl _) (.cells #[v3] t3)
 refine ⟨((a1.below k1 a1.lt).below k2 (by simp; omega)).cell 0, (a2.below k2 (by simp)).cell 0, a3.cell 0, ?_, by simp⟩
 exact (((Below.refl _ _).alloc (Nat.le_refl _) _).alloc (by simp) _).alloc (by simp; omega) _
theorem notes_any (D : Option Addr) (nd c : Nat) (D' : Option Addr) (n' c' : Nat) (a many g : Int) (w : World) :
  Calls Tryz.prog 82 #[diskV D nd c D' n' c', .int .i64 a, .int .i64 many, .int .u64 g] w fun e w' =>
   e = .returned (.func (.func 126) #[] #[.pointer (some ⟨w.heap.size + 2, 0, none⟩), .pointer (some ⟨w.heap.size, 0, none⟩), .pointer (some ⟨w.heap.size + 1, 0, none⟩), .pointer (some ⟨w.heap.size + 3, 0, none⟩)]) ∧
   NBox w' w.heap.size D nd c D' n' c' a many g ∧ Below w.heap.size w w' ∧ w.heap.size + 4 ≤ w'.heap.size := by
 have x0 := Blk.new w 25 [.slice D nd c, .slice D' n' c']
 have b0 : Below w.heap.size w (w.alloc (.cells #[.slice D nd c, .slice D' n' c'] 25)) := (Below.refl _ _).alloc (Nat.le_refl _) _
 obtain ⟨w0, hw0⟩ : ∃ x, x = w.alloc (.cells #[.slice D nd c, .slice D' n' c'] 25) := ⟨_, rfl⟩
 have hs0 : w0.heap.size = w.heap.size + 1 := by rw [hw0]; simp
 obtain ⟨b1, b2, b3, b4, b5⟩ := boxes3n w0 (.int .i64 a) (.int .i64 many) (.int .u64 g) 3 3 27
 rw [← hw0] at x0 b0
 have x1 := x0.below b4 (by omega)
 have d0 := x1.cell 0
 have d1 := x1.cell 1
 simp only [List.getElem?_cons_zero, List.getElem?_cons_succ] at d0 d1
 rw [hs0] at b1 b2 b3 b5
 have X := Lh (show NBox (((w0.alloc (.cells #[.int .i64 a] 3)).alloc (.cells #[.int .i64 many] 3)).alloc (.cells #[.int .u64 g] 27)) w.heap.size D nd c D' n' c' a many g from ⟨d0, d1, b1, b2, b3⟩)
 have B := Lh (b0.trans (b4.mono (by omega)))
 have HS := Lh b5
 clear b1 b2 b3 b4 b5 x0 x1 d0 d1 b0 hs0
 subst hw0
 go_enter Tryz.func82, Tryz.ntmps82
 go_wp2
 go_ret
 exact ⟨rfl, X.out, B.out, by rw [HS.out]; omega⟩
end Go.Proofs.YtifgcfepbenpjaaGreat
