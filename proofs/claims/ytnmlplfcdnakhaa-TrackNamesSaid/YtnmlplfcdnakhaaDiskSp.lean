/- Layer 5: disks written over: rows of structs whose texts turn. -/
import Derived.Test.YtnmlplfcdnakhaaDiskR9
namespace Go.Proofs.Ytnmlplfcdnakhaa
open Go.RowKit
set_option linter.unusedVariables false

/-- One of them: its cells, and its row of bytes. -/
theorem OwnSecs.row {w : World} {base : Nat} {A : Option Addr} {n c : Nat} {ss : List Sec} (h : OwnSecs w base A n c ss) {i : Nat} (hi : i < n) :
    ∃ gA Ai ni ci, A = some ⟨gA, 0, none⟩ ∧ base ≤ gA ∧ w.cell? ⟨gA, i * 2, none⟩ = some (.slice Ai ni ci) ∧ w.cell? ⟨gA, i * 2 + 1, none⟩ = some (.bool (ss.getD i (false, [])).1) ∧ w.frozen? ⟨gA, i * 2 + 1, none⟩ = false ∧ OwnTxt w base Ai ni ci (ss.getD i (false, [])).2 ∧ (ss.getD i (false, [])).2.length = ni ∧ ni ≤ ci ∧ ci ≤ maxLen := by
  obtain ⟨vs, hown, hl, hby, hin⟩ := h
  obtain ⟨Ai, ni, ci, hv, hx, ho⟩ := hin i hi
  obtain ⟨g, u, e, hbg, _⟩ := owns_at2 hown (show i * 2 < n * 2 by omega)
  obtain ⟨b, e', hlt, hc⟩ := owns_cell hown hv
  obtain ⟨b', e'', _, hcx⟩ := owns_cell hown hx
  rw [e] at e' e''
  cases e'
  cases e''
  have hni : (ss.getD i (false, [])).2.length = ni := ho.1
  have harg := ho.arg
  subst e
  exact ⟨g, Ai, ni, ci, rfl, hbg, hc, hcx, hown.frozenAt _, ho, hni, harg.cap, harg.max⟩

/-- A byte of a row of the call's own is written over: they stay, their texts as long as they were. -/
theorem OwnSecs.touch {w : World} {base g : Nat} {A : Option Addr} {n c : Nat} {ss : List Sec} (h : OwnSecs w base A n c ss) (hu : U8 w g) (k : Nat) {z : Int} (hz : isByte z) :
    ∃ ss', OwnSecs (w.setCell ⟨g, k, none⟩ (.int .u8 z)) base A n c ss' ∧ ss'.length = n ∧ ∀ j, (ss'.getD j (false, [])).2.length = (ss.getD j (false, [])).2.length := by
  obtain ⟨vs, hown, hl, hby, hin⟩ := h
  obtain ⟨f, hf⟩ : ∃ f : Nat → List Int → List Int, f = fun j zs => match vs.getD (j * 2) undef with | .slice Aj _ _ => touchL Aj g k z zs | _ => zs := ⟨_, rfl⟩
  have hfl : ∀ j zs, (f j zs).length = zs.length := fun j zs => by
    rw [hf]
    dsimp only
    split
    · exact touchL_len ..
    · rfl
  have hfb : ∀ j zs, (∀ y ∈ zs, isByte y) → ∀ y ∈ f j zs, isByte y := fun j zs hb => by
    rw [hf]
    dsimp only
    split
    · exact touchL_byte _ g k hz hb
    · exact hb
  have e1 : ∀ j, j < n → ((List.range n).map fun j => ((ss.getD j (false, [])).1, f j (ss.getD j (false, [])).2)).getD j (false, []) = ((ss.getD j (false, [])).1, f j (ss.getD j (false, [])).2) := fun j hj => by
    simp [List.getD_eq_getElem?_getD, hj]
  refine ⟨(List.range n).map fun j => ((ss.getD j (false, [])).1, f j (ss.getD j (false, [])).2), ⟨vs, ?_, by simp, ?_, fun j hj => ?_⟩, by simp, fun j => ?_⟩
  · refine owns_keep hown fun g' cs _ hc => Below.heap_setCell w _ _ g' (fun e => ?_)
    subst e
    obtain ⟨cs', hc'⟩ := hu
    rw [hc] at hc'
    simp at hc'
  · intro s hs y hy
    obtain ⟨j, hj, rfl⟩ := List.mem_map.1 hs
    have hjn := List.mem_range.1 hj
    exact hfb j _ (fun y hy => hby (ss.getD j (false, [])) (by
      rw [List.getD_eq_getElem?_getD, List.getElem?_eq_getElem (by omega)]
      exact List.getElem_mem _) y hy) y hy
  · obtain ⟨Aj, nj, cj, hvj, hxj, hoj⟩ := hin j hj
    have e2 : vs.getD (j * 2) undef = .slice Aj nj cj := by rw [List.getD_eq_getElem?_getD, hvj]; rfl
    have e3 : f j (ss.getD j (false, [])).2 = touchL Aj g k z (ss.getD j (false, [])).2 := by rw [hf]; dsimp only; rw [e2]
    rw [e1 j hj, e3]
    exact ⟨Aj, nj, cj, hvj, hxj, hoj.touch z⟩
  · rcases Nat.lt_or_ge j n with hj | hj
    · rw [e1 j hj]
      exact hfl j _
    · have e4 : ((List.range n).map fun j => ((ss.getD j (false, [])).1, f j (ss.getD j (false, [])).2)).getD j (false, []) = (false, []) := by
        simp [List.getD_eq_getElem?_getD, hj]
      have e5 : ss.getD j (false, []) = (false, []) := by simp [List.getD_eq_getElem?_getD, hl, hj]
      rw [e4, e5]

/-- One of them: its cells, and its row of bytes. -/
theorem OwnPnds.row {w : World} {base : Nat} {A : Option Addr} {n c : Nat} {ss : List Pnd} (h : OwnPnds w base A n c ss) {i : Nat} (hi : i < n) :
    ∃ gA Ai ni ci, A = some ⟨gA, 0, none⟩ ∧ base ≤ gA ∧ w.cell? ⟨gA, i * 2 + 1, none⟩ = some (.slice Ai ni ci) ∧ w.cell? ⟨gA, i * 2, none⟩ = some (.int .i64 (ss.getD i (0, [])).1) ∧ w.frozen? ⟨gA, i * 2, none⟩ = false ∧ OwnTxt w base Ai ni ci (ss.getD i (0, [])).2 ∧ (ss.getD i (0, [])).2.length = ni ∧ ni ≤ ci ∧ ci ≤ maxLen := by
  obtain ⟨vs, hown, hl, hby, hin⟩ := h
  obtain ⟨Ai, ni, ci, hv, hx, ho⟩ := hin i hi
  obtain ⟨g, u, e, hbg, _⟩ := owns_at2 hown (show i * 2 < n * 2 by omega)
  obtain ⟨b, e', hlt, hc⟩ := owns_cell hown hv
  obtain ⟨b', e'', _, hcx⟩ := owns_cell hown hx
  rw [e] at e' e''
  cases e'
  cases e''
  have hni : (ss.getD i (0, [])).2.length = ni := ho.1
  have harg := ho.arg
  subst e
  exact ⟨g, Ai, ni, ci, rfl, hbg, hc, hcx, hown.frozenAt _, ho, hni, harg.cap, harg.max⟩

/-- A byte of a row of the call's own is written over: they stay, their texts as long as they were. -/
theorem OwnPnds.touch {w : World} {base g : Nat} {A : Option Addr} {n c : Nat} {ss : List Pnd} (h : OwnPnds w base A n c ss) (hu : U8 w g) (k : Nat) {z : Int} (hz : isByte z) :
    ∃ ss', OwnPnds (w.setCell ⟨g, k, none⟩ (.int .u8 z)) base A n c ss' ∧ ss'.length = n ∧ ∀ j, (ss'.getD j (0, [])).2.length = (ss.getD j (0, [])).2.length := by
  obtain ⟨vs, hown, hl, hby, hin⟩ := h
  obtain ⟨f, hf⟩ : ∃ f : Nat → List Int → List Int, f = fun j zs => match vs.getD (j * 2 + 1) undef with | .slice Aj _ _ => touchL Aj g k z zs | _ => zs := ⟨_, rfl⟩
  have hfl : ∀ j zs, (f j zs).length = zs.length := fun j zs => by
    rw [hf]
    dsimp only
    split
    · exact touchL_len ..
    · rfl
  have hfb : ∀ j zs, (∀ y ∈ zs, isByte y) → ∀ y ∈ f j zs, isByte y := fun j zs hb => by
    rw [hf]
    dsimp only
    split
    · exact touchL_byte _ g k hz hb
    · exact hb
  have e1 : ∀ j, j < n → ((List.range n).map fun j => ((ss.getD j (0, [])).1, f j (ss.getD j (0, [])).2)).getD j (0, []) = ((ss.getD j (0, [])).1, f j (ss.getD j (0, [])).2) := fun j hj => by
    simp [List.getD_eq_getElem?_getD, hj]
  refine ⟨(List.range n).map fun j => ((ss.getD j (0, [])).1, f j (ss.getD j (0, [])).2), ⟨vs, ?_, by simp, ?_, fun j hj => ?_⟩, by simp, fun j => ?_⟩
  · refine owns_keep hown fun g' cs _ hc => Below.heap_setCell w _ _ g' (fun e => ?_)
    subst e
    obtain ⟨cs', hc'⟩ := hu
    rw [hc] at hc'
    simp at hc'
  · intro s hs y hy
    obtain ⟨j, hj, rfl⟩ := List.mem_map.1 hs
    have hjn := List.mem_range.1 hj
    exact hfb j _ (fun y hy => hby (ss.getD j (0, [])) (by
      rw [List.getD_eq_getElem?_getD, List.getElem?_eq_getElem (by omega)]
      exact List.getElem_mem _) y hy) y hy
  · obtain ⟨Aj, nj, cj, hvj, hxj, hoj⟩ := hin j hj
    have e2 : vs.getD (j * 2 + 1) undef = .slice Aj nj cj := by rw [List.getD_eq_getElem?_getD, hvj]; rfl
    have e3 : f j (ss.getD j (0, [])).2 = touchL Aj g k z (ss.getD j (0, [])).2 := by rw [hf]; dsimp only; rw [e2]
    rw [e1 j hj, e3]
    exact ⟨Aj, nj, cj, hvj, hxj, hoj.touch z⟩
  · rcases Nat.lt_or_ge j n with hj | hj
    · rw [e1 j hj]
      exact hfl j _
    · have e4 : ((List.range n).map fun j => ((ss.getD j (0, [])).1, f j (ss.getD j (0, [])).2)).getD j (0, []) = (0, []) := by
        simp [List.getD_eq_getElem?_getD, hj]
      have e5 : ss.getD j (0, []) = (0, []) := by simp [List.getD_eq_getElem?_getD, hl, hj]
      rw [e4, e5]

/-- A write's number written over. -/
theorem OwnPnds.setAt {w : World} {base : Nat} {A : Option Addr} {n c : Nat} {C : List Pnd} (h : OwnPnds w base A n c C) {i : Nat} (hi : i < n) (x : Int) :
    ∃ gA, A = some ⟨gA, 0, none⟩ ∧ ∃ C', OwnPnds (w.setCell ⟨gA, i * 2, none⟩ (.int .i64 x)) base A n c C' ∧ C'.length = n ∧ ∀ j, (C'.getD j (0, [])).2.length = (C.getD j (0, [])).2.length := by
  obtain ⟨vs, hown, hl, hby, hin⟩ := h
  obtain ⟨g, u, e, hbg, _, _, hset⟩ := owns_at2 hown (show i * 2 < n * 2 by omega)
  have hvl : vs.length = n * 2 := hown.1
  subst e
  refine ⟨g, rfl, C.set i (x, (C.getD i (0, [])).2), ⟨_, hset (.int .i64 x), by rw [List.length_set]; exact hl, ?_, fun j hj => ?_⟩, by rw [List.length_set]; exact hl, fun j => ?_⟩
  · intro s hs y hy
    rcases List.mem_or_eq_of_mem_set hs with hs | rfl
    · exact hby s hs y hy
    · rw [List.getD_eq_getElem?_getD, List.getElem?_eq_getElem (by omega)] at hy
      exact hby _ (List.getElem_mem _) y hy
  · obtain ⟨Aj, nj, cj, hv, hx, hoj⟩ := hin j hj
    have hk : OwnTxt (w.setCell ⟨g, i * 2, none⟩ (.int .i64 x)) base Aj nj cj (C.getD j (0, [])).2 := hoj.keep fun g' _ hu =>
      Below.heap_setCell w _ _ g' (fun e => by subst e; exact u8_row (by decide) hu hown rfl)
    by_cases e : i = j
    · subst e
      have e2 : (C.set i (x, (C.getD i (0, [])).2)).getD i (0, []) = (x, (C.getD i (0, [])).2) := by simp [List.getD_eq_getElem?_getD, show i < C.length by omega]
      exact ⟨Aj, nj, cj, by rw [List.getElem?_set_ne (by omega)]; exact hv, by rw [List.getElem?_set_self (by omega), e2], by rw [e2]; exact hk⟩
    · have e2 : (C.set i (x, (C.getD i (0, [])).2)).getD j (0, []) = C.getD j (0, []) := by simp [List.getD_eq_getElem?_getD, List.getElem?_set_ne e]
      exact ⟨Aj, nj, cj, by rw [List.getElem?_set_ne (by omega)]; exact hv, by rw [List.getElem?_set_ne (by omega), e2]; exact hx, by rw [e2]; exact hk⟩
  · by_cases e : i = j
    · subst e
      simp [List.getD_eq_getElem?_getD, show i < C.length by omega]
    · simp [List.getD_eq_getElem?_getD, List.getElem?_set_ne e]
theorem OwnSecs.setAt {w : World} {base b : Nat} {A B : Option Addr} {n c m d : Nat} {S : List Sec} {C : List Pnd} (h : OwnSecs w base A n c S) (hp : OwnPnds w b B m d C) {gA : Nat} (e : B = some ⟨gA, 0, none⟩) (i : Nat) (u : Value) : OwnSecs (w.setCell ⟨gA, i, none⟩ u) base A n c S := by
  obtain ⟨vs, hown, _⟩ := hp
  subst e
  exact h.other hown (by decide) (by decide) (grownBy_set w gA i u)
/-- A disk's box is no row of bytes. -/
theorem Blk.touchedU {w : World} {g k : Nat} {t : TypeId} {cs : List Value} (h : Blk w k t cs) (ht : t ≠ 5) (hu : U8 w g) (i : Nat) (u : Value) : Blk (w.setCell ⟨g, i, none⟩ u) k t cs :=
  h.away (fun e => by subst e; exact u8_blk ht hu h) i u
theorem Blk.touched {w : World} {b g k m d : Nat} {t : TypeId} {cs xs : List Value} (h : Blk w k t cs) (ht : t ≠ 5) (hr : w.ownsRow b 5 1 (.slice (some ⟨g, 0, none⟩) m d) m xs) (i : Nat) (u : Value) : Blk (w.setCell ⟨g, i, none⟩ u) k t cs :=
  h.touchedU ht (U8.of_owns hr) i u

theorem getD_mem (l : List Int) (k : Nat) (h : k < l.length) : l.getD k 0 ∈ l := by
  rw [List.getD_eq_getElem?_getD, List.getElem?_eq_getElem h]
  exact List.getElem_mem h


/-- Bytes and numbers written over: every row of bytes, all sectors and all writes keep their places and their lengths; every other box stays. -/
structure Spoils (w w' : World) : Prop where
  row : ∀ (base : Nat) (A : Option Addr) (n c : Nat) (zs : List Int), (∀ z ∈ zs, isByte z) → w.ownsRow base 5 1 (.slice A n c) n (ints .u8 zs) → ∃ zs', (∀ z ∈ zs', isByte z) ∧ zs'.length = zs.length ∧ w'.ownsRow base 5 1 (.slice A n c) n (ints .u8 zs')
  secs : ∀ (base : Nat) (A : Option Addr) (n c : Nat) (S : List Sec), OwnSecs w base A n c S → ∃ S', OwnSecs w' base A n c S' ∧ ∀ j, (S'.getD j (false, [])).2.length = (S.getD j (false, [])).2.length
  pnds : ∀ (base : Nat) (A : Option Addr) (n c : Nat) (C : List Pnd), OwnPnds w base A n c C → ∃ C', OwnPnds w' base A n c C' ∧ ∀ j, (C'.getD j (0, [])).2.length = (C.getD j (0, [])).2.length
  blk : ∀ (g : Nat) (t : TypeId) (cs : List Value), t ≠ 5 → t ≠ 71 → Blk w g t cs → Blk w' g t cs
theorem Spoils.of_below {w w' : World} (h : Below w.heap.size w w') : Spoils w w' :=
  ⟨fun _ _ _ _ zs hz ho => ⟨zs, hz, rfl, owns_below ho h⟩, fun _ _ _ _ S hS => ⟨S, hS.below h, fun _ => rfl⟩, fun _ _ _ _ C hC => ⟨C, hC.below h, fun _ => rfl⟩, fun _ _ _ _ _ hx => hx.below h hx.lt⟩
theorem Spoils.refl (w : World) : Spoils w w := Spoils.of_below (Below.refl _ _)
theorem Spoils.trans {a b c : World} (h : Spoils a b) (k : Spoils b c) : Spoils a c := by
  refine ⟨fun base A n cc zs hz ho => ?_, fun base A n cc q hq => ?_, fun base A n cc q hq => ?_, fun g t cs ht hp hx => k.blk g t cs ht hp (h.blk g t cs ht hp hx)⟩
  · obtain ⟨z1, h1, h2, h3⟩ := h.row base A n cc zs hz ho
    obtain ⟨z2, k1, k2, k3⟩ := k.row base A n cc z1 h1 h3
    exact ⟨z2, k1, k2.trans h2, k3⟩
  · obtain ⟨q1, h1, h2⟩ := h.secs base A n cc q hq
    obtain ⟨q2, k1, k2⟩ := k.secs base A n cc q1 h1
    exact ⟨q2, k1, fun j => (k2 j).trans (h2 j)⟩
  · obtain ⟨q1, h1, h2⟩ := h.pnds base A n cc q hq
    obtain ⟨q2, k1, k2⟩ := k.pnds base A n cc q1 h1
    exact ⟨q2, k1, fun j => (k2 j).trans (h2 j)⟩
theorem Spoils.byteU {w : World} {g : Nat} (hu : U8 w g) (k : Nat) {z : Int} (hz : isByte z) : Spoils w (w.setCell ⟨g, k, none⟩ (.int .u8 z)) := by
  refine ⟨fun base A n c zs hb ho => ?_, fun base A n c S hS => ?_, fun base A n c C hC => ?_, fun g' t cs ht _ hx => hx.touchedU ht hu k _⟩
  · by_cases hg : (Value.slice A n c).ownBlock = some g
    · refine ⟨zs.set k z, fun y hy => ?_, by simp, ?_⟩
      · rcases List.mem_or_eq_of_mem_set hy with hy | rfl
        · exact hb y hy
        · exact hz
      · rw [← set_ints]
        rcases ho.2 with ⟨e, _⟩ | ⟨g', cap', cur', e, _⟩
        · rw [e] at hg; simp [Value.ownBlock] at hg
        · cases e
          have e3 : g' = g := by simpa [Value.ownBlock] using hg
          subst e3
          exact (ho.stored k _).1
    · refine ⟨zs, hb, rfl, ho.kept (grownBy_set w g k _) ?_⟩
      rcases hy : (Value.slice A n c).ownBlock with _ | gc
      · exact .inl rfl
      · exact .inr (fun e => hg (by rw [hy, e]))
  · obtain ⟨S', h1, _, h2⟩ := hS.touch hu k hz
    exact ⟨S', h1, h2⟩
  · obtain ⟨C', h1, _, h2⟩ := hC.touch hu k hz
    exact ⟨C', h1, h2⟩
theorem Spoils.byte {w : World} {b g m d : Nat} {xs : List Value} (hr : w.ownsRow b 5 1 (.slice (some ⟨g, 0, none⟩) m d) m xs) (k : Nat) {z : Int} (hz : isByte z) : Spoils w (w.setCell ⟨g, k, none⟩ (.int .u8 z)) := Spoils.byteU (U8.of_owns hr) k hz
theorem Spoils.num {w : World} {b g m d : Nat} {C0 : List Pnd} (hp : OwnPnds w b (some ⟨g, 0, none⟩) m d C0) (i : Nat) (x : Int) : Spoils w (w.setCell ⟨g, i * 2, none⟩ (.int .i64 x)) := by
  have hp0 := hp
  obtain ⟨vs0, hown0, _⟩ := hp0
  refine ⟨fun base A n c zs hb ho => ⟨zs, hb, rfl, ho.kept (grownBy_set w g (i * 2) _) ?_⟩, fun base A n c S hS => ⟨S, hS.setAt hp rfl (i * 2) _, fun _ => rfl⟩, fun base A n c C hC => ?_, fun g' t cs _ ht hx => hx.away (fun e => ?_) _ _⟩
  · have := owns_other2 (by decide) ho hown0
    simpa [Value.ownBlock] using this
  · obtain ⟨vs, hown, hl, hby, hin⟩ := hC
    have hk : ∀ {A' : Option Addr} {n' c' : Nat} {xs : List Int}, OwnTxt w base A' n' c' xs → OwnTxt (w.setCell ⟨g, i * 2, none⟩ (.int .i64 x)) base A' n' c' xs := fun hx => hx.keep fun g' _ hu =>
      Below.heap_setCell w _ _ g' (fun e => by subst e; exact u8_row (by decide) hu hown0 rfl)
    by_cases hg : (Value.slice A n c).ownBlock = some g
    · have hvl : vs.length = n * 2 := hown.1
      have hst : (w.setCell ⟨g, i * 2, none⟩ (.int .i64 x)).ownsRow base 71 2 (.slice A n c) n (vs.set (i * 2) (.int .i64 x)) := by
        rcases hown.2 with ⟨e, _⟩ | ⟨g', cap', cur', e, _⟩
        · rw [e] at hg; simp [Value.ownBlock] at hg
        · cases e
          have e3 : g' = g := by simpa [Value.ownBlock] using hg
          subst e3
          exact (hown.stored (i * 2) _).1
      refine ⟨C.set i (x, (C.getD i (0, [])).2), ⟨_, hst, by rw [List.length_set]; exact hl, ?_, fun j hj => ?_⟩, fun j => ?_⟩
      · intro s hs y hy
        rcases List.mem_or_eq_of_mem_set hs with hs | rfl
        · exact hby s hs y hy
        · rcases Nat.lt_or_ge i C.length with hi | hi
          · rw [List.getD_eq_getElem?_getD, List.getElem?_eq_getElem hi] at hy
            exact hby _ (List.getElem_mem _) y hy
          · rw [List.getD_eq_getElem?_getD, List.getElem?_eq_none hi] at hy
            simp at hy
      · obtain ⟨Aj, nj, cj, hv, hx, hoj⟩ := hin j hj
        by_cases e : i = j
        · subst e
          have e2 : (C.set i (x, (C.getD i (0, [])).2)).getD i (0, []) = (x, (C.getD i (0, [])).2) := by simp [List.getD_eq_getElem?_getD, show i < C.length by omega]
          exact ⟨Aj, nj, cj, by rw [List.getElem?_set_ne (by omega)]; exact hv, by rw [List.getElem?_set_self (by omega), e2], by rw [e2]; exact hk hoj⟩
        · have e2 : (C.set i (x, (C.getD i (0, [])).2)).getD j (0, []) = C.getD j (0, []) := by simp [List.getD_eq_getElem?_getD, List.getElem?_set_ne e]
          exact ⟨Aj, nj, cj, by rw [List.getElem?_set_ne (by omega)]; exact hv, by rw [List.getElem?_set_ne (by omega), e2]; exact hx, by rw [e2]; exact hk hoj⟩
      · by_cases e : i = j
        · subst e
          rcases Nat.lt_or_ge i C.length with hi | hi
          · simp [List.getD_eq_getElem?_getD, hi]
          · rw [List.set_eq_of_length_le hi]
        · simp [List.getD_eq_getElem?_getD, List.getElem?_set_ne e]
    · refine ⟨C, ⟨vs, hown.kept (grownBy_set w g (i * 2) _) ?_, hl, hby, fun j hj => ?_⟩, fun _ => rfl⟩
      · rcases hy : (Value.slice A n c).ownBlock with _ | gc
        · exact .inl rfl
        · exact .inr (fun e => hg (by rw [hy, e]))
      · obtain ⟨Aj, nj, cj, hv, hx, hoj⟩ := hin j hj
        exact ⟨Aj, nj, cj, hv, hx, hk hoj⟩
  · subst e
    rcases hown0.2 with ⟨e2, _⟩ | ⟨g2, cap, cur, e2, _, hg2, _⟩ <;> cases e2
    unfold Blk at hx
    rw [hx] at hg2
    simp at hg2
    exact ht hg2.2

theorem OwnSecs.out_len {w : World} {base : Nat} {A : Option Addr} {n c : Nat} {S : List Sec} (h : OwnSecs w base A n c S) : S.length = n := by
  obtain ⟨_, _, hl, _⟩ := h
  exact hl
theorem OwnPnds.out_len {w : World} {base : Nat} {A : Option Addr} {n c : Nat} {S : List Pnd} (h : OwnPnds w base A n c S) : S.length = n := by
  obtain ⟨_, _, hl, _⟩ := h
  exact hl
theorem SmallD.sec_at {S : List Sec} {C : List Pnd} (h : SmallD S C) (k : Nat) : (S.getD k (false, [])).2.length ≤ 100 := by
  rcases Nat.lt_or_ge k S.length with hk | hk
  · rw [List.getD_eq_getElem?_getD, List.getElem?_eq_getElem hk, Option.getD_some]
    exact h.long _ (List.getElem_mem hk)
  · rw [List.getD_eq_getElem?_getD, List.getElem?_eq_none hk]
    simp
theorem SmallD.pnd_at {S : List Sec} {C : List Pnd} (h : SmallD S C) (k : Nat) : (C.getD k (0, [])).2.length ≤ 100 := by
  rcases Nat.lt_or_ge k C.length with hk | hk
  · rw [List.getD_eq_getElem?_getD, List.getElem?_eq_getElem hk, Option.getD_some]
    exact h.wide _ (List.getElem_mem hk)
  · rw [List.getD_eq_getElem?_getD, List.getElem?_eq_none hk]
    simp

set_option maxRecDepth 100000 in
set_option maxHeartbeats 6400000 in
theorem spoil_any (A : Option Addr) (n c : Nat) (A' : Option Addr) (n' c' base : Nat) (S : List Sec) (C : List Pnd) (w : World) (hq : OwnDsk w base A n c A' n' c' S C) (hb : base ≤ w.heap.size) (hs : SmallD S C) :
    Calls Try.prog 29 #[diskV A n c A' n' c'] w fun e w' => e = .returned (.tuple #[]) ∧ Below base w w' ∧ Spoils w w' := by
  have hn := hs.secs
  have hn' := hs.pnds
  rw [hq.secs.out_len] at hn
  rw [hq.pnds.out_len] at hn'
  have SM1 := Lib.hid fun k => hs.sec_at k
  have SM2 := Lib.hid fun k => hs.pnd_at k
  have hbel := (Below.refl base w).alloc hb (.cells #[.slice A n c, .slice A' n' c'] 32)
  have HO := Lib.hid (hq.below ((Below.refl _ _).alloc (Nat.le_refl _) (.cells #[.slice A n c, .slice A' n' c'] 32)))
  have X0 := Lib.hid (Blk.new w 32 [.slice A n c, .slice A' n' c'])
  have B0 := Lib.hid hbel
  have SP0 := Lib.hid (Spoils.of_below ((Below.refl w.heap.size w).alloc (Nat.le_refl _) (.cells #[.slice A n c, .slice A' n' c'] 32)))
  obtain ⟨w1, hw1⟩ : ∃ w1, w1 = w.alloc (.cells #[.slice A n c, .slice A' n' c'] 32) := ⟨_, rfl⟩
  clear hq hs hbel
  go_enter Try.func29, Try.ntmps29
  go_wp2
  change Hid (Blk (w.alloc (.cells #[.slice A n c, .slice A' n' c'] 32)) w.heap.size 32 [.slice A n c, .slice A' n' c']) at X0
  rw [← hw1] at HO X0 B0 SP0 ⊢
  clear hw1
  go_loopw [2] (fun x wr => ∃ i : Nat, i ≤ n ∧ x = .int .i64 i ∧ (∃ S' C', OwnSecs wr base A n c S' ∧ OwnPnds wr base A' n' c' C' ∧ (∀ j, (S'.getD j (false, [])).2.length = (S.getD j (false, [])).2.length) ∧ ∀ j, (C'.getD j (0, [])).2.length = (C.getD j (0, [])).2.length) ∧ Blk wr w.heap.size 32 [.slice A n c, .slice A' n' c'] ∧ Below base w wr ∧ Spoils w wr) (fun x _ => n - (intOf x).toNat)
  case atStart => exact ⟨0, Nat.zero_le _, rfl, ⟨S, C, HO.out.secs, HO.out.pnds, fun _ => rfl, fun _ => rfl⟩, X0.out, B0.out, SP0.out⟩
  case round =>
    obtain ⟨i, hi, rfl, ⟨S1, C1, ho, hp, hl, hm⟩, hx, hb1, hsp1⟩ := hrel
    have q0 := hx.cell 0
    simp only [List.getElem?_cons_zero] at q0
    have O1 := Lib.hid ho
    have P1 := Lib.hid hp
    have L1 := Lib.hid hl
    have M1 := Lib.hid hm
    have X1 := Lib.hid hx
    have B1 := Lib.hid hb1
    have SP1 := Lib.hid hsp1
    by_cases hin : i < n
    · have hsi := SM1.out i
      have hi1 : (i : Int) < (n : Int) := by omega
      obtain ⟨L, hL⟩ : ∃ L, L = (S.getD i (false, [])).2.length := ⟨_, rfl⟩
      rw [← hL] at hsi
      have HL := Lib.hid hL
      clear ho hp hl hm hx hb1 hsp1 hL
      go_wp2
      go_loopw [3] (fun x wx => ∃ k : Nat, k ≤ L ∧ x = .int .i64 k ∧ (∃ S' C', OwnSecs wx base A n c S' ∧ OwnPnds wx base A' n' c' C' ∧ (∀ j, (S'.getD j (false, [])).2.length = (S.getD j (false, [])).2.length) ∧ ∀ j, (C'.getD j (0, [])).2.length = (C.getD j (0, [])).2.length) ∧ Blk wx w.heap.size 32 [.slice A n c, .slice A' n' c'] ∧ Below base w wx ∧ Spoils w wx) (fun x _ => L - (intOf x).toNat)
      case atStart => exact ⟨0, Nat.zero_le _, rfl, ⟨S1, C1, O1.out, P1.out, L1.out, M1.out⟩, X1.out, B1.out, SP1.out⟩
      case round =>
        obtain ⟨k, hk, rfl, ⟨S2, C2, ho, hp, hl, hm⟩, hx, hb, hsp⟩ := hrel
        obtain ⟨gA, Ai, ni, ci, hgA, _, hcA, _, _, hro, hln, hci, hcm⟩ := ho.row hin
        subst hgA
        rw [hl i, ← HL.out] at hln
        subst hln
        have q0 := hx.cell 0
        simp only [List.getElem?_cons_zero] at q0
        unfold maxLen at hcm
        by_cases hkL : k < L
        · obtain ⟨g, o, rfl, hbg, hu, hcg, hfg⟩ := hro.at_ hkL
          have hbyte : isByte ((S2.getD i (false, [])).2.getD k 0) := (Secs.of_own ho).byte_at i _ (getD_mem _ k (by have := hro.1; omega))
          obtain ⟨x, hxx⟩ : ∃ x, x = (S2.getD i (false, [])).2.getD k 0 := ⟨_, rfl⟩
          rw [← hxx] at hcg hbyte
          have hx0 : 0 ≤ x := hbyte.1
          have hx1 : x < 256 := hbyte.2
          obtain ⟨S3, hO3, _, hL3⟩ := ho.touch hu (o + k) (z := (x + 1) % 256) ⟨by omega, by omega⟩
          obtain ⟨C3, hP3, _, hM3⟩ := hp.touch hu (o + k) (z := (x + 1) % 256) ⟨by omega, by omega⟩
          have O3 := Lib.hid hO3
          have P3 := Lib.hid hP3
          have L3 := Lib.hid (fun j => (hL3 j).trans (hl j))
          have M3 := Lib.hid (fun j => (hM3 j).trans (hm j))
          have X3 := Lib.hid (hx.touchedU (by decide) hu (o + k) (.int .u8 ((x + 1) % 256)))
          have SP3 := Lib.hid (hsp.trans (Spoils.byteU hu (o + k) (z := (x + 1) % 256) ⟨by omega, by omega⟩))
          have B3 := Lib.hid (hb.setCell (p := ⟨g, o + k, none⟩) hbg (.int .u8 ((x + 1) % 256)))
          have hw1 : IntKind.i64.wrap (i : Int) = (i : Int) := Lib.wrap_i64_small i (by omega)
          have hw2 : IntKind.i64.wrap (k : Int) = (k : Int) := Lib.wrap_i64_small k (by omega)
          have hi1 : (i : Int) < (n : Int) := by omega
          have hk1 : (k : Int) < (L : Int) := by omega
          clear hxx hbyte ho hp hl hm hx hb hsp hro hu hO3 hP3 hL3 hM3
          go_wp2
          refine wp_region_still_tail 18 (by kernel_rfl) (by kernel_rfl) ?_
          simp only [List.take_succ_cons, List.take_zero, List.drop_succ_cons, List.drop_zero]
          repeat still_step
          try refine wpStill_nil ?_
          change wpList _ _ _ _ _ wr.drew
          go_wp2
          go_roundw
          case rel =>
            refine ⟨k + 1, by omega, by go_num, ⟨S3, C3, ?_, ?_, L3.out, M3.out⟩, ?_, ?_, ?_⟩
            · exact (show OwnSecs (wr.setCell ⟨g, o + k, none⟩ (.int .u8 ((x + 1) % 256))).drew base _ n c S3 from O3.out.below (below_drewN (Below.refl _ _) 1))
            · exact (show OwnPnds (wr.setCell ⟨g, o + k, none⟩ (.int .u8 ((x + 1) % 256))).drew base _ n' c' C3 from P3.out.below (below_drewN (Below.refl _ _) 1))
            · exact X3.out
            · exact (show Below base w (wr.setCell ⟨g, o + k, none⟩ (.int .u8 ((x + 1) % 256))).drew from below_drewN B3.out 1)
            · exact SP3.out.trans (Spoils.of_below (below_drewN (Below.refl _ _) 1))
          case measure => simp [intOf]; omega
        · obtain rfl : k = L := by omega
          have O2 := Lib.hid ho
          have P2 := Lib.hid hp
          have L2 := Lib.hid hl
          have M2 := Lib.hid hm
          have X2 := Lib.hid hx
          have B2 := Lib.hid hb
          have SP2 := Lib.hid hsp
          have hi1 : (i : Int) < (n : Int) := by omega
          clear ho hp hl hm hx hb hsp hro
          go_wp2
          go_roundw
          case rel => exact ⟨i + 1, by omega, by go_num, ⟨S2, C2, O2.out, P2.out, L2.out, M2.out⟩, X2.out, B2.out, SP2.out⟩
          case measure => simp [intOf]; omega

    · obtain rfl : n = i := by omega
      clear ho hp hl hm hx hb1 hsp1
      go_wp2
      go_loopw [4] (fun x wr => ∃ i : Nat, i ≤ n' ∧ x = .int .i64 i ∧ (∃ S' C', OwnSecs wr base A n c S' ∧ OwnPnds wr base A' n' c' C' ∧ (∀ j, (S'.getD j (false, [])).2.length = (S.getD j (false, [])).2.length) ∧ ∀ j, (C'.getD j (0, [])).2.length = (C.getD j (0, [])).2.length) ∧ Blk wr w.heap.size 32 [.slice A n c, .slice A' n' c'] ∧ Below base w wr ∧ Spoils w wr) (fun x _ => n' - (intOf x).toNat)
      case atStart => exact ⟨0, Nat.zero_le _, rfl, ⟨S1, C1, O1.out, P1.out, L1.out, M1.out⟩, X1.out, B1.out, SP1.out⟩
      case round =>
        obtain ⟨i, hi, rfl, ⟨S4, C4, ho, hp, hl, hm⟩, hx, hb1, hsp1⟩ := hrel
        have q0 := hx.cell 1
        simp only [List.getElem?_cons_zero, List.getElem?_cons_succ] at q0
        by_cases hin : i < n'
        · have hsi := SM2.out i
          have hi1 : (i : Int) < (n' : Int) := by omega
          obtain ⟨L, hL⟩ : ∃ L, L = (C.getD i (0, [])).2.length := ⟨_, rfl⟩
          rw [← hL] at hsi
          have HL := Lib.hid hL
          obtain ⟨gB, Ai, ni, ci, rfl, hgb, hcA, hcx, hfx, hro, hln, hci, hcm⟩ := hp.row hin
          obtain ⟨gA', e, C5, hp5, _, hm5⟩ := hp.setAt hin (-7)
          cases e
          have O1 := Lib.hid (ho.setAt hp rfl (i * 2) (.int .i64 (-7)))
          have P1 := Lib.hid hp5
          have L1 := Lib.hid hl
          have M1 := Lib.hid (fun j => (hm5 j).trans (hm j))
          have hne : w.heap.size ≠ gB := fun e => by
            have := hp.not_blk hx
            exact this (by simp [Value.ownBlock, e])
          have X1 := Lib.hid (hx.away hne (i * 2) (.int .i64 (-7)))
          have SP1 := Lib.hid (hsp1.trans (Spoils.num hp i (-7)))
          have B1 := Lib.hid (hb1.setCell (p := ⟨gB, i * 2, none⟩) hgb (.int .i64 (-7)))
          clear ho hp hl hm hx hb1 hsp1 hL hro hp5 hm5 hcA hln
          go_wp2
          go_loopw [5] (fun x wx => ∃ k : Nat, k ≤ L ∧ x = .int .i64 k ∧ (∃ S' C', OwnSecs wx base A n c S' ∧ OwnPnds wx base (some ⟨gB, 0, none⟩) n' c' C' ∧ (∀ j, (S'.getD j (false, [])).2.length = (S.getD j (false, [])).2.length) ∧ ∀ j, (C'.getD j (0, [])).2.length = (C.getD j (0, [])).2.length) ∧ Blk wx w.heap.size 32 [.slice A n c, .slice (some ⟨gB, 0, none⟩) n' c'] ∧ Below base w wx ∧ Spoils w wx) (fun x _ => L - (intOf x).toNat)
          case atStart => exact ⟨0, Nat.zero_le _, rfl, ⟨S4, C5, O1.out, P1.out, L1.out, M1.out⟩, X1.out, B1.out, SP1.out⟩
          case round =>
            obtain ⟨k, hk, rfl, ⟨S2, C2, ho, hp, hl, hm⟩, hx, hb, hsp⟩ := hrel
            obtain ⟨gA, Ai, ni, ci, hgA, _, hcA, _, _, hro, hln, hci, hcm⟩ := hp.row hin
            cases hgA
            rw [hm i, ← HL.out] at hln
            subst hln
            have q0 := hx.cell 1
            simp only [List.getElem?_cons_zero, List.getElem?_cons_succ] at q0
            unfold maxLen at hcm
            by_cases hkL : k < L
            · obtain ⟨g, o, rfl, hbg, hu, hcg, hfg⟩ := hro.at_ hkL
              have hbyte : isByte ((C2.getD i (0, [])).2.getD k 0) := (Pnds.of_own hp).byte_at i _ (getD_mem _ k (by have := hro.1; omega))
              obtain ⟨x, hxx⟩ : ∃ x, x = (C2.getD i (0, [])).2.getD k 0 := ⟨_, rfl⟩
              rw [← hxx] at hcg hbyte
              have hx0 : 0 ≤ x := hbyte.1
              have hx1 : x < 256 := hbyte.2
              obtain ⟨S3, hO3, _, hL3⟩ := ho.touch hu (o + k) (z := (x + 1) % 256) ⟨by omega, by omega⟩
              obtain ⟨C3, hP3, _, hM3⟩ := hp.touch hu (o + k) (z := (x + 1) % 256) ⟨by omega, by omega⟩
              have O3 := Lib.hid hO3
              have P3 := Lib.hid hP3
              have L3 := Lib.hid (fun j => (hL3 j).trans (hl j))
              have M3 := Lib.hid (fun j => (hM3 j).trans (hm j))
              have X3 := Lib.hid (hx.touchedU (by decide) hu (o + k) (.int .u8 ((x + 1) % 256)))
              have SP3 := Lib.hid (hsp.trans (Spoils.byteU hu (o + k) (z := (x + 1) % 256) ⟨by omega, by omega⟩))
              have B3 := Lib.hid (hb.setCell (p := ⟨g, o + k, none⟩) hbg (.int .u8 ((x + 1) % 256)))
              have hw1 : IntKind.i64.wrap (i : Int) = (i : Int) := Lib.wrap_i64_small i (by omega)
              have hw2 : IntKind.i64.wrap (k : Int) = (k : Int) := Lib.wrap_i64_small k (by omega)
              have hi1 : (i : Int) < (n' : Int) := by omega
              have hk1 : (k : Int) < (L : Int) := by omega
              clear hxx hbyte ho hp hl hm hx hb hsp hro hu hO3 hP3 hL3 hM3
              go_wp2
              refine wp_region_still_tail 18 (by kernel_rfl) (by kernel_rfl) ?_
              simp only [List.take_succ_cons, List.take_zero, List.drop_succ_cons, List.drop_zero]
              repeat still_step
              try refine wpStill_nil ?_
              change wpList _ _ _ _ _ wr.drew
              go_wp2
              go_roundw
              case rel =>
                refine ⟨k + 1, by omega, by go_num, ⟨S3, C3, ?_, ?_, L3.out, M3.out⟩, ?_, ?_, ?_⟩
                · exact (show OwnSecs (wr.setCell ⟨g, o + k, none⟩ (.int .u8 ((x + 1) % 256))).drew base _ n c S3 from O3.out.below (below_drewN (Below.refl _ _) 1))
                · exact (show OwnPnds (wr.setCell ⟨g, o + k, none⟩ (.int .u8 ((x + 1) % 256))).drew base _ n' c' C3 from P3.out.below (below_drewN (Below.refl _ _) 1))
                · exact X3.out
                · exact (show Below base w (wr.setCell ⟨g, o + k, none⟩ (.int .u8 ((x + 1) % 256))).drew from below_drewN B3.out 1)
                · exact SP3.out.trans (Spoils.of_below (below_drewN (Below.refl _ _) 1))
              case measure => simp [intOf]; omega
            · obtain rfl : k = L := by omega
              have O2 := Lib.hid ho
              have P2 := Lib.hid hp
              have L2 := Lib.hid hl
              have M2 := Lib.hid hm
              have X2 := Lib.hid hx
              have B2 := Lib.hid hb
              have SP2 := Lib.hid hsp
              have hi1 : (i : Int) < (n' : Int) := by omega
              clear ho hp hl hm hx hb hsp hro
              go_wp2
              go_roundw
              case rel => exact ⟨i + 1, by omega, by go_num, ⟨S2, C2, O2.out, P2.out, L2.out, M2.out⟩, X2.out, B2.out, SP2.out⟩
              case measure => simp [intOf]; omega

        · obtain rfl : n' = i := by omega
          have B9 := Lib.hid hb1
          have SP9 := Lib.hid hsp1
          clear ho hp hl hm hx hb1 hsp1
          go_wp2
          first | go_end0 | refine bodyPost_ret (results_none rfl _ _ _) rfl ?_
          exact ⟨rfl, B9.out, SP9.out⟩

end Go.Proofs.Ytnmlplfcdnakhaa
