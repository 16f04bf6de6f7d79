/- Layer 5: disks written over: rows of structs whose texts turn. -/
import Derived.Test.YtiibmlbenamgcaaDiskR9
namespace Go.Proofs.Ytiibmlbenamgcaa
open Go.RowKit
set_option linter.unusedVariables false

/-- One of them: its cells, and its row of bytes. -/
theorem OwnSecs.row {w : World} {base : Nat} {A : Option Addr} {n c : Nat} {ss : List Sec} (h : OwnSecs w base A n c ss) {i : Nat} (hi : i < n) :
    ∃ gA Ai ni ci, A = some ⟨gA, 0, none⟩ ∧ base ≤ gA ∧ w.cell? ⟨gA, i * 2, none⟩ = some (.slice Ai ni ci) ∧ w.cell? ⟨gA, i * 2 + 1, none⟩ = some (.bool (ss.getD i (false, [])).1) ∧ w.frozen? ⟨gA, i * 2 + 1, none⟩ = false ∧ OwnTxt w base Ai ni ci (ss.getD i (false, [])).2 ∧ (ss.getD i (false, [])).2.length = ni ∧ ni ≤ ci ∧ ci ≤ maxLen := by
  obtain ⟨vs, hown, hl, hby, hin⟩ := h
  obtain ⟨Ai, ni, ci, hv, hx, ho⟩ := hin i hi
  obtain ⟨g, u, e, hbg, _⟩ := owns_at2 hown (show i * 2 < n * 2 by omega)
  obtain ⟨b, e', hlt, hc⟩ := owns_cell hown hv
  obtain ⟨b', e'', _, hcx⟩ := owns_cell hown hx
  rw [e] at e' e''
  cases e'
  cases e''
  have hni : (ss.getD i (false, [])).2.length = ni := ho.1
  have harg := ho.arg
  subst e
  exact ⟨g, Ai, ni, ci, rfl, hbg, hc, hcx, hown.frozenAt _, ho, hni, harg.cap, harg.max⟩

/-- A byte of a row of the call's own is written over: they stay, their texts as long as they were. -/
theorem OwnSecs.touch {w : World} {base g : Nat} {A : Option Addr} {n c : Nat} {ss : List Sec} (h : OwnSecs w base A n c ss) (hu : U8 w g) (k : Nat) {z : Int} (hz : isByte z) :
    ∃ ss', OwnSecs (w.setCell ⟨g, k, none⟩ (.int .u8 z)) base A n c ss' ∧ ss'.length = n ∧ ∀ j, (ss'.getD j (false, [])).2.length = (ss.getD j (false, [])).2.length := by
  obtain ⟨vs, hown, hl, hby, hin⟩ := h
  obtain ⟨f, hf⟩ : ∃ f : Nat → List Int → List Int, f = fun j zs => match vs.getD (j * 2) undef with | .slice Aj _ _ => touchL Aj g k z zs | _ => zs := ⟨_, rfl⟩
  have hfl : ∀ j zs, (f j zs).length = zs.length := fun j zs => by
    rw [hf]
    dsimp only
    split
    · exact touchL_len ..
    · rfl
  have hfb : ∀ j zs, (∀ y ∈ zs, isByte y) → ∀ y ∈ f j zs, isByte y := fun j zs hb => by
    rw [hf]
    dsimp only
    split
    · exact touchL_byte _ g k hz hb
    · exact hb
  have e1 : ∀ j, j < n → ((List.range n).map fun j => ((ss.getD j (false, [])).1, f j (ss.getD j (false, [])).2)).getD j (false, []) = ((ss.getD j (false, [])).1, f j (ss.getD j (false, [])).2) := fun j hj => by
    simp [List.getD_eq_getElem?_getD, hj]
  refine ⟨(List.range n).map fun j => ((ss.getD j (false, [])).1, f j (ss.getD j (false, [])).2), ⟨vs, ?_, by simp, ?_, fun j hj => ?_⟩, by simp, fun j => ?_⟩
  · refine owns_keep hown fun g' cs _ hc => Below.heap_setCell w _ _ g' (fun e => ?_)
    subst e
    obtain ⟨cs', hc'⟩ := hu
    rw [hc] at hc'
    simp at hc'
  · intro s hs y hy
    obtain ⟨j, hj, rfl⟩ := List.mem_map.1 hs
    have hjn := List.mem_range.1 hj
    exact hfb j _ (fun y hy => hby (ss.getD j (false, [])) (by
      rw [List.getD_eq_getElem?_getD, List.getElem?_eq_getElem (by omega)]
      exact List.getElem_mem _) y hy) y hy
  · obtain ⟨Aj, nj, cj, hvj, hxj, hoj⟩ := hin j hj
    have e2 : vs.getD (j * 2) undef = .slice Aj nj cj := by rw [List.getD_eq_getElem?_getD, hvj]; rfl
    have e3 : f j (ss.getD j (false, [])).2 = touchL Aj g k z (ss.getD j (false, [])).2 := by rw [hf]; dsimp only; rw [e2]
    rw [e1 j hj, e3]
    exact ⟨Aj, nj, cj, hvj, hxj, hoj.touch z⟩
  · rcases Nat.lt_or_ge j n with hj | hj
    · rw [e1 j hj]
      exact hfl j _
    · have e4 : ((List.range n).map fun j => ((ss.getD j (false, [])).1, f j (ss.getD j (false, [])).2)).getD j (false, []) = (false, []) := by
        simp [List.getD_eq_getElem?_getD, hj]
      have e5 : ss.getD j (false, []) = (false, []) := by simp [List.getD_eq_getElem?_getD, hl, hj]
      rw [e4, e5]

/-- One of them: its cells, and its row of bytes. -/
theorem OwnPnds.row {w : World} {base : Nat} {A : Option Addr} {n c : Nat} {ss : List Pnd} (h : OwnPnds w base A n c ss) {i : Nat} (hi : i < n) :
    ∃ gA Ai ni ci, A = some ⟨gA, 0, none⟩ ∧ base ≤ gA ∧ w.cell? ⟨gA, i * 2 + 1, none⟩ = some (.slice Ai ni ci) ∧ w.cell? ⟨gA, i * 2, none⟩ = some (.int .i64 (ss.getD i (0, [])).1) ∧ w.frozen? ⟨gA, i * 2, none⟩ = false ∧ OwnTxt w base Ai ni ci (ss.getD i (0, [])).2 ∧ (ss.getD i (0, [])).2.length = ni ∧ ni ≤ ci ∧ ci ≤ maxLen := by
  obtain ⟨vs, hown, hl, hby, hin⟩ := h
  obtain ⟨Ai, ni, ci, hv, hx, ho⟩ := hin i hi
  obtain ⟨g, u, e, hbg, _⟩ := owns_at2 hown (show i * 2 < n * 2 by omega)
  obtain ⟨b, e', hlt, hc⟩ := owns_cell hown hv
  obtain ⟨b', e'', _, hcx⟩ := owns_cell hown hx
  rw [e] at e' e''
  cases e'
  cases e''
  have hni : (ss.getD i (0, [])).2.length = ni := ho.1
  have harg := ho.arg
  subst e
  exact ⟨g, Ai, ni, ci, rfl, hbg, hc, hcx, hown.frozenAt _, ho, hni, harg.cap, harg.max⟩

/-- A byte of a row of the call's own is written over: they stay, their texts as long as they were. -/
theorem OwnPnds.touch {w : World} {base g : Nat} {A : Option Addr} {n c : Nat} {ss : List Pnd} (h : OwnPnds w base A n c ss) (hu : U8 w g) (k : Nat) {z : Int} (hz : isByte z) :
    ∃ ss', OwnPnds (w.setCell ⟨g, k, none⟩ (.int .u8 z)) base A n c ss' ∧ ss'.length = n ∧ ∀ j, (ss'.getD j (0, [])).2.length = (ss.getD j (0, [])).2.length := by
  obtain ⟨vs, hown, hl, hby, hin⟩ := h
  obtain ⟨f, hf⟩ : ∃ f : Nat → List Int → List Int, f = fun j zs => match vs.getD (j * 2 + 1) undef with | .slice Aj _ _ => touchL Aj g k z zs | _ => zs := ⟨_, rfl⟩
  have hfl : ∀ j zs, (f j zs).length = zs.length := fun j zs => by
    rw [hf]
    dsimp only
    split
    · exact touchL_len ..
    · rfl
  have hfb : ∀ j zs, (∀ y ∈ zs, isByte y) → ∀ y ∈ f j zs, isByte y := fun j zs hb => by
    rw [hf]
    dsimp only
    split
    · exact touchL_byte _ g k hz hb
    · exact hb
  have e1 : ∀ j, j < n → ((List.range n).map fun j => ((ss.getD j (0, [])).1, f j (ss.getD j (0, [])).2)).getD j (0, []) = ((ss.getD j (0, [])).1, f j (ss.getD j (0, [])).2) := fun j hj => by
    simp [List.getD_eq_getElem?_getD, hj]
  refine ⟨(List.range n).map fun j => ((ss.getD j (0, [])).1, f j (ss.getD j (0, [])).2), ⟨vs, ?_, by simp, ?_, fun j hj => ?_⟩, by simp, fun j => ?_⟩
  · refine owns_keep hown fun g' cs _ hc => Below.heap_setCell w _ _ g' (fun e => ?_)
    subst e
    obtain ⟨cs', hc'⟩ := hu
    rw [hc] at hc'
    simp at hc'
  · intro s hs y hy
    obtain ⟨j, hj, rfl⟩ := List.mem_map.1 hs
    have hjn := List.mem_range.1 hj
    exact hfb j _ (fun y hy => hby (ss.getD j (0, [])) (by
      rw [List.getD_eq_getElem?_getD, List.getElem?_eq_getElem (by omega)]
      exact List.getElem_mem _) y hy) y hy
  · obtain ⟨Aj, nj, cj, hvj, hxj, hoj⟩ := hin j hj
    have e2 : vs.getD (j * 2 + 1) undef = .slice Aj nj cj := by rw [List.getD_eq_getElem?_getD, hvj]; rfl
    have e3 : f j (ss.getD j (0, [])).2 = touchL Aj g k z (ss.getD j (0, [])).2 := by rw [hf]; dsimp only; rw [e2]
    rw [e1 j hj, e3]
    exact ⟨Aj, nj, cj, hvj, hxj, hoj.touch z⟩
  · rcases Nat.lt_or_ge j n with hj | hj
    · rw [e1 j hj]
      exact hfl j _
    · have e4 : ((List.range n).map fun j => ((ss.getD j (0, [])).1, f j (ss.getD j (0, [])).2)).getD j (0, []) = (0, []) := by
        simp [List.getD_eq_getElem?_getD, hj]
      have e5 : ss.getD j (0, []) = (0, []) := by simp [List.getD_eq_getElem?_getD, hl, hj]
      rw [e4, e5]

/-- A write's number written over. -/
theorem OwnPnds.setAt {w : World} {base : Nat} {A : Option Addr} {n c : Nat} {C : List Pnd} (h : OwnPnds w base A n c C) {i : Nat} (hi : i < n) (x : Int) :
    ∃ gA, A = some ⟨gA, 0, none⟩ ∧ ∃ C', OwnPnds (w.setCell ⟨gA, i * 2, none⟩ (.int .i64 x)) base A n c C' ∧ C'.length = n ∧ ∀ j, (C'.getD j (0, [])).2.length = (C.getD j (0, [])).2.length := by
  obtain ⟨vs, hown, hl, hby, hin⟩ := h
  obtain ⟨g, u, e, hbg, _, _, hset⟩ := owns_at2 hown (show i * 2 < n * 2 by omega)
  have hvl : vs.length = n * 2 := hown.1
  subst e
  refine ⟨g, rfl, C.set i (x, (C.getD i (0, [])).2), ⟨_, hset (.int .i64 x), by rw [List.length_set]; exact hl, ?_, fun j hj => ?_⟩, by rw [List.length_set]; exact hl, fun j => ?_⟩
  · intro s hs y hy
    rcases List.mem_or_eq_of_mem_set hs with hs | rfl
    · exact hby s hs y hy
    · rw [List.getD_eq_getElem?_getD, List.getElem?_eq_getElem (by omega)] at hy
      exact hby _ (List.getElem_mem _) y hy
  · obtain ⟨Aj, nj, cj, hv, hx, hoj⟩ := hin j hj
    have hk : OwnTxt (w.setCell ⟨g, i * 2, none⟩ (.int .i64 x)) base Aj nj cj (C.getD j (0, [])).2 := hoj.keep fun g' _ hu =>
      Below.heap_setCell w _ _ g' (fun e => by subst e; exact u8_row (by decide) hu hown rfl)
    by_cases e : i = j
    · subst e
      have e2 : (C.set i (x, (C.getD i (0, [])).2)).getD i (0, []) = (x, (C.getD i (0, [])).2) := by simp [List.getD_eq_getElem?_getD, show i < C.length by omega]
      exact ⟨Aj, nj, cj, by rw [List.getElem?_set_ne (by omega)]; exact hv, by rw [List.getElem?_set_self (by omega), e2], by rw [e2]; exact hk⟩
    · have e2 : (C.set i (x, (C.getD i (0, [])).2)).getD j (0, []) = C.getD j (0, []) := by simp [List.getD_eq_getElem?_getD, List.getElem?_set_ne e]
      exact ⟨Aj, nj, cj, by rw [List.getElem?_set_ne (by omega)]; exact hv, by rw [List.getElem?_set_ne (by omega), e2]; exact hx, by rw [e2]; exact hk⟩
  · by_cases e : i = j
    · subst e
      simp [List.getD_eq_getElem?_getD, show i < C.length by omega]
    · simp [List.getD_eq_getElem?_getD, List.getElem?_set_ne e]
theorem OwnSecs.setAt {w : World} {base b : Nat} {A B : Option Addr} {n c m d : Nat} {S : List Sec} {C : List Pnd} (h : OwnSecs w base A n c S) (hp : OwnPnds w b B m d C) {gA : Nat} (e : B = some ⟨gA, 0, none⟩) (i : Nat) (u : Value) : OwnSecs (w.setCell ⟨gA, i, none⟩ u) base A n c S := by
  obtain ⟨vs, hown, _⟩ := hp
  subst e
  exact h.other hown (by decide) (by decide) (grownBy_set w gA i u)
/-- A disk's box is no row of bytes. -/
theorem Blk.touchedU {w : World} {g k : Nat} {t : TypeId} {cs : List Value} (h : Blk w k t cs) (ht : t ≠ 5) (hu : U8 w g) (i : Nat) (u : Value) : Blk (w.setCell ⟨g, i, none⟩ u) k t cs :=
  h.away (fun e => by subst e; exact u8_blk ht hu h) i u
theorem Blk.touched {w : World} {b g k m d : Nat} {t : TypeId} {cs xs : List Value} (h : Blk w k t cs) (ht : t ≠ 5) (hr : w.ownsRow b 5 1 (.slice (some ⟨g, 0, none⟩) m d) m xs) (i : Nat) (u : Value) : Blk (w.setCell ⟨g, i, none⟩ u) k t cs :=
  h.touchedU ht (U8.of_owns hr) i u

theorem getD_mem (l : List Int) (k : Nat) (h : k < l.length) : l.getD k 0 ∈ l := by
  rw [List.getD_eq_getElem?_getD, List.getElem?_eq_getElem h]
  exact List.getElem_mem h


/-- Bytes and numbers written over: every row of bytes, all sectors and all writes keep their places and their lengths; every other box stays. -/
structure Spoils (w w' : World) : Prop where
  row : ∀ (base : Nat) (A : Option Addr) (n c : Nat) (zs : List Int), (∀ z ∈ zs, isByte z) → w.ownsRow base 5 1 (.slice A n c) n (ints .u8 zs) → ∃ zs', (∀ z ∈ zs', isByte z) ∧ zs'.length = zs.length ∧ w'.ownsRow base 5 1 (.slice A n c) n (ints .u8 zs')
  secs : ∀ (base : Nat) (A : Option Addr) (n c : Nat) (S : List Sec), OwnSecs w base A n c S → ∃ S', OwnSecs w' base A n c S' ∧ ∀ j, (S'.getD j (false, [])).2.length = (S.getD j (false, [])).2.length
  pnds : ∀ (base : Nat) (A : Option Addr) (n c : Nat) (C : List Pnd), OwnPnds w base A n c C → ∃ C', OwnPnds w' base A n c C' ∧ ∀ j, (C'.getD j (0, [])).2.length = (C.getD j (0, [])).2.length
  blk : ∀ (g : Nat) (t : TypeId) (cs : List Value), t ≠ 5 → t ≠ 30 → Blk w g t cs → Blk w' g t cs
theorem Spoils.of_below {w w' : World} (h : Below w.heap.size w w') : Spoils w w' :=
  ⟨fun _ _ _ _ zs hz ho => ⟨zs, hz, rfl, owns_below ho h⟩, fun _ _ _ _ S hS => ⟨S, hS.below h, fun _ => rfl⟩, fun _ _ _ _ C hC => ⟨C, hC.below h, fun _ => rfl⟩, fun _ _ _ _ _ hx => hx.below h hx.lt⟩
theorem Spoils.refl (w : World) : Spoils w w := Spoils.of_below (Below.refl _ _)
theorem Spoils.trans {a b c : World} (h : Spoils a b) (k : Spoils b c) : Spoils a c := by
  refine ⟨fun base A n cc zs hz ho => ?_, fun base A n cc q hq => ?_, fun base A n cc q hq => ?_, fun g t cs ht hp hx => k.blk g t cs ht hp (h.blk g t cs ht hp hx)⟩
  · obtain ⟨z1, h1, h2, h3⟩ := h.row base A n cc zs hz ho
    obtain ⟨z2, k1, k2, k3⟩ := k.row base A n cc z1 h1 h3
    exact ⟨z2, k1, k2.trans h2, k3⟩
  · obtain ⟨q1, h1, h2⟩ := h.secs base A n cc q hq
    obtain ⟨q2, k1, k2⟩ := k.secs base A n cc q1 h1
    exact ⟨q2, k1, fun j => (k2 j).trans (h2 j)⟩
  · obtain ⟨q1, h1, h2⟩ := h.pnds base A n cc q hq
    obtain ⟨q2, k1, k2⟩ := k.pnds base A n cc q1 h1
    exact ⟨q2, k1, fun j => (k2 j).trans (h2 j)⟩
theorem Spoils.byteU {w : World} {g : Nat} (hu : U8 w g) (k : Nat) {z : Int} (hz : isByte z) : Spoils w (w.setCell ⟨g, k, none⟩ (.int .u8 z)) := by
  refine ⟨fun base A n c zs hb ho => ?_, fun base A n c S hS => ?_, fun base A n c C hC => ?_, fun g' t cs ht _ hx => hx.touchedU ht hu k _⟩
  · by_cases hg : (Value.slice A n c).ownBlock = some g
    · refine ⟨zs.set k z, fun y hy => ?_, by simp, ?_⟩
      · rcases List.mem_or_eq_of_mem_set hy with hy | rfl
        · exact hb y hy
        · exact hz
      · rw [← set_ints]
        rcases ho.2 with ⟨e, _⟩ | ⟨g', cap', cur', e, _⟩
        · rw [e] at hg; simp [Value.ownBlock] at hg
        · cases e
          have e3 : g' = g := by simpa [Value.ownBlock] using hg
          subst e3
          exact (ho.stored k _).1
    · refine ⟨zs, hb, rfl, ho.kept (grownBy_set w g k _) ?_⟩
      rcases hy : (Value.slice A n c).ownBlock with _ | gc
      · exact .inl rfl
      · exact .inr (fun e => hg (by rw [hy, e]))
  · obtain ⟨S', h1, _, h2⟩ := hS.touch hu k hz
    exact ⟨S', h1, h2⟩
  · obtain ⟨C', h1, _, h2⟩ := hC.touch hu k hz
    exact ⟨C', h1, h2⟩
theorem Spoils.byte {w : World} {b g m d : Nat} {xs : List Value} (hr : w.ownsRow b 5 1 (.slice (some ⟨g, 0, none⟩) m d) m xs) (k : Nat) {z : Int} (hz : isByte z) : Spoils w (w.setCell ⟨g, k, none⟩ (.int .u8 z)) := Spoils.byteU (U8.of_owns hr) k hz
theorem Spoils.num {w : World} {b g m d : Nat} {C0 : List Pnd} (hp : OwnPnds w b (some ⟨g, 0, none⟩) m d C0) (i : Nat) (x : Int) : Spoils w (w.setCell ⟨g, i * 2, none⟩ (.int .i64 x)) := by
  have hp0 := hp
  obtain ⟨vs0, hown0, _⟩ := hp0
  refine ⟨fun base A n c zs hb ho => ⟨zs, hb, rfl, ho.kept (grownBy_set w g (i * 2) _) ?_⟩, fun base A n c S hS => ⟨S, hS.setAt hp rfl (i * 2) _, fun _ => rfl⟩, fun base A n c C hC => ?_, fun g' t cs _ ht hx => hx.away (fun e => ?_) _ _⟩
  · have := owns_other2 (by decide) ho hown0
    simpa [Value.ownBlock] using this
  · obtain ⟨vs, hown, hl, hby, hin⟩ := hC
    have hk : ∀ {A' : Option Addr} {n' c' : Nat} {xs : List Int}, OwnTxt w base A' n' c' xs → OwnTxt (w.setCell ⟨g, i * 2, none⟩ (.int .i64 x)) base A' n' c' xs := fun hx => hx.keep fun g' _ hu =>
      Below.heap_setCell w _ _ g' (fun e => by subst e; exact u8_row (by decide) hu hown0 rfl)
    by_cases hg : (Value.slice A n c).ownBlock = some g
    · have hvl : vs.length = n * 2 := hown.1
      have hst : (w.setCell ⟨g, i * 2, none⟩ (.int .i64 x)).ownsRow base 30 2 (.slice A n c) n (vs.set (i * 2) (.int .i64 x)) := by
        rcases hown.2 with ⟨e, _⟩ | ⟨g', cap', cur', e, _⟩
        · rw [e] at hg; simp [Value.ownBlock] at hg
        · cases e
          have e3 : g' = g := by simpa [Value.ownBlock] using hg
          subst e3
          exact (hown.stored (i * 2) _).1
      refine ⟨C.set i (x, (C.getD i (0, [])).2), ⟨_, hst, by rw [List.length_set]; exact hl, ?_, fun j hj => ?_⟩, fun j => ?_⟩
      · intro s hs y hy
        rcases List.mem_or_eq_of_mem_set hs with hs | rfl
        · exact hby s hs y hy
        · rcases Nat.lt_or_ge i C.length with hi | hi
          · rw [List.getD_eq_getElem?_getD, List.getElem?_eq_getElem hi] at hy
            exact hby _ (List.getElem_mem _) y hy
          · rw [List.getD_eq_getElem?_getD, List.getElem?_eq_none hi] at hy
            simp at hy
      · obtain ⟨Aj, nj, cj, hv, hx, hoj⟩ := hin j hj
        by_cases e : i = j
        · subst e
          have e2 : (C.set i (x, (C.getD i (0, [])).2)).getD i (0, []) = (x, (C.getD i (0, [])).2) := by simp [List.getD_eq_getElem?_getD, show i < C.length by omega]
          exact ⟨Aj, nj, cj, by rw [List.getElem?_set_ne (by omega)]; exact hv, by rw [List.getElem?_set_self (by omega), e2], by rw [e2]; exact hk hoj⟩
        · have e2 : (C.set i (x, (C.getD i (0, [])).2)).getD j (0, []) = C.getD j (0, []) := by simp [List.getD_eq_getElem?_getD, List.getElem?_set_ne e]
          exact ⟨Aj, nj, cj, by rw [List.getElem?_set_ne (by omega)]; exact hv, by rw [List.getElem?_set_ne (by omega), e2]; exact hx, by rw [e2]; exact hk hoj⟩
      · by_cases e : i = j
        · subst e
          rcases Nat.lt_or_ge i C.length with hi | hi
          · simp [List.getD_eq_getElem?_getD, hi]
          · rw [List.set_eq_of_length_le hi]
        · simp [List.getD_eq_getElem?_getD, List.getElem?_set_ne e]
    · refine ⟨C, ⟨vs, hown.kept (grownBy_set w g (i * 2) _) ?_, hl, hby, fun j hj => ?_⟩, fun _ => rfl⟩
      · rcases hy : (Value.slice A n c).ownBlock with _ | gc
        · exact .inl rfl
        · exact .inr (fun e => hg (by rw [hy, e]))
      · obtain ⟨Aj, nj, cj, hv, hx, hoj⟩ := hin j hj
        exact ⟨Aj, nj, cj, hv, hx, hk hoj⟩
  · subst e
    rcases hown0.2 with ⟨e2, _⟩ | ⟨g2, cap, cur, e2, _, hg2, _⟩ <;> cases e2
    unfold Blk at hx
    rw [hx] at hg2
    simp at hg2
    exact ht hg2.2

theorem OwnSecs.out_len {w : World} {base : Nat} {A : Option Addr} {n c : Nat} {S : List Sec} (h : OwnSecs w base A n c S) : S.length = n := by
  obtain ⟨_, _, hl, _⟩ := h
  exact hl
theorem OwnPnds.out_len {w : World} {base : Nat} {A : Option Addr} {n c : Nat} {S : List Pnd} (h : OwnPnds w base A n c S) : S.length = n := by
  obtain ⟨_, _, hl, _⟩ := h
  exact hl
theorem SmallD.sec_at {S : List Sec} {C : List Pnd} (h : SmallD S C) (k : Nat) : (S.getD k (false, [])).2.length ≤ 100 := by
  rcases Nat.lt_or_ge k S.length with hk | hk
  · rw [List.getD_eq_getElem?_getD, List.getElem?_eq_getElem hk, Option.getD_some]
    exact h.long _ (List.getElem_mem hk)
  · rw [List.getD_eq_getElem?_getD, List.getElem?_eq_none hk]
    simp
theorem SmallD.pnd_at {S : List Sec} {C : List Pnd} (h : SmallD S C) (k : Nat) : (C.getD k (0, [])).2.length ≤ 100 := by
  rcases Nat.lt_or_ge k C.length with hk | hk
  · rw [List.getD_eq_getElem?_getD, List.getElem?_eq_getElem hk, Option.getD_some]
    exact h.wide _ (List.getElem_mem hk)
  · rw [List.getD_eq_getElem?_getD, List.getElem?_eq_none hk]
    simp

end Go.Proofs.Ytiibmlbenamgcaa
