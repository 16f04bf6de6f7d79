/- Layer 5: a disk as a value: what a law's frame hands over, and its boxes. No statement is proved here. -/
import Derived.Test.YteinfkjlcpfeiaaSecs
import Derived.Test.YteinfkjlcpfeiaaPnds
import Derived.Deep.SlicePairs
namespace Go.Proofs.Yteinfkjlcpfeiaa
open Go.RowKit Go.OpenShut Go.ChangeShapes Go.WideShapes Go.Deep Go.Joins
set_option linter.unusedVariables false

/-- A disk's value. -/
abbrev diskV (A : Option Addr) (n c : Nat) (A' : Option Addr) (n' c' : Nat) : Value := .agg #[.slice A n c, .slice A' n' c']
/-- A disk, as it is read. -/
structure Dsk (w : World) (A : Option Addr) (n c : Nat) (A' : Option Addr) (n' c' : Nat) (S : List Sec) (C : List Pnd) : Prop where
  secs : Secs w A n c S
  pnds : Pnds w A' n' c' C
/-- A disk of the call's own. -/
structure OwnDsk (w : World) (base : Nat) (A : Option Addr) (n c : Nat) (A' : Option Addr) (n' c' : Nat) (S : List Sec) (C : List Pnd) : Prop where
  secs : OwnSecs w base A n c S
  pnds : OwnPnds w base A' n' c' C
section
variable {w w' : World} {base base' : Nat} {A A' : Option Addr} {n c n' c' : Nat} {S : List Sec} {C : List Pnd}
theorem Dsk.below (h : Dsk w A n c A' n' c' S C) (hb : Below w.heap.size w w') : Dsk w' A n c A' n' c' S C := ⟨h.secs.below hb, h.pnds.below hb⟩
theorem Dsk.of_own (h : OwnDsk w base A n c A' n' c' S C) : Dsk w A n c A' n' c' S C := ⟨Secs.of_own h.secs, Pnds.of_own h.pnds⟩
theorem OwnDsk.below (h : OwnDsk w base A n c A' n' c' S C) (hb : Below w.heap.size w w') : OwnDsk w' base A n c A' n' c' S C := ⟨h.secs.below hb, h.pnds.below hb⟩
theorem OwnDsk.lower (h : OwnDsk w base A n c A' n' c' S C) (hb : base' ≤ base) : OwnDsk w base' A n c A' n' c' S C := ⟨h.secs.lower hb, h.pnds.lower hb⟩
theorem OwnDsk.nil (w : World) (base : Nat) : OwnDsk w base none 0 0 none 0 0 [] [] := ⟨OwnSecs.nil _ _, OwnPnds.nil _ _⟩
theorem OwnDsk.away (h : OwnDsk w base A n c A' n' c' S C) {g : Nat} (hg : g < base) (i : Nat) (u : Value) : OwnDsk (w.setCell ⟨g, i, none⟩ u) base A n c A' n' c' S C := ⟨h.secs.away hg i u, h.pnds.away hg i u⟩
theorem OwnDsk.box (h : OwnDsk w base A n c A' n' c' S C) {g : Nat} {cs : List Value} (hb : Blk w g 25 cs) (i : Nat) (u : Value) : OwnDsk (w.setCell ⟨g, i, none⟩ u) base A n c A' n' c' S C :=
  ⟨h.secs.box hb (by decide) (by decide) i u, h.pnds.box hb (by decide) (by decide) i u⟩
end
/-- A block of two cells written whole. -/
theorem Blk.two {w : World} {g : Nat} {t : TypeId} {a b : Value} (h : Blk w g t [a, b]) (x y : Value) : Blk ((w.setCell ⟨g, 0, none⟩ x).setCell ⟨g, 1, none⟩ y) g t [x, y] := (h.set 0 x).set 1 y
theorem Blk.away {w : World} {g g' : Nat} {t : TypeId} {cs : List Value} (h : Blk w g t cs) (hg : g ≠ g') (i : Nat) (u : Value) : Blk (w.setCell ⟨g', i, none⟩ u) g t cs :=
  h.grown (grownBy_set w g' i u) (fun e => hg (by injection e))
theorem below_two {B : Nat} {w0 w : World} (h : Below B w0 w) {g : Nat} (hg : B ≤ g) (x y : Value) : Below B w0 ((w.setCell ⟨g, 0, none⟩ x).setCell ⟨g, 1, none⟩ y) :=
  (h.setCell (p := ⟨g, 0, none⟩) hg x).setCell (p := ⟨g, 1, none⟩) hg y
theorem OwnDsk.two {w : World} {base : Nat} {A A' : Option Addr} {n c n' c' : Nat} {S : List Sec} {C : List Pnd} (h : OwnDsk w base A n c A' n' c' S C) {g : Nat} {cs : List Value} (hb : Blk w g 25 cs) (x y : Value) :
    OwnDsk ((w.setCell ⟨g, 0, none⟩ x).setCell ⟨g, 1, none⟩ y) base A n c A' n' c' S C := (h.box hb 0 x).box (hb.set 0 x) 1 y

/-- Sectors of the call's own stay where its row of writes grows. -/
theorem OwnSecs.beside {w w' : World} {base b : Nat} {A B : Option Addr} {n c m d : Nat} {S : List Sec} {C : List Pnd} (h : OwnSecs w base A n c S) (hp : OwnPnds w b B m d C) (hg : w.grownBy w' (Value.slice B m d).ownBlock) : OwnSecs w' base A n c S := by
  obtain ⟨vs, hown, _⟩ := hp
  exact h.other hown (by decide) (by decide) hg
theorem OwnPnds.beside {w w' : World} {base b : Nat} {A B : Option Addr} {n c m d : Nat} {S : List Sec} {C : List Pnd} (h : OwnPnds w base A n c C) (hp : OwnSecs w b B m d S) (hg : w.grownBy w' (Value.slice B m d).ownBlock) : OwnPnds w' base A n c C := by
  obtain ⟨vs, hown, _⟩ := hp
  exact h.other hown (by decide) (by decide) hg
/-- A disk's box is no block of theirs. -/
theorem OwnPnds.not_blk {w : World} {base g : Nat} {A : Option Addr} {n c : Nat} {C : List Pnd} {cs : List Value} (h : OwnPnds w base A n c C) (hb : Blk w g 25 cs) : some g ≠ (Value.slice A n c).ownBlock := by
  obtain ⟨vs, hown, _⟩ := h
  intro e
  rcases hown.2 with ⟨e2, _⟩ | ⟨g', cap, cur, e2, _, hg', _⟩ <;> cases e2
  · simp [Value.ownBlock] at e
  · have e3 : g = g' := by simpa [Value.ownBlock] using e
    subst e3
    unfold Blk at hb
    rw [hb] at hg'
    simp at hg'
theorem OwnSecs.not_blk {w : World} {base g : Nat} {A : Option Addr} {n c : Nat} {C : List Sec} {cs : List Value} (h : OwnSecs w base A n c C) (hb : Blk w g 25 cs) : some g ≠ (Value.slice A n c).ownBlock := by
  obtain ⟨vs, hown, _⟩ := h
  intro e
  rcases hown.2 with ⟨e2, _⟩ | ⟨g', cap, cur, e2, _, hg', _⟩ <;> cases e2
  · simp [Value.ownBlock] at e
  · have e3 : g = g' := by simpa [Value.ownBlock] using e
    subst e3
    unfold Blk at hb
    rw [hb] at hg'
    simp at hg'
theorem below_base {B B' : Nat} {w w' : World} (h : Below B w w') (hb : B' ≤ B) : Below B' w w' := h.mono hb

/-- A disk's box: its two cells. -/
theorem box_disk (w : World) (A : Option Addr) (n c : Nat) (A' : Option Addr) (n' c' : Nat) :
    (w.alloc (.cells #[.slice A n c, .slice A' n' c'] 25)).cell? ⟨w.heap.size, 0, none⟩ = some (.slice A n c) ∧
    (w.alloc (.cells #[.slice A n c, .slice A' n' c'] 25)).cell? ⟨w.heap.size, 1, none⟩ = some (.slice A' n' c') :=
  ⟨(Blk.new w 25 [.slice A n c, .slice A' n' c']).cell 0, (Blk.new w 25 [.slice A n c, .slice A' n' c']).cell 1⟩
theorem boxes2 (w : World) (A : Option Addr) (n c : Nat) (A' : Option Addr) (n' c' : Nat) (B : Option Addr) (k d : Nat) (B' : Option Addr) (k' d' : Nat) :
    Blk ((w.alloc (.cells #[.slice A n c, .slice A' n' c'] 25)).alloc (.cells #[.slice B k d, .slice B' k' d'] 25)) w.heap.size 25 [.slice A n c, .slice A' n' c'] ∧
    Blk ((w.alloc (.cells #[.slice A n c, .slice A' n' c'] 25)).alloc (.cells #[.slice B k d, .slice B' k' d'] 25)) (w.heap.size + 1) 25 [.slice B k d, .slice B' k' d'] ∧
    Below w.heap.size w ((w.alloc (.cells #[.slice A n c, .slice A' n' c'] 25)).alloc (.cells #[.slice B k d, .slice B' k' d'] 25)) := by
  refine ⟨(Blk.new w 25 [.slice A n c, .slice A' n' c']).grown (World.grownBy_alloc _ _ none) (by simp), ?_, ((Below.refl _ _).alloc (Nat.le_refl _) _).alloc (by simp) _⟩
  have := Blk.new (w.alloc (.cells #[.slice A n c, .slice A' n' c'] 25)) 25 [.slice B k d, .slice B' k' d']
  rwa [World.size_alloc] at this

/-- What a law's frame hands over: a row of bytes. -/
theorem open_text {H : Type} {enc : TypeId × Value → H} {W : World} {fuel : Nat} {v : Value} {y : DataW H × List MemPlace} (h : DataW.trod enc Try.prog W 0 (fun _ => true) true fuel 31 [v] = some y) :
    ∃ A n c zs, v = .slice A n c ∧ Arg W .u8 A n c zs ∧ ∀ z ∈ zs, isByte z := by
  rcases open_ints Try.underlying31 Try.underlying5 (by kernel_rfl) h with ⟨hcs, _⟩ | ⟨x, l, c, zs, hcs, _, hl, hm, hz, _, hcell, hwz⟩
  · have hv : v = .slice none 0 0 := by simpa using hcs
    exact ⟨none, 0, 0, [], hv, Arg.nil _ _, by simp⟩
  · have hv : v = .slice (some x) l c := by simpa using hcs
    have hrow : IsRow .u8 W (some x) l c zs := .inr ⟨_, rfl, hl, hm, by simpa using hz, hcell, hwz⟩
    obtain ⟨ls, h1, h2⟩ := hrow.arg
    exact ⟨some x, l, c, ls, hv, h1, fun z hz => wf_byte (h2 z hz)⟩

theorem add_none (b o i : Nat) : (⟨b, o, none⟩ : Addr).add i = ⟨b, o + i, none⟩ := by unfold Addr.add; split <;> simp_all

theorem open_secs {H : Type} {enc : TypeId × Value → H} {W : World} {fuel : Nat} {v : Value} {y : DataW H × List MemPlace} (h : DataW.trod enc Try.prog W 0 (fun _ => true) true fuel 22 [v] = some y) :
    ∃ A n c ss, v = .slice A n c ∧ Secs W A n c ss := by
  rcases open_slice_pairs Try.underlying22 Try.underlying39 (by kernel_rfl) rfl rfl (by kernel_rfl) (by kernel_rfl) h with ⟨hcs, _⟩ | ⟨a, len, cap, m, k, V0, V1, D0, D1, P0, P1, hcs, _, hl, hm, hmm, _, hx⟩
  · have hv : v = .slice none 0 0 := by simpa using hcs
    exact ⟨none, 0, 0, [], hv, Secs.nil W⟩
  · have hv : v = .slice (some a) len cap := by simpa using hcs
    simp only [if_true] at hmm
    have each : ∀ i, i < len → ∃ s : Sec, (∃ Ai ni ci, V0 i = .slice Ai ni ci ∧ V1 i = .bool s.1 ∧ Arg W .u8 Ai ni ci s.2) ∧ ∀ z ∈ s.2, isByte z := fun i hi => by
      obtain ⟨_, _, h0, h1⟩ := hx i (by omega)
      obtain ⟨Ai, ni, ci, zs, e0, ha, hb⟩ := open_text h0
      obtain ⟨bb, e1, _⟩ := DataW.trod_bool Try.underlying4 h1
      exact ⟨(bb, zs), ⟨Ai, ni, ci, e0, by simpa using e1, ha⟩, hb⟩
    obtain ⟨s, hs⟩ := choose_lt each
    refine ⟨some a, len, cap, (List.range len).map s, hv, by simp, hl, hm, ?_, fun i hi => ?_⟩
    · intro t ht
      obtain ⟨r, hr, rfl⟩ := List.mem_map.1 ht
      exact (hs r (List.mem_range.1 hr)).2
    · obtain ⟨b, o, spot⟩ := a
      have hc0 := (hx 0 (by omega)).1
      have hsp : spot = none := by simpa [Addr.add] using World.cell?_spot hc0
      subst hsp
      obtain ⟨hc, hc1, _, _⟩ := hx i (by omega)
      rw [add_none] at hc hc1
      obtain ⟨Ai, ni, ci, e0, e1, ha⟩ := (hs i hi).1
      have e2 : ((List.range len).map s).getD i (false, []) = s i := by simp [List.getD_eq_getElem?_getD, hi]
      refine ⟨b, o, Ai, ni, ci, rfl, World.block_lt_of_cell? W _ hc, by rw [← e0]; exact hc, by rw [e2, ← e1]; exact hc1, by rw [e2]; exact ha⟩
theorem open_pnds {H : Type} {enc : TypeId × Value → H} {W : World} {fuel : Nat} {v : Value} {y : DataW H × List MemPlace} (h : DataW.trod enc Try.prog W 0 (fun _ => true) true fuel 23 [v] = some y) :
    ∃ A n c ss, v = .slice A n c ∧ Pnds W A n c ss ∧ ∀ p ∈ ss, (Lit.int .i64 p.1).wf = true := by
  rcases open_slice_pairs Try.underlying23 Try.underlying63 (by kernel_rfl) rfl rfl (by kernel_rfl) (by kernel_rfl) h with ⟨hcs, _⟩ | ⟨a, len, cap, m, k, V0, V1, D0, D1, P0, P1, hcs, _, hl, hm, hmm, _, hx⟩
  · have hv : v = .slice none 0 0 := by simpa using hcs
    exact ⟨none, 0, 0, [], hv, Pnds.nil W, by simp⟩
  · have hv : v = .slice (some a) len cap := by simpa using hcs
    simp only [if_true] at hmm
    have each : ∀ i, i < len → ∃ s : Pnd, (∃ Ai ni ci, V1 i = .slice Ai ni ci ∧ V0 i = .int .i64 s.1 ∧ Arg W .u8 Ai ni ci s.2) ∧ (∀ z ∈ s.2, isByte z) ∧ (Lit.int .i64 s.1).wf = true := fun i hi => by
      obtain ⟨_, _, h0, h1⟩ := hx i (by omega)
      obtain ⟨Ai, ni, ci, zs, e0, ha, hb⟩ := open_text h1
      obtain ⟨x, e1, _, hw⟩ := DataW.trod_int Try.underlying3 h0
      exact ⟨(x, zs), ⟨Ai, ni, ci, e0, by simpa using e1, ha⟩, hb, hw⟩
    obtain ⟨s, hs⟩ := choose_lt each
    refine ⟨some a, len, cap, (List.range len).map s, hv, ⟨by simp, hl, hm, ?_, fun i hi => ?_⟩, ?_⟩
    · intro t ht
      obtain ⟨r, hr, rfl⟩ := List.mem_map.1 ht
      exact (hs r (List.mem_range.1 hr)).2.1
    · obtain ⟨b, o, spot⟩ := a
      have hc0 := (hx 0 (by omega)).1
      have hsp : spot = none := by simpa [Addr.add] using World.cell?_spot hc0
      subst hsp
      obtain ⟨hc, hc1, _, _⟩ := hx i (by omega)
      rw [add_none] at hc hc1
      obtain ⟨Ai, ni, ci, e0, e1, ha⟩ := (hs i hi).1
      have e2 : ((List.range len).map s).getD i (0, []) = s i := by simp [List.getD_eq_getElem?_getD, hi]
      refine ⟨b, o, Ai, ni, ci, rfl, World.block_lt_of_cell? W _ hc, by rw [← e0]; exact hc1, by rw [e2, ← e1]; exact hc, by rw [e2]; exact ha⟩
    · intro t ht
      obtain ⟨r, hr, rfl⟩ := List.mem_map.1 ht
      exact (hs r (List.mem_range.1 hr)).2.2

set_option maxRecDepth 100000 in
/-- What a law's frame hands over: a disk. -/
theorem open_disk {H : Type} {enc : TypeId × Value → H} {W : World} {b0 : Nat} {r : Reach} {v : Value} {d : DataW H} {p : List MemPlace} (hv : Value.okWide Try.prog W r b0 25 v) (h : DataW.Trod enc Try.prog W 0 (fun _ => true) true 25 v d p) :
    ∃ A n c A' n' c' S C, v = diskV A n c A' n' c' ∧ Dsk W A n c A' n' c' S C ∧ ∀ p ∈ C, (Lit.int .i64 p.1).wf = true := by
  obtain ⟨v0, v1, y0, y1, n, rfl, _, _, h0, h1⟩ := open_agg2 Try.underlying25 (by kernel_rfl) (by kernel_rfl) hv h
  obtain ⟨A, l, c, S, rfl, hs⟩ := open_secs h0
  obtain ⟨A', l', c', C, rfl, hp, hw⟩ := open_pnds h1
  exact ⟨A, l, c, A', l', c', S, C, rfl, ⟨hs, hp⟩, hw⟩

end Go.Proofs.Yteinfkjlcpfeiaa
