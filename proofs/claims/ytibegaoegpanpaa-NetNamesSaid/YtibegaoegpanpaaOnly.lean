/- Bytes of some blocks written over, and nothing else; texts in a band of blocks. No statement is proved here. -/
import Derived.Test.YtibegaoegpanpaaTexts
import Derived.Test.YtibegaoegpanpaaRingMath
namespace Go.Proofs.Ytibegaoegpanpaa
open Go.RowKit
set_option linter.unusedVariables false

/-- Only blocks of P may have turned, and rows of bytes are rows of bytes still. -/
structure Only (P : Nat → Prop) (w w' : World) : Prop where
  os : w'.os = w.os
  tape : w'.tape = w.tape
  output : w'.output = w.output
  size : w'.heap.size = w.heap.size
  block : ∀ k, ¬ P k → w'.heap[k]? = w.heap[k]?
  bytes : ∀ (base : Nat) (A : Option Addr) (n c : Nat) (zs : List Int), (∀ z ∈ zs, isByte z) → w.ownsRow base 5 1 (.slice A n c) n (ints .u8 zs) → ∃ zs', (∀ z ∈ zs', isByte z) ∧ zs'.length = zs.length ∧ w'.ownsRow base 5 1 (.slice A n c) n (ints .u8 zs')
section
variable {P : Nat → Prop} {w w' w'' : World}
theorem Only.refl (P : Nat → Prop) (w : World) : Only P w w := ⟨rfl, rfl, rfl, rfl, fun _ _ => rfl, fun _ _ _ _ zs hz ho => ⟨zs, hz, rfl, ho⟩⟩
theorem Only.trans (h : Only P w w') (k : Only P w' w'') : Only P w w'' :=
  ⟨k.os.trans h.os, k.tape.trans h.tape, k.output.trans h.output, k.size.trans h.size, fun i hi => (k.block i hi).trans (h.block i hi), fun base A n c zs hz ho => by
    obtain ⟨z1, h1, h2, h3⟩ := h.bytes base A n c zs hz ho
    obtain ⟨z2, k1, k2, k3⟩ := k.bytes base A n c z1 h1 h3
    exact ⟨z2, k1, k2.trans h2, k3⟩⟩
theorem Only.drew (h : Only P w w') : Only P w w'.drew :=
  ⟨h.os, h.tape, h.output, h.size, h.block, fun base A n c zs hz ho => by
    obtain ⟨z1, h1, h2, h3⟩ := h.bytes base A n c zs hz ho
    exact ⟨z1, h1, h2, owns_below h3 ((Below.refl _ _).drew)⟩⟩
theorem Only.row {base : Nat} {e : TypeId} {s : Nat} {v : Value} {n : Nat} {xs : List Value} (h : Only P w w') (ho : w.ownsRow base e s v n xs) (hp : ∀ g, v.ownBlock = some g → ¬ P g) : w'.ownsRow base e s v n xs := by
  refine ⟨ho.1, ?_⟩
  rcases ho.2 with hn | ⟨g, cap, cur, rfl, hb, hgg, rest⟩
  · exact .inl hn
  · exact .inr ⟨g, cap, cur, rfl, hb, (h.block g (hp g rfl)).trans hgg, rest⟩
theorem Only.cell (h : Only P w w') {p : Addr} (hp : ¬ P p.block) : w'.cell? p = w.cell? p := World.cell?_of_block (w := w) (h.block p.block hp)
theorem Only.below (h : Only P w w') {B : Nat} (hp : ∀ g, P g → B ≤ g) : Below B w w' :=
  ⟨h.os, h.tape, h.output, Nat.le_of_eq h.size.symm, fun k hk => h.block k fun e => by have := hp k e; omega⟩
theorem Only.mono {Q : Nat → Prop} (h : Only P w w') (hq : ∀ g, P g → Q g) : Only Q w w' :=
  ⟨h.os, h.tape, h.output, h.size, fun k hk => h.block k fun e => hk (hq k e), h.bytes⟩
theorem only_bytes {g : Nat} (k : Nat) {z : Int} (hz : isByte z) {base : Nat} {A : Option Addr} {n c : Nat} {zs : List Int} (hb : ∀ y ∈ zs, isByte y) (ho : w.ownsRow base 5 1 (.slice A n c) n (ints .u8 zs)) :
    ∃ zs', (∀ y ∈ zs', isByte y) ∧ zs'.length = zs.length ∧ (w.setCell ⟨g, k, none⟩ (.int .u8 z)).ownsRow base 5 1 (.slice A n c) n (ints .u8 zs') := by
  by_cases hg : (Value.slice A n c).ownBlock = some g
  · refine ⟨zs.set k z, fun y hy => ?_, List.length_set, ?_⟩
    · rcases List.mem_or_eq_of_mem_set hy with hy | rfl
      · exact hb y hy
      · exact hz
    · rw [← set_ints]
      rcases ho.2 with ⟨e, _⟩ | ⟨g', cap', cur', e, _⟩
      · rw [e] at hg; simp [Value.ownBlock] at hg
      · cases e
        have e3 : g' = g := by simpa [Value.ownBlock] using hg
        subst e3
        exact (ho.stored k _).1
  · refine ⟨zs, hb, rfl, ho.kept (grownBy_set w g k _) ?_⟩
    rcases hy : (Value.slice A n c).ownBlock with _ | gc
    · exact .inl rfl
    · exact .inr (fun e => hg (by rw [hy, e]))
theorem Only.set {g : Nat} (h : Only P w w') (hp : P g) (k : Nat) {z : Int} (hz : isByte z) : Only P w (w'.setCell ⟨g, k, none⟩ (.int .u8 z)) :=
  h.trans ⟨rfl, rfl, rfl, by simp [World.setCell], fun i hi => Below.heap_setCell w' ⟨g, k, none⟩ _ i (fun e => hi (by rw [e]; exact hp)), fun base A n c zs hb ho => only_bytes k hz hb ho⟩
end

/-- Texts of the call's own, all blocks of which are of R. -/
def OwnIn (R : Nat → Prop) (w : World) (base : Nat) (A : Option Addr) (n c : Nat) (q : List Text) : Prop :=
  ∃ vs : List Value, w.ownsRow base 26 1 (.slice A n c) n vs ∧ (∀ g, (Value.slice A n c).ownBlock = some g → R g) ∧ q.length = n ∧ (∀ zs ∈ q, ∀ z ∈ zs, isByte z) ∧
    ∀ i, i < n → ∃ Ai ni ci, vs[i]? = some (.slice Ai ni ci) ∧ w.ownsRow base 5 1 (.slice Ai ni ci) ni (ints .u8 (q.getD i [])) ∧ ∀ g, (Value.slice Ai ni ci).ownBlock = some g → R g
section
variable {R P : Nat → Prop} {w w' : World} {base : Nat} {A : Option Addr} {n c : Nat} {q : List Text}
theorem owns_band {e : TypeId} {s k : Nat} {v : Value} {xs : List Value} (h : w.ownsRow base e s v k xs) (g : Nat) (hg : v.ownBlock = some g) : base ≤ g ∧ g < w.heap.size := h.lt g hg
theorem OwnIn.of (h : OwnTexts w base A n c q) : OwnIn (fun g => base ≤ g ∧ g < w.heap.size) w base A n c q := by
  obtain ⟨vs, hown, hl, hby, hin⟩ := h
  refine ⟨vs, hown, owns_band hown, hl, hby, fun i hi => ?_⟩
  obtain ⟨Ai, ni, ci, hv, ho⟩ := hin i hi
  exact ⟨Ai, ni, ci, hv, ho, owns_band ho⟩
theorem OwnIn.own (h : OwnIn R w base A n c q) : OwnTexts w base A n c q := by
  obtain ⟨vs, hown, _, hl, hby, hin⟩ := h
  refine ⟨vs, hown, hl, hby, fun i hi => ?_⟩
  obtain ⟨Ai, ni, ci, hv, ho, _⟩ := hin i hi
  exact ⟨Ai, ni, ci, hv, ho⟩
theorem OwnIn.below (h : OwnIn R w base A n c q) (hb : Below w.heap.size w w') : OwnIn R w' base A n c q := by
  obtain ⟨vs, hown, hr, hl, hby, hin⟩ := h
  refine ⟨vs, owns_below hown hb, hr, hl, hby, fun i hi => ?_⟩
  obtain ⟨Ai, ni, ci, hv, ho, hk⟩ := hin i hi
  exact ⟨Ai, ni, ci, hv, owns_below ho hb, hk⟩
theorem OwnIn.only (h : OwnIn R w base A n c q) (ho : Only P w w') (hp : ∀ g, R g → ¬ P g) : OwnIn R w' base A n c q := by
  obtain ⟨vs, hown, hr, hl, hby, hin⟩ := h
  refine ⟨vs, ho.row hown (fun g e => hp g (hr g e)), hr, hl, hby, fun i hi => ?_⟩
  obtain ⟨Ai, ni, ci, hv, ho2, hk⟩ := hin i hi
  exact ⟨Ai, ni, ci, hv, ho.row ho2 (fun g e => hp g (hk g e)), hk⟩
end

/-- Texts that may be written over: the row stays (its block is none of P), each text is a row of bytes in a block of P. -/
def SpT (P : Nat → Prop) (w : World) (A : Option Addr) (n : Nat) : Prop :=
  ∀ i, i < n → ∃ b o Ai ni ci base zs, A = some ⟨b, o, none⟩ ∧ ¬ P b ∧ w.cell? ⟨b, o + i, none⟩ = some (.slice Ai ni ci) ∧ (∀ z ∈ zs, isByte z) ∧ w.ownsRow base 5 1 (.slice Ai ni ci) ni (ints .u8 zs) ∧ (∀ g, (Value.slice Ai ni ci).ownBlock = some g → P g) ∧ ni ≤ 200
section
variable {R P : Nat → Prop} {w w' : World} {base : Nat} {A : Option Addr} {n c : Nat} {q : List Text}
theorem SpT.only (h : SpT P w A n) (ho : Only P w w') : SpT P w' A n := fun i hi => by
  obtain ⟨b, o, Ai, ni, ci, bs, zs, e, hb, hc, hz, hr, hp, h2⟩ := h i hi
  obtain ⟨zs', hz', hl', hr'⟩ := ho.bytes bs Ai ni ci zs hz hr
  exact ⟨b, o, Ai, ni, ci, bs, zs', e, hb, (ho.cell (p := ⟨b, o + i, none⟩) hb).trans hc, hz', hr', hp, h2⟩
theorem SpT.of (h : OwnIn R w base A n c q) (hs : Small q) : SpT (fun g => R g ∧ ∀ a, A = some a → g ≠ a.block) w A n := fun i hi => by
  obtain ⟨vs, hown, hr, hl, hby, hin⟩ := h
  obtain ⟨Ai, ni, ci, hv, ho, hk⟩ := hin i hi
  obtain ⟨b, o, e, _, hc⟩ := Seq.own hown i _ hv
  have hlen : ni ≤ 200 := by
    have h1 := ho.1
    rw [ints_length] at h1
    have := hs.at_ i
    omega
  refine ⟨b, o, Ai, ni, ci, base, q.getD i [], e, fun hx => hx.2 _ e rfl, hc, fun z hz => ?_, ho, fun g hg => ⟨hk g hg, fun a ha e2 => ?_⟩, hlen⟩
  · rcases Nat.lt_or_ge i q.length with h1 | h1
    · refine hby (q.getD i []) ?_ z hz
      rw [List.getD_eq_getElem?_getD, List.getElem?_eq_getElem h1]
      exact List.getElem_mem h1
    · rw [List.getD_eq_getElem?_getD, List.getElem?_eq_none h1] at hz
      simp at hz
  · subst ha
    rcases owns_other (by decide) ho hown with h1 | h1
    · rw [h1] at hg; cases hg
    · apply h1
      rw [hg]
      rcases hown.2 with ⟨e3, _⟩ | ⟨g3, cap3, cur3, e3, _⟩
      · injection e3 with e3; cases e3
      · injection e3 with e3
        injection e3 with e3
        rw [e2, e3]
        rfl
end
end Go.Proofs.Ytibegaoegpanpaa
