/- Layer 16: texts of which the last lies apart from the others. No statement is proved here. -/
import Derived.Test.YtibegaoegpanpaaNtD
namespace Go.Proofs.Ytibegaoegpanpaa
open Go.RowKit
set_option linter.unusedVariables false

/-- Texts of the call's own in blocks of R; the blocks of text m are of L, those of the texts ahead of it are not. -/
def OwnLast (R L : Nat → Prop) (w : World) (base : Nat) (A : Option Addr) (n c : Nat) (q : List Text) (m : Nat) : Prop :=
  ∃ vs : List Value, w.ownsRow base 26 1 (.slice A n c) n vs ∧ (∀ g, (Value.slice A n c).ownBlock = some g → R g) ∧ q.length = n ∧ (∀ zs ∈ q, ∀ z ∈ zs, isByte z) ∧
    (∀ i, i < n → ∃ Ai ni ci, vs[i]? = some (.slice Ai ni ci) ∧ w.ownsRow base 5 1 (.slice Ai ni ci) ni (ints .u8 (q.getD i [])) ∧ (∀ g, (Value.slice Ai ni ci).ownBlock = some g → R g) ∧ (i < m → ∀ g, (Value.slice Ai ni ci).ownBlock = some g → ¬ L g) ∧ (i = m → ∀ g, (Value.slice Ai ni ci).ownBlock = some g → L g)) ∧
    (∀ g, L g → ∃ Aj nj cj, vs[m]? = some (.slice Aj nj cj) ∧ (Value.slice Aj nj cj).ownBlock = some g)
section
variable {R L P : Nat → Prop} {w w' : World} {base : Nat} {A : Option Addr} {n c m : Nat} {q : List Text}
theorem OwnLast.of (h : OwnTexts w base A n c q) (hl : LastApart w A m) (hm : m < n) : ∃ L, OwnLast (fun g => base ≤ g ∧ g < w.heap.size) L w base A n c q m := by
  obtain ⟨vs, hown, hlen, hby, hin⟩ := h
  refine ⟨fun g => ∃ Aj nj cj, vs[m]? = some (.slice Aj nj cj) ∧ (Value.slice Aj nj cj).ownBlock = some g, vs, hown, owns_band hown, hlen, hby, fun i hi => ?_, fun g h => h⟩
  obtain ⟨Ai, ni, ci, hv, ho⟩ := hin i hi
  refine ⟨Ai, ni, ci, hv, ho, owns_band ho, fun him g hg hL => ?_, fun him g hg => ?_⟩
  · obtain ⟨Aj, nj, cj, hvj, hgj⟩ := hL
    obtain ⟨gA, hA⟩ : ∃ gA, A = some ⟨gA, 0, none⟩ := by
      rcases hown.2 with ⟨_, h0⟩ | ⟨g3, cap3, cur3, e3, _⟩
      · omega
      · injection e3 with e3; exact ⟨g3, e3⟩
    subst hA
    obtain ⟨b1, o1, e1, _, c1⟩ := Seq.own hown i _ hv
    injection e1 with e1; injection e1 with e1 e2; subst e1; subst e2
    obtain ⟨b2, o2, e1, _, c2⟩ := Seq.own hown m _ hvj
    injection e1 with e1; injection e1 with e1 e2; subst e1; subst e2
    rw [Nat.zero_add] at c1 c2
    exact hl gA i Ai Aj ni ci nj cj g rfl him c1 c2 hgj hg
  · subst him
    exact ⟨Ai, ni, ci, hv, hg⟩
theorem OwnLast.below (h : OwnLast R L w base A n c q m) (hb : Below w.heap.size w w') : OwnLast R L w' base A n c q m := by
  obtain ⟨vs, hown, hr, hl, hby, hin, hL⟩ := h
  refine ⟨vs, owns_below hown hb, hr, hl, hby, fun i hi => ?_, hL⟩
  obtain ⟨Ai, ni, ci, hv, ho, hk⟩ := hin i hi
  exact ⟨Ai, ni, ci, hv, owns_below ho hb, hk⟩
theorem OwnLast.only (h : OwnLast R L w base A n c q m) (ho : Only P w w') (hp : ∀ g, R g → ¬ P g) : OwnLast R L w' base A n c q m := by
  obtain ⟨vs, hown, hr, hl, hby, hin, hL⟩ := h
  refine ⟨vs, ho.row hown (fun g e => hp g (hr g e)), hr, hl, hby, fun i hi => ?_, hL⟩
  obtain ⟨Ai, ni, ci, hv, ho2, hk, hk2⟩ := hin i hi
  exact ⟨Ai, ni, ci, hv, ho.row ho2 (fun g e => hp g (hk g e)), hk, hk2⟩
/-- Where it is: the outer block, the last text that may be written over, the others behind that. -/
theorem OwnLast.last (h : OwnLast R L w base A n c q m) (hm : m < n) (hs : Small q) (hR : ∀ g, R g → base ≤ g) :
    ∃ gA, A = some ⟨gA, 0, none⟩ ∧ (∀ g, L g → base ≤ g) ∧ SpT L w (some ⟨gA, m, none⟩) 1 ∧ ∀ w', Only L w w' → ∀ k, k < m → ∃ Ai ni ci, w'.cell? ⟨gA, k, none⟩ = some (.slice Ai ni ci) ∧ Arg w' .u8 Ai ni ci (q.getD k []) := by
  obtain ⟨vs, hown, hr, hl, hby, hin, hL⟩ := h
  obtain ⟨gA, hA⟩ : ∃ gA, A = some ⟨gA, 0, none⟩ := by
    rcases hown.2 with ⟨_, h0⟩ | ⟨g3, cap3, cur3, e3, _⟩
    · omega
    · injection e3 with e3; exact ⟨g3, e3⟩
  subst hA
  obtain ⟨Am, nm, cm, hvm, hom, hRm, _, hLm⟩ := hin m hm
  have hcell : ∀ i v, vs[i]? = some v → w.cell? ⟨gA, i, none⟩ = some v := fun i v hv => by
    obtain ⟨b1, o1, e1, _, c1⟩ := Seq.own hown i _ hv
    injection e1 with e1; injection e1 with e1 e2; subst e1; subst e2
    rwa [Nat.zero_add] at c1
  have hnot : ¬ L gA := fun h => by
    obtain ⟨Aj, nj, cj, hvj, hgj⟩ := hL gA h
    rw [hvm] at hvj
    injection hvj with hvj
    rw [← hvj] at hgj
    rcases owns_other (by decide) hom hown with h1 | h1
    · rw [h1] at hgj; cases hgj
    · exact h1 hgj
  refine ⟨gA, rfl, fun g hg => ?_, fun i hi => ?_, fun w' ho k hk => ?_⟩
  · obtain ⟨Aj, nj, cj, hvj, hgj⟩ := hL g hg
    rw [hvm] at hvj
    injection hvj with hvj
    rw [← hvj] at hgj
    exact hR g (hRm g hgj)
  · obtain rfl : i = 0 := by omega
    have hlen : nm ≤ 200 := by
      have h1 := hom.1
      rw [ints_length] at h1
      have := hs.at_ m
      omega
    refine ⟨gA, m, Am, nm, cm, base, q.getD m [], rfl, hnot, hcell m _ hvm, fun z hz => ?_, hom, hLm rfl, hlen⟩
    refine hby (q.getD m []) ?_ z hz
    rw [List.getD_eq_getElem?_getD, List.getElem?_eq_getElem (by omega)]
    exact List.getElem_mem (by omega)
  · obtain ⟨Ai, ni, ci, hv, ho2, _, hk2, _⟩ := hin k (by omega)
    exact ⟨Ai, ni, ci, (ho.cell (p := ⟨gA, k, none⟩) hnot).trans (hcell k _ hv), Arg.own (ho.row ho2 (hk2 hk))⟩
end
end Go.Proofs.Ytibegaoegpanpaa
