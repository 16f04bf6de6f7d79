/- Bytes of the call's own that lie anywhere in a block of bytes. No statement is proved here. -/
import Derived.Test.YteinfkjlcpfeiaaPairs
namespace Go.Proofs.Yteinfkjlcpfeiaa
open Go.RowKit Go.OpenShut
set_option linter.unusedVariables false

/-- A row stays where its block does. -/
theorem owns_keep {w w' : World} {base : Nat} {e : TypeId} {s : Nat} {v : Value} {n : Nat} {xs : List Value} (h : w.ownsRow base e s v n xs) (hk : ∀ (g : Nat) (cs : Array Value), base ≤ g → w.heap[g]? = some (.cells cs e (0, 0)) → w'.heap[g]? = w.heap[g]?) : w'.ownsRow base e s v n xs := by
  refine ⟨h.1, ?_⟩
  rcases h.2 with h2 | ⟨g, cap, cur, hv, hb, hg, r⟩
  · exact .inl h2
  · exact .inr ⟨g, cap, cur, hv, hb, (hk g cur hb hg).trans hg, r⟩
/-- A block of bytes, none frozen. -/
def U8 (w : World) (g : Nat) : Prop := ∃ cs, w.heap[g]? = some (.cells cs 5 (0, 0))
theorem U8.lt {w : World} {g : Nat} (h : U8 w g) : g < w.heap.size := by
  obtain ⟨cs, hc⟩ := h
  exact (Array.getElem?_eq_some_iff.1 hc).1
theorem u8_row {w : World} {g b : Nat} {e : TypeId} {s : Nat} {v : Value} {n : Nat} {xs : List Value} (he : 5 ≠ e) (h : U8 w g) (hr : w.ownsRow b e s v n xs) : v.ownBlock ≠ some g := fun e2 => by
  obtain ⟨cs, hc⟩ := h
  rcases hr.2 with ⟨rfl, _⟩ | ⟨g2, cap, cur, rfl, _, hg2, _⟩
  · simp [Value.ownBlock] at e2
  · have e3 : g2 = g := by simpa [Value.ownBlock] using e2
    subst e3
    rw [hg2] at hc
    simp at hc
    exact he hc.2.symm
theorem u8_blk {w : World} {g : Nat} {t : TypeId} {cs : List Value} (he : t ≠ 5) (h : U8 w g) (hb : Blk w g t cs) : False := by
  obtain ⟨cs', hc⟩ := h
  unfold Blk at hb
  rw [hb] at hc
  simp at hc
  exact he hc.2
theorem U8.set {w : World} {g g' k : Nat} {u : Value} (h : U8 w g) : U8 (w.setCell ⟨g', k, none⟩ u) g := by
  obtain ⟨cs, hc⟩ := h
  by_cases e : g = g'
  · subst e
    exact ⟨cs.setIfInBounds k u, by simp [World.setCell, Array.getElem?_modify, hc]⟩
  · exact ⟨cs, (Below.heap_setCell w _ u g e).trans hc⟩
theorem U8.of_owns {w : World} {base g n c : Nat} {o : Nat} {xs : List Value} (h : w.ownsRow base 5 1 (.slice (some ⟨g, o, none⟩) n c) n xs) : U8 w g := by
  rcases h.2 with ⟨e, h0⟩ | ⟨g', cap, cur, e, hb, hg, _⟩ <;> cases e
  exact ⟨cur, hg⟩

/-- A row of bytes in a block of the call's own, wherever it lies there. -/
def OwnTxt (w : World) (base : Nat) (A : Option Addr) (n c : Nat) (zs : List Int) : Prop :=
  zs.length = n ∧ n ≤ c ∧ c ≤ maxLen ∧ (n = 0 ∨ ∃ g o cs, A = some ⟨g, o, none⟩ ∧ base ≤ g ∧ w.heap[g]? = some (.cells cs 5 (0, 0)) ∧ ∀ j, j < n → cs[o + j]? = some (.int .u8 (zs.getD j 0)))
section
variable {w w' : World} {base base' : Nat} {A : Option Addr} {n c : Nat} {zs : List Int}
theorem OwnTxt.of (h : w.ownsRow base 5 1 (.slice A n c) n (ints .u8 zs)) : OwnTxt w base A n c zs := by
  have ha := Arg.own h
  refine ⟨ha.len, ha.cap, ha.max, ?_⟩
  rcases h.2 with ⟨e, h0⟩ | ⟨g, cap, cur, e, hb, hg, h1, h2, h3, h4⟩
  · exact .inl h0
  · cases e
    refine .inr ⟨g, 0, cur, rfl, hb, hg, fun j hj => ?_⟩
    have e2 := ints_getD .u8 zs j (by have := ha.len; omega)
    rw [← h4, List.getElem?_take, if_pos (by omega)] at e2
    simpa using e2
theorem OwnTxt.nil (w : World) (base : Nat) : OwnTxt w base none 0 0 [] := ⟨rfl, Nat.le_refl _, by decide, .inl rfl⟩
theorem OwnTxt.at_ (h : OwnTxt w base A n c zs) {j : Nat} (hj : j < n) : ∃ g o, A = some ⟨g, o, none⟩ ∧ base ≤ g ∧ U8 w g ∧ w.cell? ⟨g, o + j, none⟩ = some (.int .u8 (zs.getD j 0)) ∧ w.frozen? ⟨g, o + j, none⟩ = false := by
  obtain ⟨_, _, _, h0 | ⟨g, o, cs, e, hb, hg, hc⟩⟩ := h
  · omega
  · refine ⟨g, o, e, hb, ⟨cs, hg⟩, ?_, ?_⟩
    · have := cell_of_row w g (o + j) cs 5 (0, 0) hg
      rw [this]
      exact hc j hj
    · simp [World.frozen?, hg]
theorem OwnTxt.arg (h : OwnTxt w base A n c zs) : Arg w .u8 A n c zs := by
  refine ⟨fun j v hv => ?_, h.1, h.2.1, h.2.2.1⟩
  have hj : j < zs.length := by
    rcases Nat.lt_or_ge j zs.length with hj | hj
    · exact hj
    · rw [List.getElem?_eq_none (by rw [ints_length]; exact hj)] at hv; cases hv
  rw [ints_getD .u8 zs j hj] at hv
  injection hv with hv
  subst hv
  obtain ⟨g, o, e, hb, hu, hc, _⟩ := h.at_ (j := j) (by have := h.1; omega)
  exact ⟨g, o, e, hu.lt, hc⟩
theorem OwnTxt.keep (h : OwnTxt w base A n c zs) (hk : ∀ g, base ≤ g → U8 w g → w'.heap[g]? = w.heap[g]?) : OwnTxt w' base A n c zs := by
  obtain ⟨h1, h2, h3, h4⟩ := h
  refine ⟨h1, h2, h3, ?_⟩
  rcases h4 with h0 | ⟨g, o, cs, e, hb, hg, hc⟩
  · exact .inl h0
  · exact .inr ⟨g, o, cs, e, hb, (hk g hb ⟨cs, hg⟩).trans hg, hc⟩
theorem OwnTxt.below (h : OwnTxt w base A n c zs) (hb : Below w.heap.size w w') : OwnTxt w' base A n c zs := h.keep fun g _ hu => hb.block g hu.lt
theorem OwnTxt.lower (h : OwnTxt w base A n c zs) (hb : base' ≤ base) : OwnTxt w base' A n c zs := by
  obtain ⟨h1, h2, h3, h4⟩ := h
  refine ⟨h1, h2, h3, ?_⟩
  rcases h4 with h0 | ⟨g, o, cs, e, hg, r⟩
  · exact .inl h0
  · exact .inr ⟨g, o, cs, e, Nat.le_trans hb hg, r⟩
theorem OwnTxt.allocated (h : OwnTxt w base A n c zs) (o : Obj) : OwnTxt (w.alloc o) base A n c zs := h.below ((Below.refl _ _).alloc (Nat.le_refl _) o)
end
/-- What is left of a row of bytes where one byte of a block is written over. -/
def touchL (A : Option Addr) (g k : Nat) (z : Int) (zs : List Int) : List Int :=
  match A with
  | some a => if a.block = g ∧ a.off ≤ k then zs.set (k - a.off) z else zs
  | none => zs
theorem touchL_len (A : Option Addr) (g k : Nat) (z : Int) (zs : List Int) : (touchL A g k z zs).length = zs.length := by
  unfold touchL
  split
  · split
    · rw [List.length_set]
    · rfl
  · rfl
theorem touchL_byte (A : Option Addr) (g k : Nat) {z : Int} (hz : isByte z) {zs : List Int} (h : ∀ y ∈ zs, isByte y) : ∀ y ∈ touchL A g k z zs, isByte y := by
  unfold touchL
  split
  · split
    · intro y hy
      rcases List.mem_or_eq_of_mem_set hy with hy | rfl
      · exact h y hy
      · exact hz
    · exact h
  · exact h
theorem OwnTxt.touch {w : World} {base g k : Nat} {A : Option Addr} {n c : Nat} {zs : List Int} (h : OwnTxt w base A n c zs) (z : Int) : OwnTxt (w.setCell ⟨g, k, none⟩ (.int .u8 z)) base A n c (touchL A g k z zs) := by
  obtain ⟨h1, h2, h3, h4⟩ := h
  refine ⟨(touchL_len ..).trans h1, h2, h3, ?_⟩
  rcases h4 with h0 | ⟨g', o, cs, rfl, hb, hg, hc⟩
  · exact .inl h0
  · refine .inr ?_
    by_cases e : g' = g
    · subst e
      refine ⟨g', o, cs.setIfInBounds k (.int .u8 z), rfl, hb, by simp [World.setCell, Array.getElem?_modify, hg], fun j hj => ?_⟩
      have hcj := hc j hj
      by_cases ek : k = o + j
      · subst ek
        have hlt : o + j < cs.size := (Array.getElem?_eq_some_iff.1 hcj).1
        simp [touchL, hlt, h1, hj]
      · rw [Array.getElem?_setIfInBounds_ne ek, hcj]
        unfold touchL
        dsimp only
        by_cases ho : o ≤ k
        · rw [if_pos ⟨rfl, ho⟩, List.getD_eq_getElem?_getD, List.getD_eq_getElem?_getD, List.getElem?_set_ne (by omega)]
        · rw [if_neg (fun h => ho h.2)]
    · refine ⟨g', o, cs, rfl, hb, (Below.heap_setCell w _ _ g' e).trans hg, fun j hj => ?_⟩
      unfold touchL
      dsimp only
      rw [if_neg (fun h => e h.1)]
      exact hc j hj

end Go.Proofs.Yteinfkjlcpfeiaa
