/- Layer 6: a slot that is partly written: lists. Nothing of the program. -/
import Derived.Test.YteinfkjlcpfeiaaCellBl
namespace Go.Proofs.Yteinfkjlcpfeiaa
set_option linter.unusedVariables false

theorem joinV_last {ps : List Prt} {k : Nat} (h : ps.length = k + 1) : joinV ps = (ps.getD k (0, [])).1 := by
  have hne : ps ≠ [] := by intro e; subst e; cases h
  have e := joinV_snoc ps.dropLast (ps.getLast hne)
  rw [List.dropLast_concat_getLast hne] at e
  rw [e, List.getLast_eq_getElem, List.getD_eq_getElem?_getD, List.getElem?_eq_getElem (by omega)]
  simp [h]
/-- The parts of a slot that holds something are all of one version. -/
theorem held_one {l : List (Option Txt)} : ∀ (k : Nat) (ps : List Prt), heldTo l k = some ps → ∀ i, i < k → ∃ T, l.getD i none = some T ∧ verOf T = joinV ps := by
  intro k
  induction k with
  | zero => intro ps _ i hi; omega
  | succ k ih =>
    intro ps h
    have hsm := heldTo_small h
    rw [heldTo] at h
    rcases h1 : heldTo l k with _ | qs
    · rw [h1] at h; cases h
    · rw [h1] at h
      dsimp only at h
      rcases h2 : partO k (l.getD k none) with _ | p
      · rw [h2] at h; cases h
      · rw [h2] at h
        dsimp only at h
        split at h
        · rename_i hf
          injection h with h
          subst h
          rw [joinV_snoc]
          obtain ⟨T, hT, hv⟩ : ∃ T, l.getD k none = some T ∧ verOf T = p.1 := by
            rcases h3 : l.getD k none with _ | T
            · rw [h3] at h2; cases h2
            · rw [h3] at h2
              unfold partO at h2
              dsimp only at h2
              split at h2
              · injection h2 with h2
                subst h2
                exact ⟨T, rfl, rfl⟩
              · cases h2
          intro i hi
          rcases Nat.lt_or_ge i k with hik | hik
          · obtain ⟨U, hU, hu⟩ := ih qs h1 i hik
            refine ⟨U, hU, ?_⟩
            obtain ⟨j, rfl⟩ : ∃ j, k = j + 1 := ⟨k - 1, by omega⟩
            have hl := (heldTo_small h1).1
            rcases hf with hf | hf
            · omega
            · rw [hu, joinV_last hl]
              exact hf.1.symm
          · obtain rfl : i = k := by omega
            exact ⟨T, hT, hv⟩
        · cases h
theorem slotV_pos {l : List (Option Txt)} (h : ∀ i T, i < l.length → l.getD i none = some T → 0 ≤ verOf T) : 0 ≤ slotV l := by
  unfold slotV
  rcases h1 : heldTo l l.length with _ | ps
  · exact Int.le_refl 0
  · dsimp only
    by_cases hp : ps = []
    · subst hp; exact Int.le_refl 0
    · obtain ⟨p, hp, e⟩ := joinV_mem hp
      obtain ⟨i, T, hi, e1, e2⟩ := held_from h1 p hp
      rw [e, e2]
      exact h i T hi e1
/-- A slot whose sectors are each the old one, the new one, or can't be read: it is all new, or all old, or holds nothing. -/
theorem slot_mixed {l l2 : List (Option Txt)} {v : Int} {b : Txt} {m : Nat} (hl : l.length = m) (hl2 : l2.length = m) (hv : 0 ≤ v ∧ v < 4294967296) (hold : ∀ i T, i < m → l.getD i none = some T → verOf T < v)
    (h : ∀ i, i < m → l2.getD i none = l.getD i none ∨ l2.getD i none = some (partT v i (chunk b i)) ∨ l2.getD i none = none) :
    (∀ i, i < m → l2.getD i none = some (partT v i (chunk b i))) ∨ l2 = l ∨ (slotV l2 = 0 ∧ slotB l2 = []) := by
  rcases h1 : heldTo l2 m with _ | ps
  · refine .inr (.inr ?_)
    unfold slotV slotB
    rw [hl2, h1]
    exact ⟨rfl, rfl⟩
  · have hone := held_one m ps h1
    by_cases hc : joinV ps = v
    · refine .inl fun i hi => ?_
      obtain ⟨T, hT, hu⟩ := hone i hi
      rcases h i hi with h2 | h2 | h2
      · have := hold i T hi (by rw [← h2]; exact hT)
        omega
      · exact h2
      · rw [h2] at hT; cases hT
    · refine .inr (.inl (list_eq (d := none) hl2 hl fun i hi => ?_))
      obtain ⟨T, hT, hu⟩ := hone i hi
      rcases h i hi with h2 | h2 | h2
      · exact h2
      · rw [h2] at hT
        injection hT with hT
        subst hT
        rw [ver_part _ _ hv] at hu
        exact absurd hu.symm hc
      · rw [h2] at hT; cases hT

theorem hF_case {m : Nat} {l : List (Option Txt)} : (hF m l = 0 → slotV (l.take m) = 0 ∨ slotV (l.take m) < slotV (l.drop m)) ∧ (hF m l = 1 → ¬ (slotV (l.take m) = 0 ∨ slotV (l.take m) < slotV (l.drop m))) := by
  unfold hF
  by_cases h : slotV (l.take m) = 0 ∨ slotV (l.take m) < slotV (l.drop m)
  · rw [if_pos h]
    exact ⟨fun _ => h, fun e => absurd e (by decide)⟩
  · rw [if_neg h]
    exact ⟨fun e => absurd e (by decide), fun _ => h⟩
/-- The slot that is free is partly written: the cell holds what it held, or all of it is new. -/
theorem cell_mixed {l l2 : List (Option Txt)} {m f : Nat} {v : Int} {b : Txt} (hm : 1 ≤ m) (hl : l.length = 2 * m) (hl2 : l2.length = 2 * m) (hf : (f : Int) = hF m l) (hv : v = countTo l (2 * m) + 1) (hv2 : v < 4294967296) (hb : b.length ≤ 24 * m)
    (hpos : ∀ i T, i < 2 * m → l.getD i none = some T → 0 ≤ verOf T)
    (hnew : ∀ i, i < m → l2.getD (f * m + i) none = l.getD (f * m + i) none ∨ l2.getD (f * m + i) none = some (partT v i (chunk b i)) ∨ l2.getD (f * m + i) none = none)
    (hold : ∀ i, i < 2 * m → (i < f * m ∨ f * m + m ≤ i) → l2.getD i none = l.getD i none) :
    (hV m l2 = hV m l ∧ hB m l2 = hB m l) ∨ ((∀ i, i < m → l2.getD (f * m + i) none = some (partT v i (chunk b i))) ∧ hV m l2 = v ∧ hB m l2 = b) := by
  have hc := count_pos (l := l) (2 * m)
  have hver : ∀ i T, i < 2 * m → l.getD i none = some T → verOf T < v := fun i T hi h => by
    have := count_ge (2 * m) i T hi h
    omega
  rcases hF_two m l with h0 | h1
  · obtain rfl : f = 0 := by omega
    have hcase := hF_case.1 h0
    have hn2 : ∀ i, i < m → (l2.take m).getD i none = (l.take m).getD i none ∨ (l2.take m).getD i none = some (partT v i (chunk b i)) ∨ (l2.take m).getD i none = none := fun i hi => by
      rw [getD_take hi, getD_take hi]
      have := hnew i hi
      rwa [Nat.zero_mul, Nat.zero_add] at this
    have e3 : l2.drop m = l.drop m := list_eq (d := none) (n := m) (by rw [List.length_drop]; omega) (by rw [List.length_drop]; omega) (fun i hi => by
      rw [getD_drop, getD_drop]
      exact hold (m + i) (by omega) (.inr (by omega)))
    rcases slot_mixed (by rw [List.length_take]; omega) (by rw [List.length_take]; omega) ⟨by omega, hv2⟩ (fun i T hi h => by rw [getD_take hi] at h; exact hver i T (by omega) h) hn2 with h | h | ⟨h, h'⟩
    · have hall : ∀ i, i < m → l2.getD (0 * m + i) none = some (partT v i (chunk b i)) := fun i hi => by
        have := h i hi
        rw [getD_take hi] at this
        rwa [Nat.zero_mul, Nat.zero_add]
      exact .inr ⟨hall, cell_new hm hl hl2 hf hv hv2 hb hall hold⟩
    · left
      unfold hV hB
      rw [h, e3]
      exact ⟨rfl, rfl⟩
    · left
      have hz : (0 : Int) = 0 ∨ (0 : Int) < slotV (l.drop m) := .inl rfl
      unfold hV hB
      rw [h, e3, if_pos hz, if_pos hz, if_pos hcase, if_pos hcase]
      exact ⟨rfl, rfl⟩
  · obtain rfl : f = 1 := by omega
    have hcase := hF_case.2 h1
    have hn2 : ∀ i, i < m → (l2.drop m).getD i none = (l.drop m).getD i none ∨ (l2.drop m).getD i none = some (partT v i (chunk b i)) ∨ (l2.drop m).getD i none = none := fun i hi => by
      rw [getD_drop, getD_drop]
      have := hnew i hi
      rwa [Nat.one_mul] at this
    have e3 : l2.take m = l.take m := list_eq (d := none) (n := m) (by rw [List.length_take]; omega) (by rw [List.length_take]; omega) (fun i hi => by
      rw [getD_take hi, getD_take hi]
      exact hold i (by omega) (.inl (by omega)))
    rcases slot_mixed (by rw [List.length_drop]; omega) (by rw [List.length_drop]; omega) ⟨by omega, hv2⟩ (fun i T hi h => by rw [getD_drop] at h; exact hver (m + i) T (by omega) h) hn2 with h | h | ⟨h, h'⟩
    · have hall : ∀ i, i < m → l2.getD (1 * m + i) none = some (partT v i (chunk b i)) := fun i hi => by
        have := h i hi
        rw [getD_drop] at this
        rwa [Nat.one_mul]
      exact .inr ⟨hall, cell_new hm hl hl2 hf hv hv2 hb hall hold⟩
    · left
      unfold hV hB
      rw [h, e3]
      exact ⟨rfl, rfl⟩
    · left
      have hp : 0 ≤ slotV (l.take m) := slotV_pos fun i T hi h => by
        rw [List.length_take] at hi
        rw [getD_take (by omega)] at h
        exact hpos i T (by omega) h
      have hno : ¬ (slotV (l.take m) = 0 ∨ slotV (l.take m) < 0) := fun h => by
        rcases h with h | h
        · exact hcase (.inl h)
        · omega
      unfold hV hB
      rw [h, e3, if_neg hno, if_neg hno, if_neg hcase, if_neg hcase]
      exact ⟨rfl, rfl⟩

end Go.Proofs.Yteinfkjlcpfeiaa
