/- Layer 6: a slot that is partly written: lists. Nothing of the program. -/
/- Layer 6: what a crash in the midst of a plan leaves: disks as lists. Nothing of the program. -/
import Derived.Test.YtiibmlbenamgcaaCellBk
namespace Go.Proofs.Ytiibmlbenamgcaa
set_option linter.unusedVariables false

theorem joinV_last {ps : List Prt} {k : Nat} (h : ps.length = k + 1) : joinV ps = (ps.getD k (0, [])).1 := by
  have hne : ps ≠ [] := by intro e; subst e; cases h
  have e := joinV_snoc ps.dropLast (ps.getLast hne)
  rw [List.dropLast_concat_getLast hne] at e
  rw [e, List.getLast_eq_getElem, List.getD_eq_getElem?_getD, List.getElem?_eq_getElem (by omega)]
  simp [h]
/-- The parts of a slot that holds something are all of one version. -/
theorem held_one {l : List (Option Txt)} : ∀ (k : Nat) (ps : List Prt), heldTo l k = some ps → ∀ i, i < k → ∃ T, l.getD i none = some T ∧ verOf T = joinV ps := by
  intro k
  induction k with
  | zero => intro ps _ i hi; omega
  | succ k ih =>
    intro ps h
    have hsm := heldTo_small h
    rw [heldTo] at h
    rcases h1 : heldTo l k with _ | qs
    · rw [h1] at h; cases h
    · rw [h1] at h
      dsimp only at h
      rcases h2 : partO k (l.getD k none) with _ | p
      · rw [h2] at h; cases h
      · rw [h2] at h
        dsimp only at h
        split at h
        · rename_i hf
          injection h with h
          subst h
          rw [joinV_snoc]
          obtain ⟨T, hT, hv⟩ : ∃ T, l.getD k none = some T ∧ verOf T = p.1 := by
            rcases h3 : l.getD k none with _ | T
            · rw [h3] at h2; cases h2
            · rw [h3] at h2
              unfold partO at h2
              dsimp only at h2
              split at h2
              · injection h2 with h2
                subst h2
                exact ⟨T, rfl, rfl⟩
              · cases h2
          intro i hi
          rcases Nat.lt_or_ge i k with hik | hik
          · obtain ⟨U, hU, hu⟩ := ih qs h1 i hik
            refine ⟨U, hU, ?_⟩
            obtain ⟨j, rfl⟩ : ∃ j, k = j + 1 := ⟨k - 1, by omega⟩
            have hl := (heldTo_small h1).1
            rcases hf with hf | hf
            · omega
            · rw [hu, joinV_last hl]
              exact hf.1.symm
          · obtain rfl : i = k := by omega
            exact ⟨T, hT, hv⟩
        · cases h
theorem slotV_pos {l : List (Option Txt)} (h : ∀ i T, i < l.length → l.getD i none = some T → 0 ≤ verOf T) : 0 ≤ slotV l := by
  unfold slotV
  rcases h1 : heldTo l l.length with _ | ps
  · exact Int.le_refl 0
  · dsimp only
    by_cases hp : ps = []
    · subst hp; exact Int.le_refl 0
    · obtain ⟨p, hp, e⟩ := joinV_mem hp
      obtain ⟨i, T, hi, e1, e2⟩ := held_from h1 p hp
      rw [e, e2]
      exact h i T hi e1
/-- A slot whose sectors are each the old one, the new one, or can't be read: it is all new, or all old, or holds nothing. -/
theorem slot_mixed {l l2 : List (Option Txt)} {v : Int} {b : Txt} {m : Nat} (hl : l.length = m) (hl2 : l2.length = m) (hv : 0 ≤ v ∧ v < 4294967296) (hold : ∀ i T, i < m → l.getD i none = some T → verOf T < v)
    (h : ∀ i, i < m → l2.getD i none = l.getD i none ∨ l2.getD i none = some (partT v i (chunk b i)) ∨ l2.getD i none = none) :
    (∀ i, i < m → l2.getD i none = some (partT v i (chunk b i))) ∨ l2 = l ∨ (slotV l2 = 0 ∧ slotB l2 = []) := by
  rcases h1 : heldTo l2 m with _ | ps
  · refine .inr (.inr ?_)
    unfold slotV slotB
    rw [hl2, h1]
    exact ⟨rfl, rfl⟩
  · have hone := held_one m ps h1
    by_cases hc : joinV ps = v
    · refine .inl fun i hi => ?_
      obtain ⟨T, hT, hu⟩ := hone i hi
      rcases h i hi with h2 | h2 | h2
      · have := hold i T hi (by rw [← h2]; exact hT)
        omega
      · exact h2
      · rw [h2] at hT; cases hT
    · refine .inr (.inl (list_eq (d := none) hl2 hl fun i hi => ?_))
      obtain ⟨T, hT, hu⟩ := hone i hi
      rcases h i hi with h2 | h2 | h2
      · exact h2
      · rw [h2] at hT
        injection hT with hT
        subst hT
        rw [ver_part _ _ hv] at hu
        exact absurd hu.symm hc
      · rw [h2] at hT; cases hT

theorem hF_case {m : Nat} {l : List (Option Txt)} : (hF m l = 0 → slotV (l.take m) = 0 ∨ slotV (l.take m) < slotV (l.drop m)) ∧ (hF m l = 1 → ¬ (slotV (l.take m) = 0 ∨ slotV (l.take m) < slotV (l.drop m))) := by
  unfold hF
  by_cases h : slotV (l.take m) = 0 ∨ slotV (l.take m) < slotV (l.drop m)
  · rw [if_pos h]
    exact ⟨fun _ => h, fun e => absurd e (by decide)⟩
  · rw [if_neg h]
    exact ⟨fun e => absurd e (by decide), fun _ => h⟩
/-- The slot that is free is partly written: the cell holds what it held, or all of it is new. -/
theorem cell_mixed {l l2 : List (Option Txt)} {m f : Nat} {v : Int} {b : Txt} (hm : 1 ≤ m) (hl : l.length = 2 * m) (hl2 : l2.length = 2 * m) (hf : (f : Int) = hF m l) (hv : v = countTo l (2 * m) + 1) (hv2 : v < 4294967296) (hb : b.length ≤ 24 * m)
    (hpos : ∀ i T, i < 2 * m → l.getD i none = some T → 0 ≤ verOf T)
    (hnew : ∀ i, i < m → l2.getD (f * m + i) none = l.getD (f * m + i) none ∨ l2.getD (f * m + i) none = some (partT v i (chunk b i)) ∨ l2.getD (f * m + i) none = none)
    (hold : ∀ i, i < 2 * m → (i < f * m ∨ f * m + m ≤ i) → l2.getD i none = l.getD i none) :
    (hV m l2 = hV m l ∧ hB m l2 = hB m l) ∨ ((∀ i, i < m → l2.getD (f * m + i) none = some (partT v i (chunk b i))) ∧ hV m l2 = v ∧ hB m l2 = b) := by
  have hc := count_pos (l := l) (2 * m)
  have hver : ∀ i T, i < 2 * m → l.getD i none = some T → verOf T < v := fun i T hi h => by
    have := count_ge (2 * m) i T hi h
    omega
  rcases hF_two m l with h0 | h1
  · obtain rfl : f = 0 := by omega
    have hcase := hF_case.1 h0
    have hn2 : ∀ i, i < m → (l2.take m).getD i none = (l.take m).getD i none ∨ (l2.take m).getD i none = some (partT v i (chunk b i)) ∨ (l2.take m).getD i none = none := fun i hi => by
      rw [getD_take hi, getD_take hi]
      have := hnew i hi
      rwa [Nat.zero_mul, Nat.zero_add] at this
    have e3 : l2.drop m = l.drop m := list_eq (d := none) (n := m) (by rw [List.length_drop]; omega) (by rw [List.length_drop]; omega) (fun i hi => by
      rw [getD_drop, getD_drop]
      exact hold (m + i) (by omega) (.inr (by omega)))
    rcases slot_mixed (by rw [List.length_take]; omega) (by rw [List.length_take]; omega) ⟨by omega, hv2⟩ (fun i T hi h => by rw [getD_take hi] at h; exact hver i T (by omega) h) hn2 with h | h | ⟨h, h'⟩
    · have hall : ∀ i, i < m → l2.getD (0 * m + i) none = some (partT v i (chunk b i)) := fun i hi => by
        have := h i hi
        rw [getD_take hi] at this
        rwa [Nat.zero_mul, Nat.zero_add]
      exact .inr ⟨hall, cell_new hm hl hl2 hf hv hv2 hb hall hold⟩
    · left
      unfold hV hB
      rw [h, e3]
      exact ⟨rfl, rfl⟩
    · left
      have hz : (0 : Int) = 0 ∨ (0 : Int) < slotV (l.drop m) := .inl rfl
      unfold hV hB
      rw [h, e3, if_pos hz, if_pos hz, if_pos hcase, if_pos hcase]
      exact ⟨rfl, rfl⟩
  · obtain rfl : f = 1 := by omega
    have hcase := hF_case.2 h1
    have hn2 : ∀ i, i < m → (l2.drop m).getD i none = (l.drop m).getD i none ∨ (l2.drop m).getD i none = some (partT v i (chunk b i)) ∨ (l2.drop m).getD i none = none := fun i hi => by
      rw [getD_drop, getD_drop]
      have := hnew i hi
      rwa [Nat.one_mul] at this
    have e3 : l2.take m = l.take m := list_eq (d := none) (n := m) (by rw [List.length_take]; omega) (by rw [List.length_take]; omega) (fun i hi => by
      rw [getD_take hi, getD_take hi]
      exact hold i (by omega) (.inl (by omega)))
    rcases slot_mixed (by rw [List.length_drop]; omega) (by rw [List.length_drop]; omega) ⟨by omega, hv2⟩ (fun i T hi h => by rw [getD_drop] at h; exact hver (m + i) T (by omega) h) hn2 with h | h | ⟨h, h'⟩
    · have hall : ∀ i, i < m → l2.getD (1 * m + i) none = some (partT v i (chunk b i)) := fun i hi => by
        have := h i hi
        rw [getD_drop] at this
        rwa [Nat.one_mul]
      exact .inr ⟨hall, cell_new hm hl hl2 hf hv hv2 hb hall hold⟩
    · left
      unfold hV hB
      rw [h, e3]
      exact ⟨rfl, rfl⟩
    · left
      have hp : 0 ≤ slotV (l.take m) := slotV_pos fun i T hi h => by
        rw [List.length_take] at hi
        rw [getD_take (by omega)] at h
        exact hpos i T (by omega) h
      have hno : ¬ (slotV (l.take m) = 0 ∨ slotV (l.take m) < 0) := fun h => by
        rcases h with h | h
        · exact hcase (.inl h)
        · omega
      unfold hV hB
      rw [h, e3, if_neg hno, if_neg hno, if_neg hcase, if_neg hcase]
      exact ⟨rfl, rfl⟩

end Go.Proofs.Ytiibmlbenamgcaa

namespace Go.Proofs.Ytiibmlbenamgcaa
set_option linter.unusedVariables false

theorem take_writes (base : Int) (l : List Txt) {k m : Nat} (hk : k ≤ m) : (writesP base l m).take k = writesP base l k := by
  rw [writesP_eq, writesP_eq, ← List.map_take, List.take_range, Nat.min_eq_left hk]
theorem busy_none {S : List Sec} {C : List Pnd} {at_ : Int} {n : Nat} (h : busyTo S C at_ n = false) {i : Nat} (hi : i < n) (ha : askE S C (at_ + (i : Int)) = 0) : pendB C (at_ + (i : Int)) = false := by
  rcases hw : waB S C (at_ + (i : Int)) with _ | _
  · unfold waB at hw
    rwa [if_pos ha] at hw
  · rw [busy_yes hi hw] at h; cases h
theorem pend_lastW {C : List Pnd} {a : Int} (h : pendB C a = false) : lastW C a = none := lastW_none fun y hy e => by
  rw [pend_hit hy e] at h
  cases h
theorem pend_writes (C : List Pnd) (base : Int) (l : List Txt) (k : Nat) {a : Int} (hp : pendB C a = false) {j : Nat} (hj : j < (C ++ writesP base l k).length) (e : ((C ++ writesP base l k).getD j (0, [])).1 = a) :
    base ≤ a ∧ a < base + (k : Int) ∧ ((C ++ writesP base l k).getD j (0, [])).2 = l.getD (a - base).toNat [] := by
  rcases Nat.lt_or_ge j C.length with h | h
  · rw [List.getD_eq_getElem?_getD, List.getElem?_append_left h, ← List.getD_eq_getElem?_getD] at e
    rw [pend_hit h e] at hp
    cases hp
  · rw [List.length_append] at hj
    have hl : (writesP base l k).length = k := someP_len _ _ _ _
    have e2 : (C ++ writesP base l k).getD j (0, []) = (base + ((j - C.length : Nat) : Int), l.getD (j - C.length) []) := by
      rw [List.getD_eq_getElem?_getD, List.getElem?_append_right h, ← List.getD_eq_getElem?_getD, writesP_eq]
      exact range_get (fun i : Nat => ((base + (i : Int), l.getD i []) : Pnd)) _ (by omega)
    rw [e2] at e ⊢
    dsimp only at e ⊢
    refine ⟨by omega, by omega, ?_⟩
    rw [show (a - base).toNat = j - C.length by omega]
/-- A sector behind the crash: as it was, or (if one of the writes was its) new, or bad. -/
theorem optAt_crash {S : List Sec} {C : List Pnd} {base : Int} {l : List Txt} {k : Nat} (hm : mayD S C = true) (hm' : mayD S (C ++ writesP base l k) = true) (F : List Int) {a : Int} (h0 : 0 ≤ a) (h1 : a < (S.length : Int)) (hp : pendB C a = false) :
    optAt (crS S (C ++ writesP base l k) F) [] a = optAt S C a ∨ (base ≤ a ∧ a < base + (k : Int) ∧ (optAt (crS S (C ++ writesP base l k) F) [] a = some (l.getD (a - base).toNat []) ∨ optAt (crS S (C ++ writesP base l k) F) [] a = none)) := by
  obtain ⟨hcm, hcl⟩ := cr_may hm' F
  have hx := crash_at hm' F h0 (min (C ++ writesP base l k).length F.length) (Nat.min_le_left _ _)
  have hI : crS S (C ++ writesP base l k) F = behindK S (C ++ writesP base l k) F (min (C ++ writesP base l k).length F.length) := by unfold crS behindS; rw [if_pos hm']
  rw [← hI] at hx
  rw [optAt_may hcm h0 (by omega), optAt_may hm h0 h1, pend_lastW hp]
  have hl : lastW [] a = none := rfl
  rw [hl]
  dsimp only
  rcases hx with h | ⟨h2, h3⟩ | ⟨j, hj, h2, h3⟩
  · exact .inl (by rw [h])
  · right
    rw [if_pos h2]
    unfold pendB at h3
    rw [List.any_eq_true] at h3
    obtain ⟨p, hpm, hpe⟩ := h3
    obtain ⟨j, hj, e⟩ := List.getElem_of_mem hpm
    have e2 : ((C ++ writesP base l k).getD j (0, [])).1 = a := by
      rw [List.getD_eq_getElem?_getD, List.getElem?_eq_getElem hj, e]
      simpa using hpe
    obtain ⟨r1, r2, _⟩ := pend_writes C base l k hp hj e2
    exact ⟨r1, r2, .inr rfl⟩
  · right
    obtain ⟨r1, r2, r3⟩ := pend_writes C base l k hp hj h2
    rw [h3, r3]
    exact ⟨r1, r2, .inl rfl⟩

theorem cr_same {S S' : List Sec} {C C' : List Pnd} {a m : Nat} (h : cellE S C a m = 0) (h' : cellE S' C' a m = 0) (hv : hV m (optsOf S' C' a (2 * m)) = hV m (optsOf S C a (2 * m))) (hb : hB m (optsOf S' C' a (2 * m)) = hB m (optsOf S C a (2 * m))) :
    crE S' C' a m = crE S C a m ∧ crV S' C' a m = crV S C a m ∧ crB S' C' a m = crB S C a m := by
  have e : crE S' C' a m = crE S C a m := by
    unfold crE
    rw [if_pos h, if_pos h', Int.toNat_natCast, hv]
  refine ⟨e, ?_, ?_⟩
  · unfold crV
    rw [e, Int.toNat_natCast, hv]
  · unfold crB
    rw [e, Int.toNat_natCast, hb]
theorem cr_new {S S' : List Sec} {C C' : List Pnd} {a m : Nat} {v : Int} {b : Txt} (h' : cellE S' C' a m = 0) (hv : hV m (optsOf S' C' a (2 * m)) = v) (hb : hB m (optsOf S' C' a (2 * m)) = b) (hpos : 0 < v) (hle : hV m (optsOf S C a (2 * m)) < v) :
    crE S' C' a m = 0 ∧ crB S' C' a m = b ∧ crV S C a m < crV S' C' a m := by
  have e : crE S' C' a m = 0 := by
    unfold crE
    rw [if_pos h', Int.toNat_natCast, hv, if_neg (by omega)]
  refine ⟨e, ?_, ?_⟩
  · unfold crB
    rw [if_pos e, Int.toNat_natCast, hb]
  · have e2 : crV S' C' a m = v := by
      unfold crV
      rw [if_pos e, Int.toNat_natCast, hv]
    rw [e2]
    unfold crV
    split
    · rw [Int.toNat_natCast]; exact hle
    · exact hpos
theorem cellE_like {S S' : List Sec} {C C' : List Pnd} {a m : Nat} (h : cellE S C a m = 0) (hm' : mayD S' C' = true) (hl : S'.length = S.length) : cellE S' C' a m = 0 := by
  obtain ⟨hm, _⟩ := cellE_zero h
  unfold cellE at h ⊢
  rw [if_pos hm'] at *
  rw [if_pos hm] at h
  rwa [hl]
/-- What is read in the midst of a plan, and behind a crash there. -/
theorem crash_tells {S : List Sec} {C : List Pnd} {a m : Nat} {b : Txt} (h : cpE S C a m b = 0) (hb : ∀ z ∈ b, isByte z) (hS : ∀ s ∈ S, ∀ z ∈ s.2, isByte z) (hC : ∀ p ∈ C, ∀ z ∈ p.2, isByte z) {k : Nat} (hk : k ≤ m) (h64 : C.length + k ≤ 64) (F : List Int) :
    mayD S (C ++ (cpL S C a m b).take k) = true ∧
    ((crE S (C ++ (cpL S C a m b).take k) a m = crE S C a m ∧ crV S (C ++ (cpL S C a m b).take k) a m = crV S C a m ∧ crB S (C ++ (cpL S C a m b).take k) a m = crB S C a m) ∨
      (crE S (C ++ (cpL S C a m b).take k) a m = 0 ∧ crB S (C ++ (cpL S C a m b).take k) a m = b ∧ crV S C a m < crV S (C ++ (cpL S C a m b).take k) a m)) ∧
    ((crE (crS S (C ++ (cpL S C a m b).take k) F) [] a m = crE S C a m ∧ crV (crS S (C ++ (cpL S C a m b).take k) F) [] a m = crV S C a m ∧ crB (crS S (C ++ (cpL S C a m b).take k) F) [] a m = crB S C a m) ∨
      (crE (crS S (C ++ (cpL S C a m b).take k) F) [] a m = 0 ∧ crB (crS S (C ++ (cpL S C a m b).take k) F) [] a m = b ∧ crV S C a m < crV (crS S (C ++ (cpL S C a m b).take k) F) [] a m ∧ k = m)) := by
  obtain ⟨hE, h24, hbusy, hfull⟩ := cpE_zero h
  obtain ⟨hLl, hm1, hm4, hmay, hgood⟩ := cpL_good h hb
  rw [Int.toNat_natCast] at hLl hm1 hm4 hfull hbusy
  have hmay' := may_more hmay hgood (k := k) (by omega) h64
  obtain ⟨_, a', m', ea, em, _, _, han⟩ := cellE_zero hE
  obtain rfl : a' = a := by omega
  obtain rfl : m' = m := by omega
  have hct := ver_opts (at_ := (a' : Int)) hS hC (2 * m')
  obtain ⟨f, hf⟩ : ∃ f : Nat, (f : Int) = hF m' (optsOf S C a' (2 * m')) := by
    rcases hF_two m' (optsOf S C a' (2 * m')) with h | h
    · exact ⟨0, h.symm⟩
    · exact ⟨1, h.symm⟩
  have hfm : f * m' ≤ m' := by
    rcases hF_two m' (optsOf S C a' (2 * m')) with h | h
    · obtain rfl : f = 0 := by omega
      omega
    · obtain rfl : f = 1 := by omega
      omega
  have hL : (cpL S C a' m' b).take k = writesP ((a' : Int) + ((f * m' : Nat) : Int)) (textsOf (countTo (optsOf S C a' (2 * m')) (2 * m') + 1) b m') k := by
    unfold cpL cpT
    rw [if_pos h, Int.toNat_natCast, ← hf, Int.natCast_mul]
    exact take_writes _ _ hk
  rw [hL] at hmay' ⊢
  have hEm := cellE_like hE hmay' rfl
  obtain ⟨hcm, hcl⟩ := cr_may hmay' F
  have hEc := cellE_like hE hcm hcl
  have hpos : ∀ i T, i < 2 * m' → (optsOf S C a' (2 * m')).getD i none = some T → 0 ≤ verOf T := fun i T hi hT => by
    rw [optsOf_get S C _ hi] at hT
    unfold optAt at hT
    split at hT
    · rename_i h0
      injection hT with hT
      subst hT
      obtain ⟨h32, hbb⟩ := rd_good h0 hS hC
      exact (ver_bounds (by omega) hbb).1
    · cases hT
  have hle := hV_le (l := optsOf S C a' (2 * m')) (m := m') (optsOf_length _ _ _ _)
  refine ⟨hmay', ?_, ?_⟩
  · have hrd : ∀ i, i < 2 * m' → (optsOf S (C ++ writesP ((a' : Int) + ((f * m' : Nat) : Int)) (textsOf (countTo (optsOf S C a' (2 * m')) (2 * m') + 1) b m') k) a' (2 * m')).getD i none = if f * m' ≤ i ∧ i < f * m' + k then some (partT (countTo (optsOf S C a' (2 * m')) (2 * m') + 1) ((i - f * m' : Nat) : Int) (chunk b (i - f * m'))) else (optsOf S C a' (2 * m')).getD i none := by
      intro i hi
      rw [optsOf_get _ _ _ hi, optsOf_get _ _ _ hi, optAt_writes hmay hmay' (by omega) (by omega)]
      by_cases hr : f * m' ≤ i ∧ i < f * m' + k
      · rw [if_pos hr, if_pos (by omega), show ((a' : Int) + (i : Int) - ((a' : Int) + ((f * m' : Nat) : Int))).toNat = i - f * m' by omega, textsOf_get _ _ (by omega)]
      · rw [if_neg hr, if_neg (by omega)]
    rcases cell_mixed (b := b) (v := countTo (optsOf S C a' (2 * m')) (2 * m') + 1) hm1 (optsOf_length _ _ _ _) (optsOf_length _ _ _ _) hf rfl (by omega) (by omega) hpos (fun i hi => by
      rw [hrd _ (by omega)]
      by_cases hik : i < k
      · rw [if_pos (by omega), show f * m' + i - f * m' = i by omega]
        exact .inr (.inl rfl)
      · rw [if_neg (by omega)]
        exact .inl rfl) (fun i hi ho => by rw [hrd i hi, if_neg (by omega)]) with ⟨e1, e2⟩ | ⟨_, e1, e2⟩
    · exact .inl (cr_same hE hEm e1 e2)
    · exact .inr (cr_new hEm e1 e2 (by omega) (by omega))
  · have hrd : ∀ i, i < 2 * m' → (optsOf (crS S (C ++ writesP ((a' : Int) + ((f * m' : Nat) : Int)) (textsOf (countTo (optsOf S C a' (2 * m')) (2 * m') + 1) b m') k) F) [] a' (2 * m')).getD i none = (optsOf S C a' (2 * m')).getD i none ∨ (f * m' ≤ i ∧ i < f * m' + k ∧ ((optsOf (crS S (C ++ writesP ((a' : Int) + ((f * m' : Nat) : Int)) (textsOf (countTo (optsOf S C a' (2 * m')) (2 * m') + 1) b m') k) F) [] a' (2 * m')).getD i none = some (partT (countTo (optsOf S C a' (2 * m')) (2 * m') + 1) ((i - f * m' : Nat) : Int) (chunk b (i - f * m'))) ∨ (optsOf (crS S (C ++ writesP ((a' : Int) + ((f * m' : Nat) : Int)) (textsOf (countTo (optsOf S C a' (2 * m')) (2 * m') + 1) b m') k) F) [] a' (2 * m')).getD i none = none)) := by
      intro i hi
      rw [optsOf_get _ _ _ hi, optsOf_get _ _ _ hi]
      have hask : askE S C ((a' : Int) + (i : Int)) = 0 := by rw [ask_may hmay, if_neg (by omega)]
      rcases optAt_crash hmay hmay' F (a := (a' : Int) + (i : Int)) (by omega) (by omega) (busy_none hbusy hi hask) with h1 | ⟨h1, h2, h3⟩
      · exact .inl h1
      · refine .inr ⟨by omega, by omega, ?_⟩
        rwa [show ((a' : Int) + (i : Int) - ((a' : Int) + ((f * m' : Nat) : Int))).toNat = i - f * m' by omega, textsOf_get _ _ (by omega)] at h3
    rcases cell_mixed (b := b) (v := countTo (optsOf S C a' (2 * m')) (2 * m') + 1) hm1 (optsOf_length _ _ _ _) (optsOf_length _ _ _ _) hf rfl (by omega) (by omega) hpos (fun i hi => by
      rcases hrd (f * m' + i) (by omega) with h1 | ⟨_, _, h1⟩
      · exact .inl h1
      · rw [show f * m' + i - f * m' = i by omega] at h1
        exact .inr h1) (fun i hi ho => by
      rcases hrd i hi with h1 | ⟨h1, h2, _⟩
      · exact h1
      · omega) with ⟨e1, e2⟩ | ⟨hall, e1, e2⟩
    · exact .inl (cr_same hE hEc e1 e2)
    · obtain ⟨r1, r2, r3⟩ := cr_new (S := S) (C := C) hEc e1 e2 (by omega) (by omega)
      refine .inr ⟨r1, r2, r3, ?_⟩
      rcases Nat.lt_or_ge k m' with hkm | hkm
      · exfalso
        have hlast := hall (m' - 1) (by omega)
        rcases hrd (f * m' + (m' - 1)) (by omega) with h1 | ⟨_, h2, _⟩
        · have h3 := count_ge (l := optsOf S C a' (2 * m')) (2 * m') (f * m' + (m' - 1)) _ (by omega) (h1.symm.trans hlast)
          rw [ver_part _ _ ⟨by omega, by omega⟩] at h3
          omega
        · omega
      · omega

end Go.Proofs.Ytiibmlbenamgcaa
