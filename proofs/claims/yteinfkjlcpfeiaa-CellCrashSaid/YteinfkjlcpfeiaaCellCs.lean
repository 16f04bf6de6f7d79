/- Layer 6: what a crash in the midst of a plan leaves: disks as lists. Nothing of the program. -/
import Derived.Test.YteinfkjlcpfeiaaCellCr
namespace Go.Proofs.Yteinfkjlcpfeiaa
set_option linter.unusedVariables false

theorem take_writes (base : Int) (l : List Txt) {k m : Nat} (hk : k ≤ m) : (writesP base l m).take k = writesP base l k := by
  rw [writesP_eq, writesP_eq, ← List.map_take, List.take_range, Nat.min_eq_left hk]
theorem busy_none {S : List Sec} {C : List Pnd} {at_ : Int} {n : Nat} (h : busyTo S C at_ n = false) {i : Nat} (hi : i < n) (ha : askE S C (at_ + (i : Int)) = 0) : pendB C (at_ + (i : Int)) = false := by
  rcases hw : waB S C (at_ + (i : Int)) with _ | _
  · unfold waB at hw
    rwa [if_pos ha] at hw
  · rw [busy_yes hi hw] at h; cases h
theorem pend_lastW {C : List Pnd} {a : Int} (h : pendB C a = false) : lastW C a = none := lastW_none fun y hy e => by
  rw [pend_hit hy e] at h
  cases h
theorem pend_writes (C : List Pnd) (base : Int) (l : List Txt) (k : Nat) {a : Int} (hp : pendB C a = false) {j : Nat} (hj : j < (C ++ writesP base l k).length) (e : ((C ++ writesP base l k).getD j (0, [])).1 = a) :
    base ≤ a ∧ a < base + (k : Int) ∧ ((C ++ writesP base l k).getD j (0, [])).2 = l.getD (a - base).toNat [] := by
  rcases Nat.lt_or_ge j C.length with h | h
  · rw [List.getD_eq_getElem?_getD, List.getElem?_append_left h, ← List.getD_eq_getElem?_getD] at e
    rw [pend_hit h e] at hp
    cases hp
  · rw [List.length_append] at hj
    have hl : (writesP base l k).length = k := someP_len _ _ _ _
    have e2 : (C ++ writesP base l k).getD j (0, []) = (base + ((j - C.length : Nat) : Int), l.getD (j - C.length) []) := by
      rw [List.getD_eq_getElem?_getD, List.getElem?_append_right h, ← List.getD_eq_getElem?_getD, writesP_eq]
      exact range_get (fun i : Nat => ((base + (i : Int), l.getD i []) : Pnd)) _ (by omega)
    rw [e2] at e ⊢
    dsimp only at e ⊢
    refine ⟨by omega, by omega, ?_⟩
    rw [show (a - base).toNat = j - C.length by omega]
/-- A sector behind the crash: as it was, or (if one of the writes was its) new, or bad. -/
theorem optAt_crash {S : List Sec} {C : List Pnd} {base : Int} {l : List Txt} {k : Nat} (hm : mayD S C = true) (hm' : mayD S (C ++ writesP base l k) = true) (F : List Int) {a : Int} (h0 : 0 ≤ a) (h1 : a < (S.length : Int)) (hp : pendB C a = false) :
    optAt (crS S (C ++ writesP base l k) F) [] a = optAt S C a ∨ (base ≤ a ∧ a < base + (k : Int) ∧ (optAt (crS S (C ++ writesP base l k) F) [] a = some (l.getD (a - base).toNat []) ∨ optAt (crS S (C ++ writesP base l k) F) [] a = none)) := by
  obtain ⟨hcm, hcl⟩ := cr_may hm' F
  have hx := crash_at hm' F h0 (min (C ++ writesP base l k).length F.length) (Nat.min_le_left _ _)
  have hI : crS S (C ++ writesP base l k) F = behindK S (C ++ writesP base l k) F (min (C ++ writesP base l k).length F.length) := by unfold crS behindS; rw [if_pos hm']
  rw [← hI] at hx
  rw [optAt_may hcm h0 (by omega), optAt_may hm h0 h1, pend_lastW hp]
  have hl : lastW [] a = none := rfl
  rw [hl]
  dsimp only
  rcases hx with h | ⟨h2, h3⟩ | ⟨j, hj, h2, h3⟩
  · exact .inl (by rw [h])
  · right
    rw [if_pos h2]
    unfold pendB at h3
    rw [List.any_eq_true] at h3
    obtain ⟨p, hpm, hpe⟩ := h3
    obtain ⟨j, hj, e⟩ := List.getElem_of_mem hpm
    have e2 : ((C ++ writesP base l k).getD j (0, [])).1 = a := by
      rw [List.getD_eq_getElem?_getD, List.getElem?_eq_getElem hj, e]
      simpa using hpe
    obtain ⟨r1, r2, _⟩ := pend_writes C base l k hp hj e2
    exact ⟨r1, r2, .inr rfl⟩
  · right
    obtain ⟨r1, r2, r3⟩ := pend_writes C base l k hp hj h2
    rw [h3, r3]
    exact ⟨r1, r2, .inl rfl⟩

theorem cr_same {S S' : List Sec} {C C' : List Pnd} {a m : Nat} (h : cellE S C a m = 0) (h' : cellE S' C' a m = 0) (hv : hV m (optsOf S' C' a (2 * m)) = hV m (optsOf S C a (2 * m))) (hb : hB m (optsOf S' C' a (2 * m)) = hB m (optsOf S C a (2 * m))) :
    crE S' C' a m = crE S C a m ∧ crV S' C' a m = crV S C a m ∧ crB S' C' a m = crB S C a m := by
  have e : crE S' C' a m = crE S C a m := by
    unfold crE
    rw [if_pos h, if_pos h', Int.toNat_natCast, hv]
  refine ⟨e, ?_, ?_⟩
  · unfold crV
    rw [e, Int.toNat_natCast, hv]
  · unfold crB
    rw [e, Int.toNat_natCast, hb]
theorem cr_new {S S' : List Sec} {C C' : List Pnd} {a m : Nat} {v : Int} {b : Txt} (h' : cellE S' C' a m = 0) (hv : hV m (optsOf S' C' a (2 * m)) = v) (hb : hB m (optsOf S' C' a (2 * m)) = b) (hpos : 0 < v) (hle : hV m (optsOf S C a (2 * m)) < v) :
    crE S' C' a m = 0 ∧ crB S' C' a m = b ∧ crV S C a m < crV S' C' a m := by
  have e : crE S' C' a m = 0 := by
    unfold crE
    rw [if_pos h', Int.toNat_natCast, hv, if_neg (by omega)]
  refine ⟨e, ?_, ?_⟩
  · unfold crB
    rw [if_pos e, Int.toNat_natCast, hb]
  · have e2 : crV S' C' a m = v := by
      unfold crV
      rw [if_pos e, Int.toNat_natCast, hv]
    rw [e2]
    unfold crV
    split
    · rw [Int.toNat_natCast]; exact hle
    · exact hpos
theorem cellE_like {S S' : List Sec} {C C' : List Pnd} {a m : Nat} (h : cellE S C a m = 0) (hm' : mayD S' C' = true) (hl : S'.length = S.length) : cellE S' C' a m = 0 := by
  obtain ⟨hm, _⟩ := cellE_zero h
  unfold cellE at h ⊢
  rw [if_pos hm'] at *
  rw [if_pos hm] at h
  rwa [hl]
/-- What is read in the midst of a plan, and behind a crash there. -/
theorem crash_tells {S : List Sec} {C : List Pnd} {a m : Nat} {b : Txt} (h : cpE S C a m b = 0) (hb : ∀ z ∈ b, isByte z) (hS : ∀ s ∈ S, ∀ z ∈ s.2, isByte z) (hC : ∀ p ∈ C, ∀ z ∈ p.2, isByte z) {k : Nat} (hk : k ≤ m) (h64 : C.length + k ≤ 64) (F : List Int) :
    mayD S (C ++ (cpL S C a m b).take k) = true ∧
    ((crE S (C ++ (cpL S C a m b).take k) a m = crE S C a m ∧ crV S (C ++ (cpL S C a m b).take k) a m = crV S C a m ∧ crB S (C ++ (cpL S C a m b).take k) a m = crB S C a m) ∨
      (crE S (C ++ (cpL S C a m b).take k) a m = 0 ∧ crB S (C ++ (cpL S C a m b).take k) a m = b ∧ crV S C a m < crV S (C ++ (cpL S C a m b).take k) a m)) ∧
    ((crE (crS S (C ++ (cpL S C a m b).take k) F) [] a m = crE S C a m ∧ crV (crS S (C ++ (cpL S C a m b).take k) F) [] a m = crV S C a m ∧ crB (crS S (C ++ (cpL S C a m b).take k) F) [] a m = crB S C a m) ∨
      (crE (crS S (C ++ (cpL S C a m b).take k) F) [] a m = 0 ∧ crB (crS S (C ++ (cpL S C a m b).take k) F) [] a m = b ∧ crV S C a m < crV (crS S (C ++ (cpL S C a m b).take k) F) [] a m ∧ k = m)) := by
  obtain ⟨hE, h24, hbusy, hfull⟩ := cpE_zero h
  obtain ⟨hLl, hm1, hm4, hmay, hgood⟩ := cpL_good h hb
  rw [Int.toNat_natCast] at hLl hm1 hm4 hfull hbusy
  have hmay' := may_more hmay hgood (k := k) (by omega) h64
  obtain ⟨_, a', m', ea, em, _, _, han⟩ := cellE_zero hE
  obtain rfl : a' = a := by omega
  obtain rfl : m' = m := by omega
  have hct := ver_opts (at_ := (a' : Int)) hS hC (2 * m')
  obtain ⟨f, hf⟩ : ∃ f : Nat, (f : Int) = hF m' (optsOf S C a' (2 * m')) := by
    rcases hF_two m' (optsOf S C a' (2 * m')) with h | h
    · exact ⟨0, h.symm⟩
    · exact ⟨1, h.symm⟩
  have hfm : f * m' ≤ m' := by
    rcases hF_two m' (optsOf S C a' (2 * m')) with h | h
    · obtain rfl : f = 0 := by omega
      omega
    · obtain rfl : f = 1 := by omega
      omega
  have hL : (cpL S C a' m' b).take k = writesP ((a' : Int) + ((f * m' : Nat) : Int)) (textsOf (countTo (optsOf S C a' (2 * m')) (2 * m') + 1) b m') k := by
    unfold cpL cpT
    rw [if_pos h, Int.toNat_natCast, ← hf, Int.natCast_mul]
    exact take_writes _ _ hk
  rw [hL] at hmay' ⊢
  have hEm := cellE_like hE hmay' rfl
  obtain ⟨hcm, hcl⟩ := cr_may hmay' F
  have hEc := cellE_like hE hcm hcl
  have hpos : ∀ i T, i < 2 * m' → (optsOf S C a' (2 * m')).getD i none = some T → 0 ≤ verOf T := fun i T hi hT => by
    rw [optsOf_get S C _ hi] at hT
    unfold optAt at hT
    split at hT
    · rename_i h0
      injection hT with hT
      subst hT
      obtain ⟨h32, hbb⟩ := rd_good h0 hS hC
      exact (ver_bounds (by omega) hbb).1
    · cases hT
  have hle := hV_le (l := optsOf S C a' (2 * m')) (m := m') (optsOf_length _ _ _ _)
  refine ⟨hmay', ?_, ?_⟩
  · have hrd : ∀ i, i < 2 * m' → (optsOf S (C ++ writesP ((a' : Int) + ((f * m' : Nat) : Int)) (textsOf (countTo (optsOf S C a' (2 * m')) (2 * m') + 1) b m') k) a' (2 * m')).getD i none = if f * m' ≤ i ∧ i < f * m' + k then some (partT (countTo (optsOf S C a' (2 * m')) (2 * m') + 1) ((i - f * m' : Nat) : Int) (chunk b (i - f * m'))) else (optsOf S C a' (2 * m')).getD i none := by
      intro i hi
      rw [optsOf_get _ _ _ hi, optsOf_get _ _ _ hi, optAt_writes hmay hmay' (by omega) (by omega)]
      by_cases hr : f * m' ≤ i ∧ i < f * m' + k
      · rw [if_pos hr, if_pos (by omega), show ((a' : Int) + (i : Int) - ((a' : Int) + ((f * m' : Nat) : Int))).toNat = i - f * m' by omega, textsOf_get _ _ (by omega)]
      · rw [if_neg hr, if_neg (by omega)]
    rcases cell_mixed (b := b) (v := countTo (optsOf S C a' (2 * m')) (2 * m') + 1) hm1 (optsOf_length _ _ _ _) (optsOf_length _ _ _ _) hf rfl (by omega) (by omega) hpos (fun i hi => by
      rw [hrd _ (by omega)]
      by_cases hik : i < k
      · rw [if_pos (by omega), show f * m' + i - f * m' = i by omega]
        exact .inr (.inl rfl)
      · rw [if_neg (by omega)]
        exact .inl rfl) (fun i hi ho => by rw [hrd i hi, if_neg (by omega)]) with ⟨e1, e2⟩ | ⟨_, e1, e2⟩
    · exact .inl (cr_same hE hEm e1 e2)
    · exact .inr (cr_new hEm e1 e2 (by omega) (by omega))
  · have hrd : ∀ i, i < 2 * m' → (optsOf (crS S (C ++ writesP ((a' : Int) + ((f * m' : Nat) : Int)) (textsOf (countTo (optsOf S C a' (2 * m')) (2 * m') + 1) b m') k) F) [] a' (2 * m')).getD i none = (optsOf S C a' (2 * m')).getD i none ∨ (f * m' ≤ i ∧ i < f * m' + k ∧ ((optsOf (crS S (C ++ writesP ((a' : Int) + ((f * m' : Nat) : Int)) (textsOf (countTo (optsOf S C a' (2 * m')) (2 * m') + 1) b m') k) F) [] a' (2 * m')).getD i none = some (partT (countTo (optsOf S C a' (2 * m')) (2 * m') + 1) ((i - f * m' : Nat) : Int) (chunk b (i - f * m'))) ∨ (optsOf (crS S (C ++ writesP ((a' : Int) + ((f * m' : Nat) : Int)) (textsOf (countTo (optsOf S C a' (2 * m')) (2 * m') + 1) b m') k) F) [] a' (2 * m')).getD i none = none)) := by
      intro i hi
      rw [optsOf_get _ _ _ hi, optsOf_get _ _ _ hi]
      have hask : askE S C ((a' : Int) + (i : Int)) = 0 := by rw [ask_may hmay, if_neg (by omega)]
      rcases optAt_crash hmay hmay' F (a := (a' : Int) + (i : Int)) (by omega) (by omega) (busy_none hbusy hi hask) with h1 | ⟨h1, h2, h3⟩
      · exact .inl h1
      · refine .inr ⟨by omega, by omega, ?_⟩
        rwa [show ((a' : Int) + (i : Int) - ((a' : Int) + ((f * m' : Nat) : Int))).toNat = i - f * m' by omega, textsOf_get _ _ (by omega)] at h3
    rcases cell_mixed (b := b) (v := countTo (optsOf S C a' (2 * m')) (2 * m') + 1) hm1 (optsOf_length _ _ _ _) (optsOf_length _ _ _ _) hf rfl (by omega) (by omega) hpos (fun i hi => by
      rcases hrd (f * m' + i) (by omega) with h1 | ⟨_, _, h1⟩
      · exact .inl h1
      · rw [show f * m' + i - f * m' = i by omega] at h1
        exact .inr h1) (fun i hi ho => by
      rcases hrd i hi with h1 | ⟨h1, h2, _⟩
      · exact h1
      · omega) with ⟨e1, e2⟩ | ⟨hall, e1, e2⟩
    · exact .inl (cr_same hE hEc e1 e2)
    · obtain ⟨r1, r2, r3⟩ := cr_new (S := S) (C := C) hEc e1 e2 (by omega) (by omega)
      refine .inr ⟨r1, r2, r3, ?_⟩
      rcases Nat.lt_or_ge k m' with hkm | hkm
      · exfalso
        have hlast := hall (m' - 1) (by omega)
        rcases hrd (f * m' + (m' - 1)) (by omega) with h1 | ⟨_, h2, _⟩
        · have h3 := count_ge (l := optsOf S C a' (2 * m')) (2 * m') (f * m' + (m' - 1)) _ (by omega) (h1.symm.trans hlast)
          rw [ver_part _ _ ⟨by omega, by omega⟩] at h3
          omega
        · omega
      · omega

end Go.Proofs.Yteinfkjlcpfeiaa
