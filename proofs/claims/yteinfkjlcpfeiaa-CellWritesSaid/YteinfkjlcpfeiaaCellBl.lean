/- Layer 6: what was written is read: disks as lists. Nothing of the program. -/
import Derived.Test.YteinfkjlcpfeiaaCellBk
namespace Go.Proofs.Yteinfkjlcpfeiaa
set_option linter.unusedVariables false

theorem writesP_eq (base : Int) (l : List Txt) (m : Nat) : writesP base l m = (List.range m).map fun i : Nat => ((base + (i : Int), l.getD i []) : Pnd) := by
  unfold writesP someP
  apply List.map_congr_left
  intro i hi
  rw [if_pos (List.mem_range.1 hi)]
theorem last_writes (C : List Pnd) (base : Int) (l : List Txt) (a : Int) : ∀ m : Nat, lastW (C ++ (List.range m).map fun i : Nat => ((base + (i : Int), l.getD i []) : Pnd)) a = if base ≤ a ∧ a < base + (m : Int) then some (l.getD (a - base).toNat []) else lastW C a := by
  intro m
  induction m with
  | zero => rw [List.range_zero, List.map_nil, List.append_nil, if_neg (by omega)]
  | succ m ih =>
    rw [List.range_succ, List.map_append, ← List.append_assoc]
    show lastW (_ ++ [((base + (m : Int), l.getD m []) : Pnd)]) a = _
    rw [lastW_app, ih]
    dsimp only
    by_cases h : base + (m : Int) = a
    · rw [if_pos h, if_pos (by omega), show (a - base).toNat = m by omega]
    · rw [if_neg h]
      by_cases h2 : base ≤ a ∧ a < base + (m : Int)
      · rw [if_pos h2, if_pos (by omega)]
      · rw [if_neg h2, if_neg (by omega)]
theorem optAt_may {S : List Sec} {C : List Pnd} (h : mayD S C = true) {a : Int} (h0 : 0 ≤ a) (h1 : a < (S.length : Int)) : optAt S C a = match lastW C a with | some t => some t | none => (if (secAt S a).1 = true then none else some (secAt S a).2) := by
  have ha : askE S C a = 0 := by rw [ask_may h, if_neg (by omega)]
  unfold optAt rdB rdE gotB gotOk
  rw [if_pos ha]
  rcases hl : lastW C a with _ | t
  · rcases hb : (secAt S a).1 with _ | _
    · simp
    · simp
  · simp
theorem optAt_writes {S : List Sec} {C : List Pnd} {base : Int} {l : List Txt} {m : Nat} (h : mayD S C = true) (h' : mayD S (C ++ writesP base l m) = true) {a : Int} (h0 : 0 ≤ a) (h1 : a < (S.length : Int)) :
    optAt S (C ++ writesP base l m) a = if base ≤ a ∧ a < base + (m : Int) then some (l.getD (a - base).toNat []) else optAt S C a := by
  rw [optAt_may h' h0 h1, optAt_may h h0 h1, writesP_eq, last_writes]
  by_cases hr : base ≤ a ∧ a < base + (m : Int)
  · rw [if_pos hr, if_pos hr]
  · rw [if_neg hr, if_neg hr]
theorem ver_opts {S : List Sec} {C : List Pnd} {at_ : Int} (hS : ∀ s ∈ S, ∀ z ∈ s.2, isByte z) (hC : ∀ p ∈ C, ∀ z ∈ p.2, isByte z) (n : Nat) : 0 ≤ countTo (optsOf S C at_ n) n ∧ countTo (optsOf S C at_ n) n < 4294967296 :=
  count_bounds (fun i hi T hT => by
    rw [optsOf_get S C at_ hi] at hT
    unfold optAt at hT
    split at hT
    · rename_i h0
      injection hT with hT
      subst hT
      obtain ⟨h32, hbb⟩ := rd_good h0 hS hC
      exact ver_bounds (by omega) hbb
    · cases hT) _ (Nat.le_refl _)
theorem cwE_zero {S : List Sec} {C : List Pnd} {at_ wd : Int} {b : Txt} (h : cwE S C at_ wd b = 0) : cpE S C at_ wd b = 0 ∧ C.length + (cpL S C at_ wd b).length ≤ 64 := by
  unfold cwE at h
  split at h
  · rename_i h1
    split at h
    · cases h
    · exact ⟨h1, by omega⟩
  · rename_i h1; exact absurd h h1
/-- What was written is read, of a version greater than what the cell held. -/
theorem back {S : List Sec} {C : List Pnd} {at_ wd : Int} {b : Txt} (h : cwE S C at_ wd b = 0) (hb : ∀ z ∈ b, isByte z) (hS : ∀ s ∈ S, ∀ z ∈ s.2, isByte z) (hC : ∀ p ∈ C, ∀ z ∈ p.2, isByte z) :
    crE S (C ++ cpL S C at_ wd b) at_ wd = 0 ∧ crB S (C ++ cpL S C at_ wd b) at_ wd = b ∧ crV S C at_ wd < crV S (C ++ cpL S C at_ wd b) at_ wd := by
  obtain ⟨hp, h64⟩ := cwE_zero h
  obtain ⟨hE, h24, _, hfull⟩ := cpE_zero hp
  obtain ⟨hLl, hm1, hm4, hmay, hgood⟩ := cpL_good hp hb
  have hmay' : mayD S (C ++ cpL S C at_ wd b) = true := by
    have := may_more hmay hgood (Nat.le_refl _) h64
    rwa [List.take_length] at this
  obtain ⟨_, a, m, rfl, rfl, _, _, han⟩ := cellE_zero hE
  rw [Int.toNat_natCast] at hLl hm1 hm4 hfull
  have hE' : cellE S (C ++ cpL S C a m b) a m = 0 := by
    unfold cellE at hE ⊢
    rw [if_pos hmay']
    rwa [if_pos hmay] at hE
  have hct := ver_opts (at_ := (a : Int)) hS hC (2 * m)
  obtain ⟨f, hf⟩ : ∃ f : Nat, (f : Int) = hF m (optsOf S C a (2 * m)) := by
    rcases hF_two m (optsOf S C a (2 * m)) with h | h
    · exact ⟨0, h.symm⟩
    · exact ⟨1, h.symm⟩
  have hf1 : f ≤ 1 := by
    rcases hF_two m (optsOf S C a (2 * m)) with h | h <;> omega
  have hfm : f * m ≤ m := by
    rcases (show f = 0 ∨ f = 1 by omega) with rfl | rfl
    · omega
    · omega
  have hL : cpL S C a m b = writesP ((a : Int) + ((f * m : Nat) : Int)) (textsOf (countTo (optsOf S C a (2 * m)) (2 * m) + 1) b m) m := by
    unfold cpL cpT
    rw [if_pos hp, Int.toNat_natCast, ← hf, Int.natCast_mul]
  have hrd : ∀ i, i < 2 * m → (optsOf S (C ++ cpL S C a m b) a (2 * m)).getD i none = if f * m ≤ i ∧ i < f * m + m then some (partT (countTo (optsOf S C a (2 * m)) (2 * m) + 1) ((i - f * m : Nat) : Int) (chunk b (i - f * m))) else (optsOf S C a (2 * m)).getD i none := by
    intro i hi
    rw [optsOf_get _ _ _ hi, optsOf_get _ _ _ hi]
    rw [hL] at hmay' ⊢
    rw [optAt_writes hmay hmay' (by omega) (by omega)]
    by_cases hr : f * m ≤ i ∧ i < f * m + m
    · rw [if_pos hr, if_pos (by omega), show ((a : Int) + (i : Int) - ((a : Int) + ((f * m : Nat) : Int))).toNat = i - f * m by omega, textsOf_get _ _ (by omega)]
    · rw [if_neg hr, if_neg (by omega)]
  obtain ⟨eV, eB⟩ := cell_new (l := optsOf S C a (2 * m)) (l2 := optsOf S (C ++ cpL S C a m b) a (2 * m)) (m := m) (f := f) (b := b) hm1 (optsOf_length _ _ _ _) (optsOf_length _ _ _ _) hf rfl (by omega) (by omega)
    (fun i hi => by
      rw [hrd _ (by omega), if_pos (by omega), show f * m + i - f * m = i by omega])
    (fun i hi ho => by rw [hrd i hi, if_neg (by omega)])
  have hcr : crE S (C ++ cpL S C a m b) a m = 0 := by
    unfold crE
    rw [if_pos hE', Int.toNat_natCast, eV, if_neg (by omega)]
  refine ⟨hcr, ?_, ?_⟩
  · unfold crB
    rw [if_pos hcr, Int.toNat_natCast, eB]
  · have h1 : crV S (C ++ cpL S C a m b) a m = countTo (optsOf S C a (2 * m)) (2 * m) + 1 := by
      unfold crV
      rw [if_pos hcr, Int.toNat_natCast, eV]
    rw [h1]
    unfold crV
    split
    · rw [Int.toNat_natCast]
      have := hV_le (l := optsOf S C a (2 * m)) (m := m) (optsOf_length _ _ _ _)
      omega
    · omega

end Go.Proofs.Yteinfkjlcpfeiaa
