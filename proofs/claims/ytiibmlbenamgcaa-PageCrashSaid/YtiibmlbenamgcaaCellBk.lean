/- Layer 6: what was written is read: lists. Nothing of the program. -/
/- Layer 6: what was written is read: disks as lists. Nothing of the program. -/
import Derived.Test.YtiibmlbenamgcaaCellWr
namespace Go.Proofs.Ytiibmlbenamgcaa
set_option linter.unusedVariables false

theorem partT_parts (v n : Int) (b : Txt) : partT v n b = digs 4 v ++ ([n % 256, (b.length : Int) % 256, 0, 0] ++ (b ++ List.replicate (24 - b.length) 0)) := by
  unfold partT
  rw [rowT_eq]
  simp only [List.append_assoc]
theorem ver_part {v : Int} (n : Int) (b : Txt) (hv : 0 ≤ v ∧ v < 4294967296) : verOf (partT v n b) = v := by
  unfold verOf
  rw [partT_parts, List.take_append_of_le_length (by rw [digs_length]; decide), List.take_of_length_le (by rw [digs_length]; decide)]
  exact val_digs 4 v hv.1 (Int.ediv_eq_zero_of_lt hv.1 (by rw [show (256 : Int) ^ 4 = 4294967296 by decide]; exact hv.2))
theorem many_part (v n : Int) {b : Txt} (hb : b.length ≤ 24) : manyOf (partT v n b) = b.length := by
  unfold manyOf
  rw [partT_parts, List.getD_eq_getElem?_getD, List.getElem?_append_right (by rw [digs_length]; decide), digs_length]
  show ((b.length : Int) % 256) = _
  omega
theorem bytes_part (v n : Int) {b : Txt} (hb : b.length ≤ 24) : partB (partT v n b) = b := by
  unfold partB
  rw [many_part v n hb, Int.toNat_natCast, partT_parts, List.drop_append, digs_length, List.drop_of_length_le (by rw [digs_length]; decide), List.nil_append]
  show (b ++ List.replicate (24 - b.length) 0).take b.length = b
  rw [List.take_append_of_le_length (Nat.le_refl _), List.take_of_length_le (Nat.le_refl _)]
theorem partO_part {v : Int} (hv : 0 < v ∧ v < 4294967296) (n : Nat) {b : Txt} (hb : b.length ≤ 24) : partO n (some (partT v n b)) = some (v, b) := by
  have h1 := ver_part (v := v) n b ⟨by omega, hv.2⟩
  have h2 := many_part v n hb
  have h3 := bytes_part v n hb
  have h : partOk n (partT v n b) = true := by
    simp only [partOk, Bool.and_eq_true, decide_eq_true_eq]
    rw [h1, h2, h3]
    exact ⟨⟨by omega, by omega⟩, rfl⟩
  unfold partO
  dsimp only
  rw [if_pos h, h1, h3]
theorem chunk_len (b : Txt) (k : Nat) : (chunk b k).length = min 24 (b.length - 24 * k) := by
  unfold chunk
  rw [List.length_take, List.length_drop]
theorem range_get {α : Type} (f : Nat → α) (d : α) {n k : Nat} (h : k < n) : ((List.range n).map f).getD k d = f k := by
  rw [List.getD_eq_getElem?_getD, List.getElem?_eq_getElem (by simpa using h)]
  simp
theorem held_new {l : List (Option Txt)} {v : Int} {b : Txt} {m : Nat} (hv : 0 < v ∧ v < 4294967296) (hl : ∀ i, i < m → l.getD i none = some (partT v i (chunk b i))) : ∀ k, k ≤ m → heldTo l k = some ((List.range k).map fun i => (v, chunk b i)) := by
  intro k
  induction k with
  | zero => intro _; rfl
  | succ k ih =>
    intro hk
    have h1 := ih (by omega)
    have h2 := partO_part hv k (b := chunk b k) (by rw [chunk_len]; omega)
    rw [← hl k (by omega)] at h2
    rw [heldTo_succ h1 h2 ?_, List.range_succ, List.map_append]
    · rfl
    · by_cases h0 : k = 0
      · exact .inl h0
      · refine .inr ?_
        rw [range_get (fun i => ((v, chunk b i) : Prt)) _ (by omega)]
        refine ⟨rfl, ?_⟩
        show (chunk b k).length = 0 ∨ 24 ≤ (chunk b (k - 1)).length
        rw [chunk_len, chunk_len]
        omega
theorem join_new (v : Int) (b : Txt) (m : Nat) : joinB ((List.range m).map fun i => ((v, chunk b i) : Prt)) = b.take (24 * m) := by
  induction m with
  | zero => simp [joinB]
  | succ m ih =>
    rw [List.range_succ, List.map_append]
    show joinB (_ ++ [((v, chunk b m) : Prt)]) = _
    rw [joinB_snoc, ih, Nat.mul_succ, List.take_add]
    rfl
theorem slot_new {l : List (Option Txt)} {v : Int} {b : Txt} {m : Nat} (hv : 0 < v ∧ v < 4294967296) (hm : 1 ≤ m) (hlen : l.length = m) (hb : b.length ≤ 24 * m) (hl : ∀ i, i < m → l.getD i none = some (partT v i (chunk b i))) : slotV l = v ∧ slotB l = b := by
  have h := held_new hv hl m (Nat.le_refl _)
  unfold slotV slotB
  rw [hlen, h]
  refine ⟨?_, ?_⟩
  · obtain ⟨k, rfl⟩ : ∃ k, m = k + 1 := ⟨m - 1, by omega⟩
    dsimp only
    rw [List.range_succ, List.map_append]
    exact joinV_snoc _ _
  · dsimp only
    rw [join_new, List.take_of_length_le hb]
theorem held_from {l : List (Option Txt)} {k : Nat} {ps : List Prt} (h : heldTo l k = some ps) : ∀ p ∈ ps, ∃ i T, i < k ∧ l.getD i none = some T ∧ p.1 = verOf T := by
  induction k generalizing ps with
  | zero => injection h with h; subst h; simp
  | succ k ih =>
    rw [heldTo] at h
    rcases h1 : heldTo l k with _ | qs
    · rw [h1] at h; cases h
    · rw [h1] at h
      dsimp only at h
      rcases h2 : partO k (l.getD k none) with _ | p
      · rw [h2] at h; cases h
      · rw [h2] at h
        dsimp only at h
        split at h
        · injection h with h
          subst h
          intro q hq
          rcases List.mem_append.1 hq with hq | hq
          · obtain ⟨i, T, hi, e1, e2⟩ := ih h1 q hq
            exact ⟨i, T, by omega, e1, e2⟩
          · rw [List.mem_singleton] at hq
            subst hq
            rcases h3 : l.getD k none with _ | T
            · rw [h3] at h2; cases h2
            · rw [h3] at h2
              unfold partO at h2
              dsimp only at h2
              split at h2
              · injection h2 with h2
                subst h2
                exact ⟨k, T, by omega, h3, rfl⟩
              · cases h2
        · cases h
theorem joinV_mem {ps : List Prt} (h : ps ≠ []) : ∃ p ∈ ps, joinV ps = p.1 := by
  refine ⟨ps.getLast h, List.getLast_mem h, ?_⟩
  have e := joinV_snoc ps.dropLast (ps.getLast h)
  rwa [List.dropLast_concat_getLast h] at e
/-- A slot's version is that of one of its sectors, or none. -/
theorem slotV_le {l : List (Option Txt)} {c : Int} (hc : 0 ≤ c) (h : ∀ i T, i < l.length → l.getD i none = some T → verOf T ≤ c) : slotV l ≤ c := by
  unfold slotV
  rcases h1 : heldTo l l.length with _ | ps
  · exact hc
  · dsimp only
    by_cases hp : ps = []
    · subst hp; exact hc
    · obtain ⟨p, hp, e⟩ := joinV_mem hp
      obtain ⟨i, T, hi, e1, e2⟩ := held_from h1 p hp
      rw [e, e2]
      exact h i T hi e1
theorem count_ge {l : List (Option Txt)} : ∀ n i T, i < n → l.getD i none = some T → verOf T ≤ countTo l n := by
  intro n
  induction n with
  | zero => intro i T hi; omega
  | succ n ih =>
    intro i T hi h
    rw [countTo]
    rcases Nat.lt_or_ge i n with h1 | h1
    · have h2 := ih i T h1 h
      rcases h3 : l.getD n none with _ | U
      · exact h2
      · dsimp only; omega
    · obtain rfl : i = n := by omega
      rw [h]
      dsimp only
      omega
theorem count_pos {l : List (Option Txt)} : ∀ n, 0 ≤ countTo l n := by
  intro n
  induction n with
  | zero => exact Int.le_refl 0
  | succ n ih =>
    rw [countTo]
    rcases l.getD n none with _ | U
    · exact ih
    · dsimp only; omega

theorem getD_take {α : Type} {l : List α} {d : α} {m i : Nat} (h : i < m) : (l.take m).getD i d = l.getD i d := by
  rw [List.getD_eq_getElem?_getD, List.getD_eq_getElem?_getD, List.getElem?_take_of_lt h]
theorem getD_drop {α : Type} {l : List α} {d : α} {m i : Nat} : (l.drop m).getD i d = l.getD (m + i) d := by
  rw [List.getD_eq_getElem?_getD, List.getD_eq_getElem?_getD, List.getElem?_drop]
theorem list_eq {α : Type} {l k : List α} {d : α} {n : Nat} (h1 : l.length = n) (h2 : k.length = n) (h : ∀ i, i < n → l.getD i d = k.getD i d) : l = k := by
  apply List.ext_getElem (by rw [h1, h2])
  intro i hi hi2
  have := h i (by omega)
  rw [List.getD_eq_getElem?_getD, List.getD_eq_getElem?_getD, List.getElem?_eq_getElem hi, List.getElem?_eq_getElem hi2] at this
  exact this
/-- Each slot's version is at most the count. -/
theorem slots_le {l : List (Option Txt)} {m : Nat} (hl : l.length = 2 * m) : slotV (l.take m) ≤ countTo l (2 * m) ∧ slotV (l.drop m) ≤ countTo l (2 * m) := by
  refine ⟨slotV_le (count_pos _) fun i T hi h => ?_, slotV_le (count_pos _) fun i T hi h => ?_⟩
  · rw [List.length_take] at hi
    rw [getD_take (by omega)] at h
    exact count_ge _ i T (by omega) h
  · rw [List.length_drop] at hi
    rw [getD_drop] at h
    exact count_ge _ (m + i) T (by omega) h
theorem hV_le {l : List (Option Txt)} {m : Nat} (hl : l.length = 2 * m) : hV m l ≤ countTo l (2 * m) := by
  unfold hV
  split
  · exact (slots_le hl).2
  · exact (slots_le hl).1
/-- One slot is new, the other one is as it was: what the cell holds. -/
theorem cell_new {l l2 : List (Option Txt)} {m f : Nat} {v : Int} {b : Txt} (hm : 1 ≤ m) (hl : l.length = 2 * m) (hl2 : l2.length = 2 * m) (hf : (f : Int) = hF m l) (hv : v = countTo l (2 * m) + 1) (hv2 : v < 4294967296) (hb : b.length ≤ 24 * m)
    (hnew : ∀ i, i < m → l2.getD (f * m + i) none = some (partT v i (chunk b i))) (hold : ∀ i, i < 2 * m → (i < f * m ∨ f * m + m ≤ i) → l2.getD i none = l.getD i none) : hV m l2 = v ∧ hB m l2 = b := by
  have hc := count_pos (l := l) (2 * m)
  have hs := slots_le hl
  have hvv : 0 < v ∧ v < 4294967296 := ⟨by omega, hv2⟩
  rcases hF_two m l with h0 | h1
  · obtain rfl : f = 0 := by omega
    obtain ⟨e1, e2⟩ := slot_new (l := l2.take m) hvv hm (by rw [List.length_take]; omega) hb (fun i hi => by rw [getD_take hi]; have := hnew i hi; rwa [Nat.zero_mul, Nat.zero_add] at this)
    have e3 : l2.drop m = l.drop m := list_eq (d := none) (n := m) (by rw [List.length_drop]; omega) (by rw [List.length_drop]; omega) (fun i hi => by
      rw [getD_drop, getD_drop]
      exact hold (m + i) (by omega) (.inr (by omega)))
    unfold hV hB
    rw [e1, e2, e3]
    have hno : ¬ (v = 0 ∨ v < slotV (l.drop m)) := by omega
    rw [if_neg hno, if_neg hno]
    exact ⟨rfl, rfl⟩
  · obtain rfl : f = 1 := by omega
    obtain ⟨e1, e2⟩ := slot_new (l := l2.drop m) hvv hm (by rw [List.length_drop]; omega) hb (fun i hi => by rw [getD_drop]; have := hnew i hi; rwa [Nat.one_mul] at this)
    have e3 : l2.take m = l.take m := list_eq (d := none) (n := m) (by rw [List.length_take]; omega) (by rw [List.length_take]; omega) (fun i hi => by
      rw [getD_take hi, getD_take hi]
      exact hold i (by omega) (.inl (by omega)))
    unfold hV hB
    rw [e1, e2, e3]
    have hyes : slotV (l.take m) = 0 ∨ slotV (l.take m) < v := .inr (by omega)
    rw [if_pos hyes, if_pos hyes]
    exact ⟨rfl, rfl⟩

end Go.Proofs.Ytiibmlbenamgcaa

namespace Go.Proofs.Ytiibmlbenamgcaa
set_option linter.unusedVariables false

theorem writesP_eq (base : Int) (l : List Txt) (m : Nat) : writesP base l m = (List.range m).map fun i : Nat => ((base + (i : Int), l.getD i []) : Pnd) := by
  unfold writesP someP
  apply List.map_congr_left
  intro i hi
  rw [if_pos (List.mem_range.1 hi)]
theorem last_writes (C : List Pnd) (base : Int) (l : List Txt) (a : Int) : ∀ m : Nat, lastW (C ++ (List.range m).map fun i : Nat => ((base + (i : Int), l.getD i []) : Pnd)) a = if base ≤ a ∧ a < base + (m : Int) then some (l.getD (a - base).toNat []) else lastW C a := by
  intro m
  induction m with
  | zero => rw [List.range_zero, List.map_nil, List.append_nil, if_neg (by omega)]
  | succ m ih =>
    rw [List.range_succ, List.map_append, ← List.append_assoc]
    show lastW (_ ++ [((base + (m : Int), l.getD m []) : Pnd)]) a = _
    rw [lastW_app, ih]
    dsimp only
    by_cases h : base + (m : Int) = a
    · rw [if_pos h, if_pos (by omega), show (a - base).toNat = m by omega]
    · rw [if_neg h]
      by_cases h2 : base ≤ a ∧ a < base + (m : Int)
      · rw [if_pos h2, if_pos (by omega)]
      · rw [if_neg h2, if_neg (by omega)]
theorem optAt_may {S : List Sec} {C : List Pnd} (h : mayD S C = true) {a : Int} (h0 : 0 ≤ a) (h1 : a < (S.length : Int)) : optAt S C a = match lastW C a with | some t => some t | none => (if (secAt S a).1 = true then none else some (secAt S a).2) := by
  have ha : askE S C a = 0 := by rw [ask_may h, if_neg (by omega)]
  unfold optAt rdB rdE gotB gotOk
  rw [if_pos ha]
  rcases hl : lastW C a with _ | t
  · rcases hb : (secAt S a).1 with _ | _
    · simp
    · simp
  · simp
theorem optAt_writes {S : List Sec} {C : List Pnd} {base : Int} {l : List Txt} {m : Nat} (h : mayD S C = true) (h' : mayD S (C ++ writesP base l m) = true) {a : Int} (h0 : 0 ≤ a) (h1 : a < (S.length : Int)) :
    optAt S (C ++ writesP base l m) a = if base ≤ a ∧ a < base + (m : Int) then some (l.getD (a - base).toNat []) else optAt S C a := by
  rw [optAt_may h' h0 h1, optAt_may h h0 h1, writesP_eq, last_writes]
  by_cases hr : base ≤ a ∧ a < base + (m : Int)
  · rw [if_pos hr, if_pos hr]
  · rw [if_neg hr, if_neg hr]
theorem ver_opts {S : List Sec} {C : List Pnd} {at_ : Int} (hS : ∀ s ∈ S, ∀ z ∈ s.2, isByte z) (hC : ∀ p ∈ C, ∀ z ∈ p.2, isByte z) (n : Nat) : 0 ≤ countTo (optsOf S C at_ n) n ∧ countTo (optsOf S C at_ n) n < 4294967296 :=
  count_bounds (fun i hi T hT => by
    rw [optsOf_get S C at_ hi] at hT
    unfold optAt at hT
    split at hT
    · rename_i h0
      injection hT with hT
      subst hT
      obtain ⟨h32, hbb⟩ := rd_good h0 hS hC
      exact ver_bounds (by omega) hbb
    · cases hT) _ (Nat.le_refl _)
theorem cwE_zero {S : List Sec} {C : List Pnd} {at_ wd : Int} {b : Txt} (h : cwE S C at_ wd b = 0) : cpE S C at_ wd b = 0 ∧ C.length + (cpL S C at_ wd b).length ≤ 64 := by
  unfold cwE at h
  split at h
  · rename_i h1
    split at h
    · cases h
    · exact ⟨h1, by omega⟩
  · rename_i h1; exact absurd h h1
/-- What was written is read, of a version greater than what the cell held. -/
theorem back {S : List Sec} {C : List Pnd} {at_ wd : Int} {b : Txt} (h : cwE S C at_ wd b = 0) (hb : ∀ z ∈ b, isByte z) (hS : ∀ s ∈ S, ∀ z ∈ s.2, isByte z) (hC : ∀ p ∈ C, ∀ z ∈ p.2, isByte z) :
    crE S (C ++ cpL S C at_ wd b) at_ wd = 0 ∧ crB S (C ++ cpL S C at_ wd b) at_ wd = b ∧ crV S C at_ wd < crV S (C ++ cpL S C at_ wd b) at_ wd := by
  obtain ⟨hp, h64⟩ := cwE_zero h
  obtain ⟨hE, h24, _, hfull⟩ := cpE_zero hp
  obtain ⟨hLl, hm1, hm4, hmay, hgood⟩ := cpL_good hp hb
  have hmay' : mayD S (C ++ cpL S C at_ wd b) = true := by
    have := may_more hmay hgood (Nat.le_refl _) h64
    rwa [List.take_length] at this
  obtain ⟨_, a, m, rfl, rfl, _, _, han⟩ := cellE_zero hE
  rw [Int.toNat_natCast] at hLl hm1 hm4 hfull
  have hE' : cellE S (C ++ cpL S C a m b) a m = 0 := by
    unfold cellE at hE ⊢
    rw [if_pos hmay']
    rwa [if_pos hmay] at hE
  have hct := ver_opts (at_ := (a : Int)) hS hC (2 * m)
  obtain ⟨f, hf⟩ : ∃ f : Nat, (f : Int) = hF m (optsOf S C a (2 * m)) := by
    rcases hF_two m (optsOf S C a (2 * m)) with h | h
    · exact ⟨0, h.symm⟩
    · exact ⟨1, h.symm⟩
  have hf1 : f ≤ 1 := by
    rcases hF_two m (optsOf S C a (2 * m)) with h | h <;> omega
  have hfm : f * m ≤ m := by
    rcases (show f = 0 ∨ f = 1 by omega) with rfl | rfl
    · omega
    · omega
  have hL : cpL S C a m b = writesP ((a : Int) + ((f * m : Nat) : Int)) (textsOf (countTo (optsOf S C a (2 * m)) (2 * m) + 1) b m) m := by
    unfold cpL cpT
    rw [if_pos hp, Int.toNat_natCast, ← hf, Int.natCast_mul]
  have hrd : ∀ i, i < 2 * m → (optsOf S (C ++ cpL S C a m b) a (2 * m)).getD i none = if f * m ≤ i ∧ i < f * m + m then some (partT (countTo (optsOf S C a (2 * m)) (2 * m) + 1) ((i - f * m : Nat) : Int) (chunk b (i - f * m))) else (optsOf S C a (2 * m)).getD i none := by
    intro i hi
    rw [optsOf_get _ _ _ hi, optsOf_get _ _ _ hi]
    rw [hL] at hmay' ⊢
    rw [optAt_writes hmay hmay' (by omega) (by omega)]
    by_cases hr : f * m ≤ i ∧ i < f * m + m
    · rw [if_pos hr, if_pos (by omega), show ((a : Int) + (i : Int) - ((a : Int) + ((f * m : Nat) : Int))).toNat = i - f * m by omega, textsOf_get _ _ (by omega)]
    · rw [if_neg hr, if_neg (by omega)]
  obtain ⟨eV, eB⟩ := cell_new (l := optsOf S C a (2 * m)) (l2 := optsOf S (C ++ cpL S C a m b) a (2 * m)) (m := m) (f := f) (b := b) hm1 (optsOf_length _ _ _ _) (optsOf_length _ _ _ _) hf rfl (by omega) (by omega)
    (fun i hi => by
      rw [hrd _ (by omega), if_pos (by omega), show f * m + i - f * m = i by omega])
    (fun i hi ho => by rw [hrd i hi, if_neg (by omega)])
  have hcr : crE S (C ++ cpL S C a m b) a m = 0 := by
    unfold crE
    rw [if_pos hE', Int.toNat_natCast, eV, if_neg (by omega)]
  refine ⟨hcr, ?_, ?_⟩
  · unfold crB
    rw [if_pos hcr, Int.toNat_natCast, eB]
  · have h1 : crV S (C ++ cpL S C a m b) a m = countTo (optsOf S C a (2 * m)) (2 * m) + 1 := by
      unfold crV
      rw [if_pos hcr, Int.toNat_natCast, eV]
    rw [h1]
    unfold crV
    split
    · rw [Int.toNat_natCast]
      have := hV_le (l := optsOf S C a (2 * m)) (m := m) (optsOf_length _ _ _ _)
      omega
    · omega

end Go.Proofs.Ytiibmlbenamgcaa
