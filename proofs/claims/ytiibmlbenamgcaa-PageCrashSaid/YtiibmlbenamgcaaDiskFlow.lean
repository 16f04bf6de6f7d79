/- Layer 5: what a write, a flush and a crash do to what is read: lists only. -/
import Derived.Test.YtiibmlbenamgcaaDiskW
namespace Go.Proofs.Ytiibmlbenamgcaa
open Go.RowKit
set_option linter.unusedVariables false

theorem lastW_app (C : List Pnd) (p : Pnd) (at_ : Int) : lastW (C ++ [p]) at_ = if p.1 = at_ then some p.2 else lastW C at_ := by
  unfold lastW
  rw [List.reverse_append]
  by_cases h : p.1 = at_
  · simp [h]
  · simp [h]
theorem pendB_app (C : List Pnd) (p : Pnd) (at_ : Int) : pendB (C ++ [p]) at_ = (pendB C at_ || decide (p.1 = at_)) := by
  unfold pendB
  simp
theorem set_sec (S : List Sec) (k u : Nat) (x : Sec) (hk : k < S.length) : (S.set k x).getD u (false, []) = if u = k then x else S.getD u (false, []) := by
  rw [List.getD_eq_getElem?_getD, List.getElem?_set, List.getD_eq_getElem?_getD]
  by_cases h : k = u
  · subst h; simp [hk]
  · rw [if_neg h, if_neg (fun e => h e.symm)]
theorem secAt_set (S : List Sec) (a : Int) (x : Sec) (at_ : Int) (h0 : 0 ≤ a) (h1 : a < (S.length : Int)) (h2 : 0 ≤ at_) : secAt (S.set a.toNat x) at_ = if a = at_ then x else secAt S at_ := by
  unfold secAt
  rw [set_sec S _ _ _ (by omega)]
  by_cases h : a = at_
  · subst h; rw [if_pos rfl, if_pos rfl]
  · rw [if_neg (by omega), if_neg h]
theorem fate_at (S : List Sec) (p : Pnd) (f at_ : Int) (h0 : 0 ≤ p.1) (h1 : p.1 < (S.length : Int)) (h2 : 0 ≤ at_) : secAt (byFate S p f) at_ = if p.1 = at_ then (if f % 3 = 1 then (false, p.2) else if f % 3 = 2 then (true, noughts) else secAt S at_) else secAt S at_ := by
  unfold byFate
  by_cases e1 : f % 3 = 1
  · rw [if_pos e1, if_pos e1, secAt_set S p.1 _ at_ h0 h1 h2]
  · rw [if_neg e1, if_neg e1]
    by_cases e2 : f % 3 = 2
    · rw [if_pos e2, if_pos e2, secAt_set S p.1 _ at_ h0 h1 h2]
    · rw [if_neg e2, if_neg e2]
      split <;> rfl
theorem may_pnd {S : List Sec} {C : List Pnd} (h : mayD S C = true) {k : Nat} (hk : k < C.length) : 0 ≤ (C.getD k (0, [])).1 ∧ (C.getD k (0, [])).1 < (S.length : Int) ∧ (C.getD k (0, [])).2.length = 32 := by
  have := ((mayD_iff S C).1 h).2.2 (C.getD k (0, [])) (by rw [List.getD_eq_getElem?_getD, List.getElem?_eq_getElem hk, Option.getD_some]; exact List.getElem_mem hk)
  exact this
theorem take_last (C : List Pnd) {k : Nat} (hk : k < C.length) : C.take (k + 1) = C.take k ++ [C.getD k (0, [])] := by
  rw [List.getD_eq_getElem?_getD, List.getElem?_eq_getElem hk, Option.getD_some, List.take_add_one, List.getElem?_eq_getElem hk]
  rfl
/-- A flush: each sector as its last write left it. -/
theorem flush_at {S : List Sec} {C : List Pnd} (h : mayD S C = true) {at_ : Int} (h2 : 0 ≤ at_) : ∀ k, k ≤ C.length → secAt (behindK S C (List.replicate C.length 1) k) at_ = ((lastW (C.take k) at_).map fun b => ((false, b) : Sec)).getD (secAt S at_) := fun k => by
  induction k with
  | zero => intro _; rfl
  | succ k ih =>
    intro hk
    have hp := may_pnd h (show k < C.length by omega)
    show secAt (byFate (behindK S C (List.replicate C.length 1) k) (C.getD k (0, [])) ((List.replicate C.length (1 : Int)).getD k 0)) at_ = _
    have h1 : (List.replicate C.length (1 : Int)).getD k 0 = 1 := by
      rw [List.getD_eq_getElem?_getD, List.getElem?_replicate, if_pos (by omega), Option.getD_some]
    rw [h1, fate_at _ _ _ _ hp.1 (by rw [behindK_len]; exact hp.2.1) h2, take_last C (by omega), lastW_app, ih (by omega)]
    by_cases e : (C.getD k (0, [])).1 = at_
    · rw [if_pos e, if_pos e, if_pos (by decide)]
      rfl
    · rw [if_neg e, if_neg e]
/-- A crash: each sector as it was, or as one of its writes left it, or bad. -/
theorem crash_at {S : List Sec} {C : List Pnd} (h : mayD S C = true) (F : List Int) {at_ : Int} (h2 : 0 ≤ at_) : ∀ k, k ≤ C.length → secAt (behindK S C F k) at_ = secAt S at_ ∨ ((secAt (behindK S C F k) at_).1 = true ∧ pendB C at_ = true) ∨ ∃ j, j < C.length ∧ (C.getD j (0, [])).1 = at_ ∧ secAt (behindK S C F k) at_ = (false, (C.getD j (0, [])).2) := fun k => by
  induction k with
  | zero => intro _; exact .inl rfl
  | succ k ih =>
    intro hk
    have hp := may_pnd h (show k < C.length by omega)
    show secAt (byFate (behindK S C F k) (C.getD k (0, [])) (F.getD k 0)) at_ = _ ∨ ((secAt (byFate (behindK S C F k) (C.getD k (0, [])) (F.getD k 0)) at_).1 = true ∧ _) ∨ ∃ j, _ ∧ _ ∧ secAt (byFate (behindK S C F k) (C.getD k (0, [])) (F.getD k 0)) at_ = _
    rw [fate_at _ _ _ _ hp.1 (by rw [behindK_len]; exact hp.2.1) h2]
    by_cases e : (C.getD k (0, [])).1 = at_
    · rw [if_pos e]
      by_cases e1 : F.getD k 0 % 3 = 1
      · rw [if_pos e1]
        exact .inr (.inr ⟨k, by omega, e, rfl⟩)
      · rw [if_neg e1]
        by_cases e2 : F.getD k 0 % 3 = 2
        · rw [if_pos e2]
          exact .inr (.inl ⟨rfl, pend_hit (show k < C.length by omega) e⟩)
        · rw [if_neg e2]
          exact ih (by omega)
    · rw [if_neg e]
      exact ih (by omega)
theorem fate_ok {S : List Sec} (hs : ∀ s ∈ S, s.2.length = 32 ∧ (s.1 = true → ∀ z ∈ s.2, z = 0)) {p : Pnd} (hp : p.2.length = 32) (f : Int) : ∀ s ∈ byFate S p f, s.2.length = 32 ∧ (s.1 = true → ∀ z ∈ s.2, z = 0) := by
  intro s h
  unfold byFate at h
  split at h
  · rcases List.mem_or_eq_of_mem_set h with h | rfl
    · exact hs s h
    · exact ⟨hp, fun e => by cases e⟩
  · split at h
    · rcases List.mem_or_eq_of_mem_set h with h | rfl
      · exact hs s h
      · exact ⟨by simp [noughts], fun _ z hz => (List.mem_replicate.1 hz).2⟩
    · exact hs s h
theorem behind_may {S : List Sec} {C : List Pnd} (h : mayD S C = true) (F : List Int) : mayD (behindS S C F) [] = true := by
  obtain ⟨⟨h1, h2, h3⟩, h4, h5⟩ := (mayD_iff S C).1 h
  rw [mayD_iff]
  refine ⟨⟨by unfold behindS; rw [behindK_len]; exact h1, by unfold behindS; rw [behindK_len]; exact h2, by simp⟩, ?_, by simp⟩
  have hk : ∀ k, k ≤ C.length → ∀ s ∈ behindK S C F k, s.2.length = 32 ∧ (s.1 = true → ∀ z ∈ s.2, z = 0) := fun k => by
    induction k with
    | zero => intro _; exact h4
    | succ k ih => intro hk; exact fate_ok (ih (by omega)) (may_pnd h (show k < C.length by omega)).2.2 _
  exact hk _ (Nat.min_le_left _ _)
theorem cr_may {S : List Sec} {C : List Pnd} (h : mayD S C = true) (F : List Int) : mayD (crS S C F) [] = true ∧ (crS S C F).length = S.length := by
  unfold crS
  rw [if_pos h]
  exact ⟨behind_may h F, by unfold behindS; rw [behindK_len]⟩
theorem cr_none {S : List Sec} (h : mayD S [] = true) (F : List Int) : crS S [] F = S := by
  unfold crS
  rw [if_pos h]
  unfold behindS
  simp [behindK]
theorem wr_may {S : List Sec} {C : List Pnd} {at_ : Int} {b : Txt} (h : wrE S C at_ b = 0) : mayD S C = true ∧ 0 ≤ at_ ∧ at_ < (S.length : Int) ∧ b.length = 32 ∧ C.length < 64 := by
  unfold wrE askE at h
  by_cases hm : mayD S C = true
  · rw [if_pos hm] at h
    by_cases hb : at_ < 0 ∨ (S.length : Int) ≤ at_
    · rw [if_pos hb] at h; simp at h
    · rw [if_neg hb, if_pos rfl] at h
      by_cases h32 : b.length = 32
      · rw [if_pos h32] at h
        by_cases h64 : 64 ≤ C.length
        · rw [if_pos h64] at h; omega
        · exact ⟨hm, by omega, by omega, h32, by omega⟩
      · rw [if_neg h32] at h; omega
  · rw [if_neg hm] at h; simp at h
theorem ask_may {S : List Sec} {C : List Pnd} (h : mayD S C = true) (at_ : Int) : askE S C at_ = if at_ < 0 ∨ (S.length : Int) ≤ at_ then 2 else 0 := by
  unfold askE; rw [if_pos h]
theorem wr_keeps {S : List Sec} {C : List Pnd} {at_ : Int} {b : Txt} (h : wrE S C at_ b = 0) : mayD S (C ++ [(at_, b)]) = true := by
  obtain ⟨hm, h0, h1, h32, h64⟩ := wr_may h
  obtain ⟨⟨a1, a2, a3⟩, a4, a5⟩ := (mayD_iff S C).1 hm
  refine (mayD_iff _ _).2 ⟨⟨a1, a2, by simp; omega⟩, a4, fun p hp => ?_⟩
  rcases List.mem_append.1 hp with hp | hp
  · exact a5 p hp
  · rw [List.mem_singleton] at hp
    subst hp
    exact ⟨h0, h1, h32⟩
theorem rd_like {S S' : List Sec} {C C' : List Pnd} (h : mayD S C = true) (h' : mayD S' C' = true) (hl : S'.length = S.length) {at_ : Int} (hg : 0 ≤ at_ → at_ < (S.length : Int) → gotB S' C' at_ = gotB S C at_ ∧ gotOk S' C' at_ = gotOk S C at_) : rdE S' C' at_ = rdE S C at_ ∧ rdB S' C' at_ = rdB S C at_ := by
  have ha : askE S' C' at_ = askE S C at_ := by rw [ask_may h, ask_may h', hl]
  have he : rdE S' C' at_ = rdE S C at_ := by
    unfold rdE
    rw [ha]
    by_cases h0 : askE S C at_ = 0
    · rw [if_pos h0, if_pos h0]
      have hb := h0
      rw [ask_may h] at hb
      by_cases e : at_ < 0 ∨ (S.length : Int) ≤ at_
      · rw [if_pos e] at hb; cases hb
      · rw [(hg (by omega) (by omega)).2]
    · rw [if_neg h0, if_neg h0]
  refine ⟨he, ?_⟩
  unfold rdB
  rw [he]
  by_cases h0 : rdE S C at_ = 0
  · rw [if_pos h0, if_pos h0]
    have hb : ¬ (at_ < 0 ∨ (S.length : Int) ≤ at_) := fun e => by
      unfold rdE at h0
      rw [ask_may h, if_pos e] at h0
      simp at h0
    exact (hg (by omega) (by omega)).1
  · rw [if_neg h0, if_neg h0]
theorem rd_other {S : List Sec} {C : List Pnd} {at_ other : Int} {b : Txt} (h : wrE S C at_ b = 0) (hne : other ≠ at_) : rdE S (C ++ [(at_, b)]) other = rdE S C other ∧ rdB S (C ++ [(at_, b)]) other = rdB S C other := by
  refine rd_like (wr_may h).1 (wr_keeps h) rfl fun _ _ => ?_
  unfold gotB gotOk
  rw [lastW_app, if_neg (fun e => hne e.symm)]
  exact ⟨rfl, rfl⟩
theorem rd_flush {S : List Sec} {C : List Pnd} (h : mayD S C = true) (at_ : Int) : rdE (flS S C) [] at_ = rdE S C at_ ∧ rdB (flS S C) [] at_ = rdB S C at_ := by
  obtain ⟨hm, hl⟩ := cr_may h (List.replicate C.length 1)
  refine rd_like h hm hl fun h0 h1 => ?_
  have hf := flush_at h h0 C.length (Nat.le_refl _)
  rw [List.take_length] at hf
  have hs : secAt (flS S C) at_ = ((lastW C at_).map fun b => ((false, b) : Sec)).getD (secAt S at_) := by
    unfold flS crS
    rw [if_pos h]
    unfold behindS
    rw [List.length_replicate, Nat.min_self]
    exact hf
  show gotB (flS S C) [] at_ = _ ∧ gotOk (flS S C) [] at_ = _
  unfold gotB gotOk
  rw [hs]
  cases lastW C at_ with
  | none => exact ⟨rfl, rfl⟩
  | some x => exact ⟨rfl, rfl⟩
theorem rd_back {S : List Sec} {C : List Pnd} {at_ : Int} {b : Txt} (h : wrE S C at_ b = 0) : rdE S (C ++ [(at_, b)]) at_ = 0 ∧ rdB S (C ++ [(at_, b)]) at_ = b ∧ askE S (C ++ [(at_, b)]) at_ = 0 ∧ waB S (C ++ [(at_, b)]) at_ = true := by
  obtain ⟨hm, h0, h1, h32, h64⟩ := wr_may h
  have ha : askE S (C ++ [(at_, b)]) at_ = 0 := by rw [ask_may (wr_keeps h), if_neg (by omega)]
  have he : rdE S (C ++ [(at_, b)]) at_ = 0 := by
    unfold rdE gotOk
    rw [if_pos ha, lastW_app, if_pos rfl]
    rfl
  refine ⟨he, ?_, ha, ?_⟩
  · unfold rdB gotB
    rw [if_pos he, lastW_app, if_pos rfl]
    rfl
  · unfold waB
    rw [if_pos ha, pendB_app]
    simp

end Go.Proofs.Ytiibmlbenamgcaa
