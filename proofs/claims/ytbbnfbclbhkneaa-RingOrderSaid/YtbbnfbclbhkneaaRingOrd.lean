/- Layer 4: what was pushed first is popped first, of queues as lists. Nothing of the program. -/
import Derived.Test.YtbbnfbclbhkneaaRingMath
namespace Go.Proofs.Ytbbnfbclbhkneaa

theorem mod_two {a n : Nat} (h : a < n + n) : a % n = if a < n then a else a - n := by
  split
  · exact Nat.mod_eq_of_lt (by assumption)
  · rw [Nat.mod_eq_sub_mod (by omega)]
    exact Nat.mod_eq_of_lt (by omega)
theorem mod_same {H k M n : Nat} (hH : H < n) (hk : k < n) (hM : M < n) (h : (H + k) % n = (H + M) % n) : k = M := by
  rw [mod_two (by omega), mod_two (by omega)] at h
  split at h <;> split at h <;> omega
theorem getD_set {α : Type} (q : List α) (i j : Nat) (b d : α) (hi : i < q.length) : (q.set i b).getD j d = if i = j then b else q.getD j d := by
  rw [List.getD_eq_getElem?_getD, List.getElem?_set]
  split
  · rfl
  · rw [List.getD_eq_getElem?_getD]
theorem itm_push {q : List Text} {H M k : Nat} {b : Text} (hH : H < q.length) (hM : M < q.length) (hk : k < q.length) : itm (q.set ((H + M) % q.length) b) H k = if k = M then b else itm q H k := by
  unfold itm
  rw [List.length_set, getD_set _ _ _ _ _ (Nat.mod_lt _ (by omega))]
  by_cases e : k = M
  · subst e; simp
  · rw [if_neg e, if_neg fun h => e (mod_same hH hM hk h).symm]
theorem push_may {q : List Text} {H M : Nat} {b : Text} (hm : mayB q H M = true) (hM : M < q.length) :
    mayB (q.set ((H + M) % q.length) b) H ((M : Int) + 1) = true ∧ listT (q.set ((H + M) % q.length) b) H ((M : Int) + 1) = listT q H M ++ [b] := by
  obtain ⟨H', M', eH, eM, h1, h2, h3, h4, h5⟩ := mayB_nat hm
  obtain rfl : H = H' := by omega
  obtain rfl : M = M' := by omega
  have hmay : mayB (q.set ((H + M) % q.length) b) H ((M : Int) + 1) = true := by
    rw [mayB_iff]
    refine ⟨by rw [List.length_set]; omega, fun k hk hmk => ?_⟩
    rw [List.length_set] at hk
    rw [show ((H : Int).toNat) = H from rfl, itm_push h3 hM hk, if_neg (by omega)]
    exact h5 k hk (by omega)
  refine ⟨hmay, ?_⟩
  unfold listT
  rw [if_pos hmay, if_pos hm]
  rw [show ((M : Int) + 1).toNat = M + 1 by omega, show ((M : Int)).toNat = M from rfl, show ((H : Int)).toNat = H from rfl, List.range_succ, List.map_append]
  congr 1
  · apply List.map_congr_left
    intro k hk
    have := List.mem_range.1 hk
    rw [itm_push h3 hM (by omega), if_neg (by omega)]
  · rw [List.map_singleton, itm_push h3 hM hM, if_pos rfl]
theorem itm_pop {q : List Text} {H k : Nat} (hH : H < q.length) (hk : k < q.length) : itm (q.set H []) ((H + 1) % q.length) k = if k + 1 < q.length then itm q H (k + 1) else [] := by
  unfold itm
  rw [List.length_set, Nat.mod_add_mod, getD_set _ _ _ _ _ hH, show H + 1 + k = H + (k + 1) by omega]
  split
  · rename_i e
    split
    · rename_i h
      have := mod_same (M := 0) hH h (by omega) (by rw [← e, Nat.add_zero, Nat.mod_eq_of_lt hH])
      omega
    · rfl
  · rename_i e
    rw [if_pos]
    refine Nat.lt_of_le_of_ne (by omega) fun h => e ?_
    rw [h, Nat.add_mod_right, Nat.mod_eq_of_lt hH]
theorem pop_may {q : List Text} {H M : Nat} (hm : mayB q H M = true) (hM : 0 < M) :
    mayB (q.set H []) (((H + 1) % q.length : Nat) : Int) ((M : Int) - 1) = true ∧ listT q H M = q.getD H [] :: listT (q.set H []) (((H + 1) % q.length : Nat) : Int) ((M : Int) - 1) := by
  obtain ⟨H', M', eH, eM, h1, h2, h3, h4, h5⟩ := mayB_nat hm
  obtain rfl : H = H' := by omega
  obtain rfl : M = M' := by omega
  have hlt := Nat.mod_lt (H + 1) (show q.length > 0 by omega)
  have hmay : mayB (q.set H []) (((H + 1) % q.length : Nat) : Int) ((M : Int) - 1) = true := by
    rw [mayB_iff]
    obtain ⟨r, hr⟩ : ∃ r, r = (H + 1) % q.length := ⟨_, rfl⟩
    rw [← hr] at hlt ⊢
    refine ⟨by rw [List.length_set]; omega, fun k hk hmk => ?_⟩
    rw [List.length_set] at hk
    rw [show ((r : Int).toNat) = r from rfl, hr, itm_pop h3 hk]
    split
    · exact h5 _ (by assumption) (by omega)
    · rfl
  refine ⟨hmay, ?_⟩
  unfold listT
  rw [if_pos hmay, if_pos hm]
  obtain ⟨r, rfl⟩ : ∃ r, M = r + 1 := ⟨M - 1, by omega⟩
  rw [show (((r + 1 : Nat) : Int) - 1).toNat = r by omega, show (((r + 1 : Nat) : Int)).toNat = r + 1 from rfl, show ((H : Int)).toNat = H from rfl, List.range_succ_eq_map, List.map_cons, List.map_map]
  congr 1
  · unfold itm; rw [Nat.add_zero, Nat.mod_eq_of_lt h3]
  · apply List.map_congr_left
    intro k hk
    have := List.mem_range.1 hk
    rw [show ((((H + 1) % q.length : Nat) : Int)).toNat = (H + 1) % q.length from rfl, itm_pop h3 (by omega), if_pos (by omega)]
    rfl

/-- A queue that may be, and its list. -/
theorem listT_length {q : List Text} {h m : Int} (hm : mayB q h m = true) : ((listT q h m).length : Int) = m := by
  obtain ⟨H, M, rfl, rfl, _⟩ := mayB_nat hm
  unfold listT
  rw [if_pos hm]
  simp
/-- Push, of a queue that may be. -/
theorem push_full {q : List Text} {h m : Int} (hm : mayB q h m = true) (hf : (listT q h m).length = q.length) : pushE q h m = 9 := by
  have := listT_length hm
  unfold pushE
  rw [if_pos hm, if_pos (by omega)]
theorem push_fits {q : List Text} {h m : Int} {b : Text} (hm : mayB q h m = true) (hf : (listT q h m).length ≠ q.length) :
    pushE q h m = 0 ∧ (pushI q h m b).length = q.length ∧ mayB (pushI q h m b) (pushH q h m) (pushM q h m) = true ∧ listT (pushI q h m b) (pushH q h m) (pushM q h m) = listT q h m ++ [b] := by
  have hl := listT_length hm
  obtain ⟨H, M, rfl, rfl, h1, h2, h3, h4, h5⟩ := mayB_nat hm
  have hE : pushE q H M = 0 := by unfold pushE; rw [if_pos hm, if_neg (by omega)]
  unfold pushI pushH pushM
  rw [if_pos hE, if_pos hE, if_pos hE]
  have := push_may (b := b) hm (by omega)
  exact ⟨hE, by rw [List.length_set], this.1, this.2⟩
/-- Pop, of a queue that may be. -/
theorem pop_none {q : List Text} {h m : Int} (hm : mayB q h m = true) (hf : listT q h m = []) : popE q h m = 6 := by
  have := listT_length hm
  rw [hf] at this
  unfold popE
  rw [if_pos hm, if_pos (by simpa using this.symm)]
theorem pop_some {q : List Text} {h m : Int} {t : Text} {r : List Text} (hm : mayB q h m = true) (hf : listT q h m = t :: r) :
    popE q h m = 0 ∧ popB q h m = t ∧ (popI q h m).length = q.length ∧ mayB (popI q h m) (popH q h m) (popM q h m) = true ∧ listT (popI q h m) (popH q h m) (popM q h m) = r := by
  have hl := listT_length hm
  rw [hf] at hl
  obtain ⟨H, M, rfl, rfl, h1, h2, h3, h4, h5⟩ := mayB_nat hm
  have h0 : 0 < M := by simp only [List.length_cons] at hl; omega
  have hE : popE q H M = 0 := by unfold popE; rw [if_pos hm, if_neg (by omega)]
  obtain ⟨p1, p2⟩ := pop_may hm h0
  rw [hf] at p2
  injection p2 with p2 p3
  unfold popI popH popM popB
  rw [if_pos hE, if_pos hE, if_pos hE, if_pos hE]
  rw [show ((H : Int) + 1) % (q.length : Int) = (((H + 1) % q.length : Nat) : Int) by rw [Int.natCast_emod]; rfl]
  exact ⟨hE, p2.symm, by rw [show ((H : Int)).toNat = H from rfl, List.length_set], p1, p3.symm⟩
theorem chkQ_may {q : List Text} {h m : Int} : mayB q h m = true ↔ chkQ q h m = 0 := by
  unfold chkQ
  split
  · simp_all
  · simp_all

end Go.Proofs.Ytbbnfbclbhkneaa
