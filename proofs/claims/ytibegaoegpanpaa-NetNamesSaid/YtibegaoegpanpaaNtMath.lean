/- Layer 16: nets in plain words. Nothing of the program. -/
import Derived.Test.YtibegaoegpanpaaRingMath
namespace Go.Proofs.Ytibegaoegpanpaa
set_option linter.unusedVariables false

/-- Errors: of a net, of a place in it. -/
def ntE (q : List Text) : Int := if 64 < q.length then 8 else 0
def ntE2 (q : List Text) (i : Int) : Int := if 64 < q.length then 8 else if i < 0 ∨ (q.length : Int) ≤ i then 2 else 0
/-- A net with a text more, if there is room. -/
def sentN (q : List Text) (b : Text) : List Text := if q.length < 64 then q ++ [b] else q
def sdL (q : List Text) (b : Text) : List Text := if 64 < q.length then [] else sentN q b
def tkL (q : List Text) (i : Int) : List Text := if ntE2 q i = 0 then q.eraseIdx i.toNat else []
def tkB (q : List Text) (i : Int) : Text := if ntE2 q i = 0 then q.getD i.toNat [] else []
def twL (q : List Text) (i : Int) : List Text := if ntE2 q i = 0 then sentN q (q.getD i.toNat []) else []
def countN (q : List Text) (b : Text) (k : Nat) : Nat := ((q.take k).filter (fun t => decide (t = b))).length

theorem ntE2_zero {q : List Text} {i : Int} (h : ntE2 q i = 0) : q.length ≤ 64 ∧ ∃ k : Nat, i = k ∧ k < q.length := by
  unfold ntE2 at h
  split at h
  · exact absurd h (by decide)
  · split at h
    · exact absurd h (by decide)
    · exact ⟨by omega, i.toNat, by omega, by omega⟩
theorem ntE2_in {q : List Text} {k : Nat} (h : q.length ≤ 64) (hk : k < q.length) : ntE2 q (k : Int) = 0 := by
  unfold ntE2
  rw [if_neg (by omega), if_neg (by omega)]
theorem Small.snoc {q : List Text} {b : Text} (h : Small q) (hq : q.length < 100) (hb : b.length ≤ 200) : Small (q ++ [b]) :=
  ⟨by rw [List.length_append]; simp; omega, fun t ht => by
    rcases List.mem_append.1 ht with ht | ht
    · exact h.long t ht
    · rw [List.mem_singleton.1 ht]; exact hb⟩
theorem Small.sent {q : List Text} {b : Text} (h : Small q) (hb : b.length ≤ 200) : Small (sentN q b) := by
  unfold sentN
  split
  · exact h.snoc (by omega) hb
  · exact h
theorem small_nil : Small [] := ⟨by simp, fun t ht => by cases ht⟩
theorem Small.sd {q : List Text} {b : Text} (h : Small q) (hb : b.length ≤ 200) : Small (sdL q b) := by
  unfold sdL
  split
  · exact small_nil
  · exact h.sent hb
theorem Small.erase {q : List Text} (h : Small q) (k : Nat) : Small (q.eraseIdx k) :=
  ⟨Nat.le_trans (List.length_eraseIdx_le _ _) h.many, fun t ht => h.long t (List.mem_of_mem_eraseIdx ht)⟩
theorem Small.tk {q : List Text} (h : Small q) (i : Int) : Small (tkL q i) := by
  unfold tkL
  split
  · exact h.erase _
  · exact small_nil
theorem Small.tw {q : List Text} (h : Small q) (i : Int) : Small (twL q i) := by
  unfold twL
  split
  · exact h.sent (h.at_ _)
  · exact small_nil
theorem tkB_le {q : List Text} (h : Small q) (i : Int) : (tkB q i).length ≤ 200 := by
  unfold tkB
  split
  · exact h.at_ _
  · simp
/-- The round of the document's loop that leaves one text out. -/
theorem erase_step {q : List Text} {i k : Nat} (hk : k < q.length) : (q.take (k + 1)).eraseIdx i = if k = i then (q.take k).eraseIdx i else (q.take k).eraseIdx i ++ [q.getD k []] := by
  have e : q.take (k + 1) = q.take k ++ [q.getD k []] := by
    rw [List.take_succ_eq_append_getElem hk]
    simp [List.getD_eq_getElem?_getD, hk]
  have hl : (q.take k).length = k := by rw [List.length_take]; omega
  rw [e]
  by_cases h : k = i
  · subst h
    rw [if_pos rfl, List.eraseIdx_append_of_length_le (by omega), hl, Nat.sub_self, List.eraseIdx_of_length_le (l := q.take k) (by omega)]
    exact List.append_nil _
  · rw [if_neg h]
    rcases Nat.lt_or_ge i k with h1 | h1
    · rw [List.eraseIdx_append_of_lt_length (by omega)]
    · rw [List.eraseIdx_append_of_length_le (by omega), hl, List.eraseIdx_of_length_le (l := q.take k) (by omega)]
      rw [List.eraseIdx_of_length_le (by simp; omega)]
theorem countN_succ {q : List Text} {b : Text} {k : Nat} (hk : k < q.length) : countN q b (k + 1) = countN q b k + if q.getD k [] = b then 1 else 0 := by
  unfold countN
  have e : q.take (k + 1) = q.take k ++ [q.getD k []] := by
    rw [List.take_succ_eq_append_getElem hk]
    simp [List.getD_eq_getElem?_getD, hk]
  rw [e, List.filter_append, List.length_append]
  obtain ⟨x, hx⟩ : ∃ x, x = q.getD k [] := ⟨_, rfl⟩
  rw [← hx]
  by_cases h : x = b
  · rw [if_pos h]; simp [h]
  · rw [if_neg h]
    simp only [List.filter_cons, List.filter_nil]
    rw [if_neg (by simpa using h)]
    rfl
theorem countN_all (q : List Text) (b : Text) : countN q b q.length = (q.filter (fun t => decide (t = b))).length := by unfold countN; rw [List.take_length]
theorem countN_le (q : List Text) (b : Text) (k : Nat) : countN q b k ≤ k := by
  unfold countN
  exact Nat.le_trans (List.length_filter_le _ _) (by rw [List.length_take]; omega)
theorem countN_snoc (q : List Text) (b : Text) : countN (q ++ [b]) b (q ++ [b]).length = countN q b q.length + 1 := by
  rw [countN_all, countN_all, List.filter_append, List.length_append]
  simp
end Go.Proofs.Ytibegaoegpanpaa
