/- Layer 4: queues as lists. Nothing of the program. -/
import Derived.Test.YtibegaoegpanpaaByteMath
namespace Go.Proofs.Ytibegaoegpanpaa

abbrev Text := List Int
/-- The item at a place, going round. -/
def itm (q : List Text) (h k : Nat) : Text := q.getD ((h + k) % q.length) []
/-- A queue may be. -/
def mayB (q : List Text) (h m : Int) : Bool :=
  decide (1 ≤ q.length) && decide (q.length ≤ 64) && decide (0 ≤ h) && decide (h < (q.length : Int)) && decide (0 ≤ m) && decide (m ≤ (q.length : Int)) &&
    (List.range q.length).all fun k => decide (k < m.toNat) || (itm q h.toNat k).isEmpty
theorem mayB_iff (q : List Text) (h m : Int) : mayB q h m = true ↔ (1 ≤ q.length ∧ q.length ≤ 64 ∧ 0 ≤ h ∧ h < (q.length : Int) ∧ 0 ≤ m ∧ m ≤ (q.length : Int)) ∧ ∀ k, k < q.length → m.toNat ≤ k → itm q h.toNat k = [] := by
  unfold mayB
  simp only [Bool.and_eq_true, decide_eq_true_iff, List.all_eq_true, List.mem_range, Bool.or_eq_true, List.isEmpty_iff]
  constructor
  · rintro ⟨⟨⟨⟨⟨⟨h1, h2⟩, h3⟩, h4⟩, h5⟩, h6⟩, h7⟩
    exact ⟨⟨h1, h2, h3, h4, h5, h6⟩, fun k hk hm => (h7 k hk).resolve_left (by omega)⟩
  · rintro ⟨⟨h1, h2, h3, h4, h5, h6⟩, h7⟩
    refine ⟨⟨⟨⟨⟨⟨h1, h2⟩, h3⟩, h4⟩, h5⟩, h6⟩, fun k hk => ?_⟩
    rcases Nat.lt_or_ge k m.toNat with h | h
    · exact .inl h
    · exact .inr (h7 k hk h)
/-- The numbers of a queue that may be. -/
theorem mayB_nat {q : List Text} {h m : Int} (hm : mayB q h m = true) : ∃ H M : Nat, h = H ∧ m = M ∧ 1 ≤ q.length ∧ q.length ≤ 64 ∧ H < q.length ∧ M ≤ q.length ∧ ∀ k, k < q.length → M ≤ k → itm q H k = [] := by
  obtain ⟨⟨h1, h2, h3, h4, h5, h6⟩, h7⟩ := (mayB_iff q h m).1 hm
  exact ⟨h.toNat, m.toNat, by omega, by omega, h1, h2, by omega, by omega, h7⟩

/-- What the calls answer, in plain words. -/
def chkQ (q : List Text) (h m : Int) : Int := if mayB q h m then 0 else 8
def pushE (q : List Text) (h m : Int) : Int := if mayB q h m then (if m = (q.length : Int) then 9 else 0) else 8
def pushI (q : List Text) (h m : Int) (b : Text) : List Text := if pushE q h m = 0 then q.set ((h.toNat + m.toNat) % q.length) b else []
def pushH (q : List Text) (h m : Int) : Int := if pushE q h m = 0 then h else 0
def pushM (q : List Text) (h m : Int) : Int := if pushE q h m = 0 then m + 1 else 0
def popE (q : List Text) (h m : Int) : Int := if mayB q h m then (if m = 0 then 6 else 0) else 8
def popI (q : List Text) (h m : Int) : List Text := if popE q h m = 0 then q.set h.toNat [] else []
def popH (q : List Text) (h m : Int) : Int := if popE q h m = 0 then (h + 1) % (q.length : Int) else 0
def popM (q : List Text) (h m : Int) : Int := if popE q h m = 0 then m - 1 else 0
def popB (q : List Text) (h m : Int) : Text := if popE q h m = 0 then q.getD h.toNat [] else []
def listT (q : List Text) (h m : Int) : List Text := if mayB q h m then (List.range m.toNat).map (itm q h.toNat) else []
def nwE (r : Int) : Int := if 1 ≤ r ∧ r ≤ 64 then 0 else 2
def newI (r : Int) : List Text := if nwE r = 0 then List.replicate r.toNat [] else []
def sameB (q : List Text) (h m : Int) (q' : List Text) (h' m' : Int) : Bool := decide (h = h' ∧ m = m' ∧ q = q')
/-- More than the statements go through. -/
def greatB (q : List Text) : Bool := (q.take 100).any (fun t => decide (200 < t.length)) || decide (100 < q.length)
theorem greatB_hit {q : List Text} {k : Nat} (hk : k < q.length) (h100 : k < 100) (h : 200 < (q.getD k []).length) : greatB q = true := by
  unfold greatB
  rw [Bool.or_eq_true, List.any_eq_true]
  refine .inl ⟨q.getD k [], ?_, by simp only [decide_eq_true_iff]; exact h⟩
  rw [List.getD_eq_getElem?_getD, List.getElem?_eq_getElem hk, Option.getD_some]
  rw [List.mem_take_iff_getElem]
  exact ⟨k, by omega, rfl⟩
theorem greatB_end {q : List Text} (h : ∀ y, y < q.length → y < 100 → (q.getD y []).length ≤ 200) : greatB q = decide (100 < q.length) := by
  unfold greatB
  rw [show (q.take 100).any (fun t => decide (200 < t.length)) = false from ?_, Bool.false_or]
  rw [List.any_eq_false]
  intro t ht
  obtain ⟨k, hk, rfl⟩ := List.mem_take_iff_getElem.1 ht
  have := h k (by omega) (by omega)
  rw [List.getD_eq_getElem?_getD, List.getElem?_eq_getElem (by omega), Option.getD_some] at this
  simp only [decide_eq_true_iff]
  omega
structure Small (q : List Text) : Prop where
  many : q.length ≤ 100
  long : ∀ t ∈ q, t.length ≤ 200
theorem small_of {q : List Text} (h : greatB q = false) : Small q := by
  unfold greatB at h
  simp only [Bool.or_eq_false_iff, decide_eq_false_iff_not, List.any_eq_false, decide_eq_true_iff] at h
  have h2 : q.length ≤ 100 := by omega
  refine ⟨h2, fun t ht => ?_⟩
  have := h.1 t (by rw [List.take_of_length_le h2]; exact ht)
  omega
theorem Small.at_ {q : List Text} (h : Small q) (i : Nat) : (q.getD i []).length ≤ 200 := by
  rcases Nat.lt_or_ge i q.length with hi | hi
  · rw [List.getD_eq_getElem?_getD, List.getElem?_eq_getElem hi]
    exact h.long _ (List.getElem_mem hi)
  · rw [List.getD_eq_getElem?_getD, List.getElem?_eq_none hi]
    simp
theorem Small.set {q : List Text} (h : Small q) (i : Nat) {t : Text} (ht : t.length ≤ 200) : Small (q.set i t) := by
  refine ⟨by rw [List.length_set]; exact h.many, fun x hx => ?_⟩
  rcases List.mem_or_eq_of_mem_set hx with hx | rfl
  · exact h.long x hx
  · exact ht

end Go.Proofs.Ytibegaoegpanpaa
