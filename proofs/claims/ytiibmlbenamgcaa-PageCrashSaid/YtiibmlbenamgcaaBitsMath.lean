/- Layer 3: sets of tracks as rows of bytes. Nothing of the program. -/
import Derived.Test.YtiibmlbenamgcaaByteMath
namespace Go.Proofs.Ytiibmlbenamgcaa

/-- A page, as a number; whether a track is there; how many pages there are. -/
def pg (s : List Int) (p : Nat) : Nat := (s.getD p 0).toNat
def hasT (s : List Int) (t : Nat) : Bool := (pg s (t / 8)).testBit (t % 8)
def pgs (m : Nat) : Nat := (m + 7) / 8

theorem pg_lt {s : List Int} (h : ∀ z ∈ s, isByte z) (p : Nat) : pg s p < 256 := by
  unfold pg
  rcases Nat.lt_or_ge p s.length with hp | hp
  · have := h (s.getD p 0) (by rw [List.getD_eq_getElem?_getD, List.getElem?_eq_getElem hp]; simp)
    unfold isByte at this
    omega
  · simp [List.getD_eq_getElem?_getD, List.getElem?_eq_none hp]
theorem pg_cast {s : List Int} (h : ∀ z ∈ s, isByte z) (p : Nat) : s.getD p 0 = (pg s p : Int) := by
  unfold pg
  rcases Nat.lt_or_ge p s.length with hp | hp
  · have := h (s.getD p 0) (by rw [List.getD_eq_getElem?_getD, List.getElem?_eq_getElem hp]; simp)
    unfold isByte at this
    omega
  · simp [List.getD_eq_getElem?_getD, List.getElem?_eq_none hp]
theorem pg_set (s : List Int) (i p : Nat) (v : Int) (hi : i < s.length) : pg (s.set i v) p = if p = i then v.toNat else pg s p := by
  unfold pg
  simp only [List.getD_eq_getElem?_getD, List.getElem?_set]
  by_cases h : i = p
  · subst h; simp [hi]
  · rw [if_neg h, if_neg (fun e => h e.symm)]
theorem bit_lt {x : Nat} (h : x < 256) {i : Nat} (hi : 8 ≤ i) : x.testBit i = false :=
  Nat.testBit_lt_two_pow (Nat.lt_of_lt_of_le h (Nat.le_trans (by decide : 256 ≤ 2 ^ 8) (Nat.pow_le_pow_right (by decide) hi)))
theorem hasT_beyond (s : List Int) {t : Nat} (h : 8 * s.length ≤ t) : hasT s t = false := by
  have : pg s (t / 8) = 0 := by simp [pg, List.getD_eq_getElem?_getD, List.getElem?_eq_none (by omega : s.length ≤ t / 8)]
  simp [hasT, this]

/-- Rows of bytes with the same tracks are the same. -/
theorem set_ext {a b : List Int} (hl : a.length = b.length) (ha : ∀ z ∈ a, isByte z) (hb : ∀ z ∈ b, isByte z) (h : ∀ t, t < 8 * a.length → hasT a t = hasT b t) : a = b := by
  refine List.ext_getElem hl fun p h1 h2 => ?_
  have e : pg a p = pg b p := by
    refine Nat.eq_of_testBit_eq fun i => ?_
    rcases Nat.lt_or_ge i 8 with hi | hi
    · have := h (8 * p + i) (by omega)
      unfold hasT at this
      rwa [show (8 * p + i) / 8 = p from by omega, show (8 * p + i) % 8 = i from by omega] at this
    · rw [bit_lt (pg_lt ha p) hi, bit_lt (pg_lt hb p) hi]
  have e1 := pg_cast ha p
  have e2 := pg_cast hb p
  rw [e, ← e2] at e1
  simpa [List.getD_eq_getElem?_getD, h1, h2] using e1

/-- A set of m tracks. -/
structure IsSet (m : Nat) (s : List Int) : Prop where
  len : s.length = pgs m
  byte : ∀ z ∈ s, isByte z
  out : ∀ t, m ≤ t → hasT s t = false
theorem IsSet.ext {m : Nat} {a b : List Int} (ha : IsSet m a) (hb : IsSet m b) (h : ∀ t, t < m → hasT a t = hasT b t) : a = b :=
  set_ext (ha.len.trans hb.len.symm) ha.byte hb.byte fun t _ => by
    rcases Nat.lt_or_ge t m with ht | ht
    · exact h t ht
    · rw [ha.out t ht, hb.out t ht]

/-- A track put in. -/
def markL (s : List Int) (t : Nat) : List Int := s.set (t / 8) ((pg s (t / 8) ||| 2 ^ (t % 8) : Nat) : Int)
theorem markL_length (s : List Int) (t : Nat) : (markL s t).length = s.length := by simp [markL]
theorem pow_lt (t : Nat) : 2 ^ (t % 8) < 256 := by
  have h : 2 ^ (t % 8) < 2 ^ 8 := Nat.pow_lt_pow_right (by decide) (Nat.mod_lt _ (by decide))
  omega
theorem or_byteB {a b : Nat} (ha : a < 256) (hb : b < 256) : a ||| b < 256 := Nat.or_lt_two_pow (n := 8) ha hb
theorem markL_byte {s : List Int} (h : ∀ z ∈ s, isByte z) (t : Nat) : ∀ z ∈ markL s t, isByte z := by
  intro z hz
  rcases List.mem_or_eq_of_mem_set hz with hz | rfl
  · exact h z hz
  · have := or_byteB (pg_lt h (t / 8)) (pow_lt t)
    exact ⟨by omega, by omega⟩
theorem hasT_mark (s : List Int) (t u : Nat) (h : t / 8 < s.length) : hasT (markL s t) u = (hasT s u || decide (u = t)) := by
  unfold hasT markL
  rw [pg_set _ _ _ _ h]
  by_cases e : u / 8 = t / 8
  · rw [if_pos e, Int.toNat_natCast, Nat.testBit_or, Nat.testBit_two_pow, e]
    congr 1
    rw [decide_eq_decide]
    omega
  · rw [if_neg e]
    have : decide (u = t) = false := by rw [decide_eq_false_iff_not]; intro e2; exact e (by rw [e2])
    rw [this, Bool.or_false]

/-- No track of any. -/
def none0 (m : Nat) : List Int := List.replicate (pgs m) 0
theorem none0_byte (m : Nat) : ∀ z ∈ none0 m, isByte z := by
  intro z hz
  rw [List.eq_of_mem_replicate hz]
  exact ⟨by omega, by omega⟩
theorem hasT_none0 (m t : Nat) : hasT (none0 m) t = false := by
  have : pg (none0 m) (t / 8) = 0 := by
    unfold pg none0
    rw [List.getD_eq_getElem?_getD, List.getElem?_replicate]
    split <;> rfl
  simp [hasT, this]
/-- The first k tracks looked at. -/
def madeTo (m : Nat) (f : Nat → Bool) : Nat → List Int
  | 0 => none0 m
  | k + 1 => if f k then markL (madeTo m f k) k else madeTo m f k
def made (m : Nat) (f : Nat → Bool) : List Int := madeTo m f m
theorem madeTo_length (m : Nat) (f : Nat → Bool) (k : Nat) : (madeTo m f k).length = pgs m := by
  induction k with
  | zero => simp [madeTo, none0]
  | succ k ih => unfold madeTo; split <;> simp [markL_length, ih]
theorem madeTo_byte (m : Nat) (f : Nat → Bool) (k : Nat) : ∀ z ∈ madeTo m f k, isByte z := by
  induction k with
  | zero => exact none0_byte m
  | succ k ih => unfold madeTo; split; exact markL_byte ih k; exact ih
theorem pgs_le {m t : Nat} (h : t < m) : t / 8 < pgs m := by unfold pgs; omega
theorem hasT_madeTo (m : Nat) (f : Nat → Bool) (k : Nat) (hk : k ≤ m) (t : Nat) : hasT (madeTo m f k) t = (decide (t < k) && f t) := by
  induction k with
  | zero => simp [madeTo, hasT_none0]
  | succ k ih =>
    have ih := ih (by omega)
    unfold madeTo
    have hk2 : k / 8 < (madeTo m f k).length := by rw [madeTo_length]; exact pgs_le (by omega)
    split
    · rename_i hf
      rw [hasT_mark _ _ _ hk2, ih]
      rcases Nat.lt_trichotomy t k with h | h | h
      · simp [h, show t < k + 1 by omega, show ¬ t = k by omega]
      · subst h; simp [hf]
      · simp [show ¬ t < k by omega, show ¬ t < k + 1 by omega, show ¬ t = k by omega]
    · rename_i hf
      rw [ih]
      rcases Nat.lt_trichotomy t k with h | h | h
      · simp [h, show t < k + 1 by omega]
      · subst h; simp [hf]
      · simp [show ¬ t < k by omega, show ¬ t < k + 1 by omega]
theorem hasT_made (m : Nat) (f : Nat → Bool) (t : Nat) : hasT (made m f) t = (decide (t < m) && f t) := hasT_madeTo m f m (Nat.le_refl _) t
theorem made_isSet (m : Nat) (f : Nat → Bool) : IsSet m (made m f) :=
  ⟨madeTo_length m f m, madeTo_byte m f m, fun t ht => by rw [hasT_made]; simp [show ¬ t < m by omega]⟩
theorem made_eq {m : Nat} {s : List Int} (h : IsSet m s) (f : Nat → Bool) (hf : ∀ t, t < m → hasT s t = f t) : made m f = s :=
  (made_isSet m f).ext h fun t ht => by rw [hasT_made, hf t ht]; simp [ht]
theorem made_congr {m : Nat} {f g : Nat → Bool} (h : ∀ t, t < m → f t = g t) : made m f = made m g :=
  made_eq (made_isSet m g) f fun t ht => by rw [hasT_made, h t ht]; simp [ht]
/-- A track put in by adding. -/
theorem mark_add {m : Nat} {f : Nat → Bool} {k : Nat} (hk : k < m) : pg (madeTo m f k) (k / 8) ||| 2 ^ (k % 8) = pg (madeTo m f k) (k / 8) + 2 ^ (k % 8) := by
  have hlt : pg (madeTo m f k) (k / 8) < 2 ^ (k % 8) := by
    refine Nat.lt_pow_two_of_testBit _ fun i hi => ?_
    rcases Nat.lt_or_ge i 8 with h8 | h8
    · have := hasT_madeTo m f k (by omega) (8 * (k / 8) + i)
      unfold hasT at this
      rw [show (8 * (k / 8) + i) / 8 = k / 8 from by omega, show (8 * (k / 8) + i) % 8 = i from by omega] at this
      rw [this]
      simp [show ¬ 8 * (k / 8) + i < k by omega]
    · exact bit_lt (pg_lt (madeTo_byte m f k) _) h8
  have := Nat.two_pow_add_eq_or_of_lt hlt 1
  rw [Nat.mul_one] at this
  rw [Nat.or_comm, ← this, Nat.add_comm]

/-- Check: as the document says it, and as a number. -/
def may (m : Nat) (s : List Int) : Prop := s.length = pgs m ∧ pg s (pgs m - 1) / 2 ^ (m - 8 * (pgs m - 1)) = 0
instance (m : Nat) (s : List Int) : Decidable (may m s) := by unfold may; exact inferInstance
def chk (n : Int) (s : List Int) : Int := if 1 ≤ n ∧ n ≤ 16 then (if may n.toNat s then 0 else 8) else 2
theorem may_isSet {m : Nat} {s : List Int} (h1 : 1 ≤ m) (hb : ∀ z ∈ s, isByte z) : may m s ↔ IsSet m s := by
  have hp : pgs m = (m - 1) / 8 + 1 := by unfold pgs; omega
  constructor
  · intro ⟨hl, hz⟩
    refine ⟨hl, hb, fun t ht => ?_⟩
    rcases Nat.lt_or_ge t (8 * s.length) with h | h
    · have hpos : 0 < 2 ^ (m - 8 * (pgs m - 1)) := Nat.two_pow_pos _
      have hlt : pg s (pgs m - 1) < 2 ^ (m - 8 * (pgs m - 1)) := by
        rcases Nat.lt_or_ge (pg s (pgs m - 1)) (2 ^ (m - 8 * (pgs m - 1))) with h' | h'
        · exact h'
        · have := (Nat.one_le_div_iff hpos).2 h'; omega
      unfold hasT
      rw [show t / 8 = pgs m - 1 from by omega]
      exact Nat.testBit_lt_two_pow (Nat.lt_of_lt_of_le hlt (Nat.pow_le_pow_right (by decide) (by omega)))
    · exact hasT_beyond s h
  · intro h
    refine ⟨h.len, ?_⟩
    apply Nat.div_eq_of_lt
    refine Nat.lt_pow_two_of_testBit _ fun i hi => ?_
    rcases Nat.lt_or_ge i 8 with h8 | h8
    · have := h.out (8 * (pgs m - 1) + i) (by omega)
      unfold hasT at this
      rwa [show (8 * (pgs m - 1) + i) / 8 = pgs m - 1 from by omega, show (8 * (pgs m - 1) + i) % 8 = i from by omega] at this
    · exact bit_lt (pg_lt h.byte _) h8
theorem chk_zero {n : Int} {s : List Int} (hb : ∀ z ∈ s, isByte z) (h : chk n s = 0) : ∃ m : Nat, n = m ∧ 1 ≤ m ∧ m ≤ 16 ∧ IsSet m s := by
  unfold chk at h
  split at h
  · split at h
    · rename_i h1 h2
      exact ⟨n.toNat, by omega, by omega, by omega, (may_isSet (by omega) hb).1 h2⟩
    · omega
  · omega
theorem chk_set {m : Nat} {s : List Int} (h1 : 1 ≤ m) (h2 : m ≤ 16) (h : IsSet m s) : chk (m : Int) s = 0 := by
  unfold chk
  rw [if_pos (by omega), if_pos (by rw [Int.toNat_natCast]; exact (may_isSet h1 h.byte).2 h)]

/-- A track's error, behind Check's. -/
def trkE (n : Int) (s : List Int) (t : Int) : Int := if chk n s = 0 then (if 0 ≤ t ∧ t < n then 0 else 2) else chk n s
theorem trkE_zero {n : Int} {s : List Int} {t : Int} (hb : ∀ z ∈ s, isByte z) (h : trkE n s t = 0) : ∃ m k : Nat, n = m ∧ t = k ∧ 1 ≤ m ∧ m ≤ 16 ∧ k < m ∧ IsSet m s := by
  unfold trkE at h
  split at h
  · rename_i hc
    obtain ⟨m, rfl, h1, h2, h3⟩ := chk_zero hb hc
    split at h
    · exact ⟨m, t.toNat, rfl, by omega, h1, h2, by omega, h3⟩
    · omega
  · contradiction
theorem trkE_ok {m k : Nat} {s : List Int} (h1 : 1 ≤ m) (h2 : m ≤ 16) (hk : k < m) (h : IsSet m s) : trkE (m : Int) s (k : Int) = 0 := by
  unfold trkE
  rw [if_pos (chk_set h1 h2 h), if_pos (by omega)]
/-- The first error of two sets. -/
def bothE (n : Int) (a b : List Int) : Int := if chk n a = 0 then chk n b else chk n a
theorem bothE_zero {n : Int} {a b : List Int} (ha : ∀ z ∈ a, isByte z) (hb : ∀ z ∈ b, isByte z) (h : bothE n a b = 0) : ∃ m : Nat, n = m ∧ 1 ≤ m ∧ m ≤ 16 ∧ IsSet m a ∧ IsSet m b := by
  unfold bothE at h
  split at h
  · rename_i hc
    obtain ⟨m, rfl, h1, h2, h3⟩ := chk_zero ha hc
    obtain ⟨m', e, _, _, h4⟩ := chk_zero hb h
    exact ⟨m, rfl, h1, h2, h3, by have : m = m' := by omega
                                  rw [this]; exact h4⟩
  · contradiction
theorem bothE_ok {m : Nat} {a b : List Int} (h1 : 1 ≤ m) (h2 : m ≤ 16) (ha : IsSet m a) (hb : IsSet m b) : bothE (m : Int) a b = 0 := by
  unfold bothE; rw [if_pos (chk_set h1 h2 ha), chk_set h1 h2 hb]

/-- What the calls answer, in plain words. -/
def manyE (n : Int) : Int := if 1 ≤ n ∧ n ≤ 16 then 0 else 2
def ofE (n : Int) (l : List Int) : Int := if (1 ≤ n ∧ n ≤ 16) ∧ ∀ z ∈ l, 0 ≤ z ∧ z < n then 0 else 2
def ofB (n : Int) (l : List Int) : List Int := if ofE n l = 0 then made n.toNat (fun t => l.contains (t : Int)) else []
def allB (n : Int) : List Int := if manyE n = 0 then made n.toNat (fun _ => true) else []
def hasV (n : Int) (s : List Int) (t : Int) : Bool := decide (trkE n s t = 0) && hasT s t.toNat
def putB (n : Int) (s : List Int) (t : Int) (is : Bool) : List Int := if trkE n s t = 0 then made n.toNat (fun u => if u = t.toNat then is else hasT s u) else []
def orB (n : Int) (a b : List Int) : List Int := if bothE n a b = 0 then made n.toNat (fun u => hasT a u || hasT b u) else []
def minusB (n : Int) (a b : List Int) : List Int := if bothE n a b = 0 then made n.toNat (fun u => hasT a u && !hasT b u) else []
/-- The tracks of a set, from one on, going round. -/
def trN (m : Nat) (s : List Int) (f : Nat) : List Nat := ((List.range m).map (fun i => (f + i) % m)).filter (hasT s)
def listN (n : Int) (s : List Int) : List Nat := if chk n s = 0 then (List.range n.toNat).filter (hasT s) else []
def listL (n : Int) (s : List Int) : List Int := (listN n s).map Int.ofNat
def nextV (n : Int) (s : List Int) (t : Int) : Int := if trkE n s t = 0 then (match trN n.toNat s t.toNat with | [] => -1 | x :: _ => (x : Int)) else 0
theorem trN_zero (m : Nat) (s : List Int) : trN m s 0 = (List.range m).filter (hasT s) := by
  unfold trN
  congr 1
  have : (List.range m).map (fun i => (0 + i) % m) = (List.range m).map id := List.map_congr_left fun i hi => by
    have := List.mem_range.1 hi
    rw [Nat.zero_add, Nat.mod_eq_of_lt this]; rfl
  rw [this, List.map_id]
theorem listN_length (n : Int) (s : List Int) : (listN n s).length ≤ 16 := by
  unfold listN
  split
  · rename_i h
    have h1 : n ≤ 16 := by
      unfold chk at h
      split at h
      · omega
      · omega
    have := List.length_filter_le (hasT s) (List.range n.toNat)
    rw [List.length_range] at this
    omega
  · simp
theorem ofB_length (n : Int) (l : List Int) : (ofB n l).length ≤ 2 := by
  unfold ofB
  split
  · rename_i h
    unfold ofE at h
    split at h
    · rw [(made_isSet _ _).len]; unfold pgs; omega
    · omega
  · simp

end Go.Proofs.Ytiibmlbenamgcaa
