/- Layer 10: what the calls answer, in plain words, and what follows: configs, disks and bytes as lists. Nothing of the program. -/
import Derived.Test.YteapaoefgcnicaaTrkMath
namespace Go.Proofs.Yteapaoefgcnicaa
set_option linter.unusedVariables false

def sz5 : List Int := [8, 1, 1, 1, 1]
/-- The row of a note's text. -/
def jrow (g n m : Int) : Txt := rowTo [g, 1, n, m, 0] sz5 5
/-- A note's text. -/
def jT (g n : Int) (b : Txt) : Txt := jrow g n b.length ++ b ++ List.replicate (20 - b.length) 0
def isG (g : Int) : Prop := 0 ≤ g ∧ g < 18446744073709551616
/-- Text. -/
def jtE (n : Int) (b : Txt) : Int := if 1 ≤ b.length ∧ b.length ≤ 20 then (if 0 ≤ n ∧ n ≤ 255 then 0 else 2) else 4
def jtB (g n : Int) (b : Txt) : Txt := if jtE n b = 0 then jT g n b else []
/-- The note that a text is, of a generation and a number; none: no bytes. -/
def noteT (g n : Int) (t : Txt) : Txt := if (1 ≤ t.getD 10 0 ∧ t.getD 10 0 ≤ 20) ∧ jT g n ((t.drop 12).take (t.getD 10 0).toNat) = t then (t.drop 12).take (t.getD 10 0).toNat else []
def noteO (g n : Int) : Option Txt → Txt
  | none => []
  | some t => noteT g n t
/-- How many there are, up to the first that is none, of the first k. -/
def jM (f : Nat → Txt) : Nat → Nat
  | 0 => 0
  | k + 1 => if jM f k = k ∧ f k ≠ [] then k + 1 else jM f k
def jN (f : Nat → Txt) (k : Nat) : List Txt := (List.range (jM f k)).map f
/-- The note of an area's sector. -/
def jf (S : List Sec) (C : List Pnd) (A a g : Int) (n : Nat) : Txt := noteO g n (optAt S C (2 + a * A + (n : Int)))
def arJ (a : Int) : Prop := 0 ≤ a ∧ a ≤ 1
instance (a : Int) : Decidable (arJ a) := by unfold arJ; infer_instance
/-- Scan. -/
def jaE (P T A M W Q : Int) (S : List Sec) (C : List Pnd) (a : Int) : Int := if mayT P T A M W Q S C then (if arJ a then 0 else 2) else 8
def jsL (P T A M W Q : Int) (S : List Sec) (C : List Pnd) (a g : Int) : List Txt := if jaE P T A M W Q S C a = 0 then jN (jf S C A a g) A.toNat else []
/-- Plan. -/
def jpE (P T A M W Q : Int) (S : List Sec) (C : List Pnd) (a n : Int) (b : Txt) : Int :=
  if jaE P T A M W Q S C a = 0 then (if 0 ≤ n then (if n < A then jtE n b else 9) else 2) else jaE P T A M W Q S C a
def jpN (P T A M W Q : Int) (S : List Sec) (C : List Pnd) (a n : Int) (b : Txt) : Int := if jpE P T A M W Q S C a n b = 0 then 2 + a * A + n else 0
def jpB (P T A M W Q : Int) (S : List Sec) (C : List Pnd) (a g n : Int) (b : Txt) : Txt := if jpE P T A M W Q S C a n b = 0 then jT g n b else []

theorem okB_sz5 : okB sz5 = true := by decide
theorem at_sz5 : atTo sz5 5 = 12 := by decide
theorem jrow_eq (g n m : Int) : jrow g n m = digs 8 g ++ [1, n % 256, m % 256, 0] := by
  have h : jrow g n m = (((([] ++ digs 8 g) ++ digs 1 1) ++ digs 1 n) ++ digs 1 m) ++ digs 1 0 := rfl
  rw [h]
  simp [digs]
theorem jrow_length (g n m : Int) : (jrow g n m).length = 12 := by rw [jrow_eq]; simp [digs_length]
theorem jrow_byte (g n m : Int) : ∀ z ∈ jrow g n m, isByte z := rowTo_byte _ _ _
theorem jT_length (g n : Int) {b : Txt} (h : b.length ≤ 20) : (jT g n b).length = 32 := by
  unfold jT
  rw [List.length_append, List.length_append, jrow_length, List.length_replicate]
  omega
theorem jT_byte (g n : Int) {b : Txt} (h : ∀ z ∈ b, isByte z) : ∀ z ∈ jT g n b, isByte z := fun z hz => by
  unfold jT at hz
  rcases List.mem_append.1 hz with hz | hz
  · rcases List.mem_append.1 hz with hz | hz
    · exact jrow_byte _ _ _ z hz
    · exact h z hz
  · rw [(List.mem_replicate.1 hz).2]; exact ⟨by decide, by decide⟩
theorem fits5 {g n m : Int} (hg : isG g) (hn : 0 ≤ n ∧ n < 256) (hm : 0 ≤ m ∧ m < 256) : fitsTo [g, 1, n, m, 0] sz5 5 = true := by
  have h1 : g / 256 ^ 8 = 0 := Int.ediv_eq_zero_of_lt hg.1 (by rw [show (256 : Int) ^ 8 = 18446744073709551616 by decide]; exact hg.2)
  have h2 : n / 256 ^ 1 = 0 := Int.ediv_eq_zero_of_lt hn.1 (by omega)
  have h3 : m / 256 ^ 1 = 0 := Int.ediv_eq_zero_of_lt hm.1 (by omega)
  show (((((true && decide (g / 256 ^ 8 = 0)) && decide ((1 : Int) / 256 ^ 1 = 0)) && decide (n / 256 ^ 1 = 0)) && decide (m / 256 ^ 1 = 0)) && decide ((0 : Int) / 256 ^ 1 = 0)) = true
  rw [h1, h2, h3]
  decide
/-- A text tells its generation, its number, how many bytes, and the bytes. -/
theorem jT_tells {g n : Int} {b : Txt} (hg : isG g) (hn : 0 ≤ n ∧ n ≤ 255) (hb : b.length ≤ 20) :
    val ((jT g n b).take 8) = g ∧ (jT g n b).getD 9 0 = n ∧ (jT g n b).getD 10 0 = (b.length : Int) ∧ ((jT g n b).drop 12).take b.length = b := by
  have e8 : (digs 8 g).length = 8 := digs_length _ _
  have v8 : val (digs 8 g) = g := val_digs _ _ hg.1 (Int.ediv_eq_zero_of_lt hg.1 (by rw [show (256 : Int) ^ 8 = 18446744073709551616 by decide]; exact hg.2))
  have hT : jT g n b = digs 8 g ++ ([1, n % 256, (b.length : Int) % 256, 0] ++ (b ++ List.replicate (20 - b.length) 0)) := by
    unfold jT
    rw [jrow_eq]
    simp only [List.append_assoc]
  refine ⟨?_, ?_, ?_, ?_⟩
  · rw [hT, List.take_append_of_le_length (by omega), List.take_of_length_le (by omega), v8]
  · rw [hT, List.getD_eq_getElem?_getD, List.getElem?_append_right (by omega), e8]
    simp
    omega
  · rw [hT, List.getD_eq_getElem?_getD, List.getElem?_append_right (by omega), e8]
    simp
    omega
  · unfold jT
    rw [List.append_assoc, List.drop_append, jrow_length, List.drop_of_length_le (by rw [jrow_length]; exact Nat.le_refl _)]
    simp
theorem jT_inj {g n g' n' : Int} {b b' : Txt} (hg : isG g) (hn : 0 ≤ n ∧ n ≤ 255) (hb : b.length ≤ 20) (hg' : isG g') (hn' : 0 ≤ n' ∧ n' ≤ 255) (hb' : b'.length ≤ 20) (h : jT g n b = jT g' n' b') : g = g' ∧ n = n' ∧ b = b' := by
  obtain ⟨a1, a2, a3, a4⟩ := jT_tells hg hn hb
  obtain ⟨c1, c2, c3, c4⟩ := jT_tells hg' hn' hb'
  rw [h] at a1 a2 a3 a4
  have e : b.length = b'.length := by have := a3.symm.trans c3; omega
  rw [e] at a4
  exact ⟨a1.symm.trans c1, a2.symm.trans c2, a4.symm.trans c4⟩
theorem noteT_few (g n : Int) (t : Txt) : (noteT g n t).length ≤ 20 := by
  unfold noteT
  split
  · rename_i h
    rw [List.length_take]
    have := Nat.min_le_left (t.getD 10 0).toNat (t.drop 12).length
    omega
  · exact Nat.zero_le _
theorem noteT_new {g n : Int} {b : Txt} (hg : isG g) (hn : 0 ≤ n ∧ n ≤ 255) (h1 : 1 ≤ b.length) (hb : b.length ≤ 20) : noteT g n (jT g n b) = b := by
  obtain ⟨a1, a2, a3, a4⟩ := jT_tells hg hn hb
  unfold noteT
  rw [a3, Int.toNat_natCast, a4, if_pos ⟨⟨by omega, by omega⟩, rfl⟩]
/-- Of another generation it is none. -/
theorem noteT_other {g g' n : Int} {b : Txt} (hg : isG g) (hg' : isG g') (hn : 0 ≤ n ∧ n ≤ 255) (hb : b.length ≤ 20) (hne : g' ≠ g) : noteT g' n (jT g n b) = [] := by
  unfold noteT
  rw [if_neg]
  rintro ⟨⟨h1, h2⟩, h3⟩
  refine hne (jT_inj hg' hn ?_ hg hn hb h3).1
  rw [List.length_take]
  have := Nat.min_le_left ((jT g n b).getD 10 0).toNat ((jT g n b).drop 12).length
  omega
theorem noteT_byte (g n : Int) {t : Txt} (h : ∀ z ∈ t, isByte z) : ∀ z ∈ noteT g n t, isByte z := fun z hz => by
  unfold noteT at hz
  split at hz
  · exact h z (List.mem_of_mem_drop (List.mem_of_mem_take hz))
  · cases hz
theorem jM_le (f : Nat → Txt) (k : Nat) : jM f k ≤ k := by
  induction k with
  | zero => exact Nat.le_refl _
  | succ k ih => unfold jM; split <;> omega
theorem jM_have (f : Nat → Txt) (k : Nat) : ∀ j, j < jM f k → f j ≠ [] := by
  induction k with
  | zero => intro j h; exact absurd h (Nat.not_lt_zero _)
  | succ k ih =>
    intro j h
    unfold jM at h
    split at h
    · rename_i h1
      rcases Nat.lt_or_ge j k with h2 | h2
      · exact ih j (by omega)
      · obtain rfl : j = k := by omega
        exact h1.2
    · exact ih j h
theorem jM_end (f : Nat → Txt) (k : Nat) : jM f k = k ∨ f (jM f k) = [] := by
  induction k with
  | zero => exact .inl rfl
  | succ k ih =>
    by_cases h : jM f k = k ∧ f k ≠ []
    · left; unfold jM; rw [if_pos h]
    · have e : jM f (k + 1) = jM f k := by rw [jM, if_neg h]
      rw [e]
      right
      rcases ih with h1 | h1
      · rw [h1]
        exact Classical.byContradiction fun h2 => h ⟨h1, h2⟩
      · exact h1
theorem jM_is {f : Nat → Txt} {k m : Nat} (h1 : m ≤ k) (h2 : ∀ j, j < m → f j ≠ []) (h3 : m = k ∨ f m = []) : jM f k = m := by
  have a1 := jM_le f k
  have a2 := jM_have f k
  have a3 := jM_end f k
  rcases Nat.lt_trichotomy (jM f k) m with h | h | h
  · rcases a3 with a | a
    · omega
    · exact absurd a (h2 _ h)
  · exact h
  · rcases h3 with b | b
    · omega
    · exact absurd b (a2 _ h)
theorem jN_length (f : Nat → Txt) (k : Nat) : (jN f k).length = jM f k := by unfold jN; rw [List.length_map, List.length_range]
theorem jN_get (f : Nat → Txt) (k : Nat) {j : Nat} (h : j < jM f k) : (jN f k)[j]? = some (f j) := by
  unfold jN
  rw [List.getElem?_map, List.getElem?_range h]
  rfl
/-- Alike but for one place, which was none: the same, or these and one more. -/
theorem jN_one {f f' : Nat → Txt} {k n : Nat} (hn : n < k) (hm : jM f k = n) (hj : ∀ j, j ≠ n → f' j = f j) :
    (f' n = [] → jN f' k = jN f k) ∧ (f' n ≠ [] → n < (jN f' k).length ∧ (jN f' k).take n = jN f k ∧ (jN f' k)[n]? = some (f' n)) := by
  have h2 := jM_have f k
  rw [hm] at h2
  have hpre : ∀ j, j < n → f' j ≠ [] := fun j h => by rw [hj j (by omega)]; exact h2 j h
  have hmap : (List.range n).map f' = (List.range n).map f := List.map_congr_left fun j h => hj j (by have := List.mem_range.1 h; omega)
  refine ⟨fun h => ?_, fun h => ?_⟩
  · have e := jM_is (Nat.le_of_lt hn) hpre (.inr h)
    unfold jN
    rw [e, hm]
    exact hmap
  · have hlt : n < jM f' k := by
      rcases Nat.lt_or_ge n (jM f' k) with h3 | h3
      · exact h3
      · rcases jM_end f' k with h4 | h4
        · omega
        · rcases Nat.lt_or_ge (jM f' k) n with h5 | h5
          · exact absurd h4 (hpre _ h5)
          · have e : jM f' k = n := by omega
            rw [e] at h4
            exact absurd h4 h
    refine ⟨by rw [jN_length]; exact hlt, ?_, jN_get f' k hlt⟩
    unfold jN
    rw [← List.map_take, List.take_range, Nat.min_eq_left (Nat.le_of_lt hlt), hm]
    exact hmap
/-- Alike but for one place, whatever it was, which now is none. -/
theorem jN_cut {f f' : Nat → Txt} {k n : Nat} (hn : n < k) (h0 : f' n = []) (hj : ∀ j, j ≠ n → f' j = f j) :
    jN f' k = jN f k ∨ (n < (jN f k).length ∧ n ≤ (jN f' k).length ∧ (jN f k).take n = (jN f' k).take n) := by
  have h2 := jM_have f k
  have h3 := jM_end f k
  have h1 := jM_le f k
  have hpre : ∀ j, j < jM f k → j < n → f' j ≠ [] := fun j h h' => by rw [hj j (by omega)]; exact h2 j h
  rcases Nat.lt_or_ge n (jM f k) with h | h
  · right
    have e := jM_is (Nat.le_of_lt hn) (fun j h' => hpre j (by omega) h') (.inr h0)
    refine ⟨by rw [jN_length]; exact h, by rw [jN_length, e]; exact Nat.le_refl _, ?_⟩
    unfold jN
    rw [e, ← List.map_take, ← List.map_take, List.take_range, List.take_range, Nat.min_eq_left (Nat.le_of_lt h), Nat.min_eq_left (Nat.le_refl _)]
    exact List.map_congr_left fun j h => (hj j (by have := List.mem_range.1 h; omega)).symm
  · left
    have e : jM f' k = jM f k := jM_is h1 (fun j h' => hpre j h' (by omega)) (by
      rcases h3 with h4 | h4
      · omega
      · right
        rcases Nat.lt_or_ge (jM f k) n with h5 | h5
        · rw [hj _ (by omega)]; exact h4
        · rw [show jM f k = n by omega]; exact h0)
    unfold jN
    rw [e]
    exact List.map_congr_left fun j h' => hj j (by have := List.mem_range.1 h'; omega)
theorem jN_same {f f' : Nat → Txt} {k : Nat} (hj : ∀ j, j < k → f' j = f j) : jN f' k = jN f k := by
  have e : jM f' k = jM f k := jM_is (jM_le f k) (fun j h => by rw [hj j (by have := jM_le f k; omega)]; exact jM_have f k j h) (by
    rcases jM_end f k with h | h
    · exact .inl h
    · rcases Nat.lt_or_ge (jM f k) k with h1 | h1
      · right; rw [hj _ h1]; exact h
      · left; have := jM_le f k; omega)
  unfold jN
  rw [e]
  exact List.map_congr_left fun j h => hj j (by have := List.mem_range.1 h; have := jM_le f k; omega)
theorem optAt_flush {S : List Sec} {C : List Pnd} (h : mayD S C = true) (a : Int) : optAt (flS S C) [] a = optAt S C a := by
  obtain ⟨r1, r2⟩ := rd_flush h a
  unfold optAt
  rw [r1, r2]
theorem one_write (x : Int) (t : Txt) : writesP x [t] 1 = [(x, t)] := by
  unfold writesP someP
  simp
theorem may_one {S : List Sec} (h : mayD S [] = true) {x : Int} {t : Txt} (h0 : 0 ≤ x) (h1 : x < (S.length : Int)) (ht : t.length = 32) : mayD S [(x, t)] = true := by
  rw [mayD_iff] at h ⊢
  refine ⟨⟨h.1.1, h.1.2.1, by simp⟩, h.2.1, fun p hp => ?_⟩
  rw [List.mem_singleton] at hp
  subst hp
  exact ⟨h0, h1, ht⟩
theorem opt_out {S : List Sec} {C : List Pnd} {x : Int} (h : mayD S C = true) (hx : ¬ (0 ≤ x ∧ x < (S.length : Int))) : optAt S C x = none := by
  have e : askE S C x = 2 := by
    unfold askE
    rw [if_pos h]
    exact if_pos (by omega)
  have e2 : rdE S C x = 2 := by
    unfold rdE
    rw [e]
    rfl
  unfold optAt
  rw [e2]
  rfl
theorem crash_one {S : List Sec} {x : Int} {t : Txt} (h : mayD S [] = true) (h' : mayD S [(x, t)] = true) (F : List Int) :
    (∀ y, y ≠ x → optAt (crS S [(x, t)] F) [] y = optAt S [] y) ∧ (optAt (crS S [(x, t)] F) [] x = optAt S [] x ∨ optAt (crS S [(x, t)] F) [] x = some t ∨ optAt (crS S [(x, t)] F) [] x = none) := by
  obtain ⟨hcm, hcl⟩ := cr_may h' F
  have key : ∀ y, 0 ≤ y → y < (S.length : Int) → optAt (crS S [(x, t)] F) [] y = optAt S [] y ∨ (x ≤ y ∧ y < x + 1 ∧ (optAt (crS S [(x, t)] F) [] y = some ([t].getD (y - x).toNat []) ∨ optAt (crS S [(x, t)] F) [] y = none)) := fun y h0 h1 => by
    have := optAt_crash (C := []) (base := x) (l := [t]) (k := 1) h (by rw [one_write]; exact h') F h0 h1 rfl
    rwa [one_write, List.nil_append] at this
  refine ⟨fun y hy => ?_, ?_⟩
  · by_cases hr : 0 ≤ y ∧ y < (S.length : Int)
    · rcases key y hr.1 hr.2 with k | ⟨k1, k2, _⟩
      · exact k
      · omega
    · rw [opt_out hcm (by rw [hcl]; exact hr), opt_out h hr]
  · by_cases hr : 0 ≤ x ∧ x < (S.length : Int)
    · rcases key x hr.1 hr.2 with k | ⟨_, _, k⟩
      · exact .inl k
      · rw [show (x - x).toNat = 0 by omega] at k
        exact .inr k
    · rw [opt_out hcm (by rw [hcl]; exact hr)]
      exact .inr (.inr rfl)
theorem flush_one {S : List Sec} {x : Int} {t : Txt} (h : mayD S [] = true) (h' : mayD S [(x, t)] = true) (y : Int) :
    optAt (flS S [(x, t)]) [] y = if y = x then (if 0 ≤ x ∧ x < (S.length : Int) then some t else none) else optAt S [] y := by
  rw [optAt_flush h']
  by_cases hr : 0 ≤ y ∧ y < (S.length : Int)
  · have k := optAt_writes (C := []) (base := x) (l := [t]) (m := 1) h (by rw [one_write]; exact h') hr.1 hr.2
    rw [one_write, List.nil_append] at k
    rw [k]
    by_cases e : y = x
    · subst e
      rw [if_pos ⟨by omega, by omega⟩, if_pos rfl, if_pos hr, show (y - y).toNat = 0 by omega]
      rfl
    · rw [if_neg (by omega), if_neg e]
  · rw [opt_out h' hr]
    by_cases e : y = x
    · subst e
      rw [if_pos rfl, if_neg hr]
    · rw [if_neg e, opt_out h hr]
theorem at_area {P T A M W Q : Int} {S : List Sec} {C : List Pnd} (h : mayT P T A M W Q S C) {a : Int} (ha : arJ a) {n : Nat} (hn : (n : Int) < A) : 0 ≤ 2 + a * A + (n : Int) ∧ 2 + a * A + (n : Int) < (S.length : Int) := by
  obtain ⟨h1, h2, h3⟩ := h
  obtain ⟨b1, b2, b3, b4, b5, b6, b7⟩ := bounds_may h1
  obtain ⟨c1, c2, c3, c4, c5, c6, c7⟩ := h1
  unfold fE at h3
  have e : a * A = 0 ∨ a * A = A := by
    unfold arJ at ha
    rcases (show a = 0 ∨ a = 1 by omega) with r | r
    · rw [r]; left; simp
    · rw [r]; right; simp
  rcases e with e | e <;> rw [e] <;> omega
/-- l begins with m, and t behind it. -/
def begL (l m : List Txt) (t : Txt) : Prop := m.length < l.length ∧ l.take m.length = m ∧ l[m.length]? = some t
/-- P10.4. -/
theorem jrn_tells {P T A M W Q : Int} {S : List Sec} {a g : Int} {b : Txt} {n : Nat} (hm : mayT P T A M W Q S []) (ha : arJ a) (hg : isG g) (h1 : 1 ≤ b.length) (h20 : b.length ≤ 20)
    (hn : n = (jN (jf S [] A a g) A.toNat).length) (hA : (n : Int) < A) (F : List Int) :
    mayD S [(2 + a * A + (n : Int), jT g n b)] = true ∧
    (jN (jf (crS S [(2 + a * A + (n : Int), jT g n b)] F) [] A a g) A.toNat = jN (jf S [] A a g) A.toNat ∨ begL (jN (jf (crS S [(2 + a * A + (n : Int), jT g n b)] F) [] A a g) A.toNat) (jN (jf S [] A a g) A.toNat) b) ∧
    begL (jN (jf (flS S [(2 + a * A + (n : Int), jT g n b)]) [] A a g) A.toNat) (jN (jf S [] A a g) A.toNat) b ∧
    (∀ g', isG g' → g' ≠ g → jN (jf (crS S [(2 + a * A + (n : Int), jT g n b)] F) [] A a g') A.toNat = jN (jf S [] A a g') A.toNat ∨
      (n < (jN (jf S [] A a g') A.toNat).length ∧ n ≤ (jN (jf (crS S [(2 + a * A + (n : Int), jT g n b)] F) [] A a g') A.toNat).length ∧ (jN (jf S [] A a g') A.toNat).take n = (jN (jf (crS S [(2 + a * A + (n : Int), jT g n b)] F) [] A a g') A.toNat).take n)) ∧
    (∀ g', jN (jf (crS S [(2 + a * A + (n : Int), jT g n b)] F) [] A (1 - a) g') A.toNat = jN (jf S [] A (1 - a) g') A.toNat) := by
  obtain ⟨r0, r1⟩ := at_area hm ha hA
  have hA32 : A ≤ 32 := hm.1.2.2.2.2.2.1
  have hn255 : (0 : Int) ≤ (n : Int) ∧ (n : Int) ≤ 255 := by omega
  have ht := jT_length g (n : Int) h20
  have hmay := may_one hm.2.1 r0 r1 ht
  obtain ⟨cr1, cr2⟩ := crash_one hm.2.1 hmay F
  have fl := flush_one hm.2.1 hmay
  rw [jN_length] at hn
  have hnk : n < A.toNat := by omega
  have hnew := noteT_new hg hn255 h1 h20
  have hne : b ≠ [] := fun e => by rw [e] at h1; exact absurd h1 (by decide)
  have hoff : ∀ (g' : Int) (j : Nat), j ≠ n → (2 + a * A + (j : Int)) ≠ 2 + a * A + (n : Int) := fun g' j h => by omega
  have hone := fun (f' : Nat → Txt) => jN_one (f := jf S [] A a g) (f' := f') hnk hn.symm
  obtain ⟨t, hT⟩ : ∃ t, t = jT g (n : Int) b := ⟨_, rfl⟩
  obtain ⟨x, hX⟩ : ∃ x, x = 2 + a * A + (n : Int) := ⟨_, rfl⟩
  rw [← hT] at hmay cr1 cr2 fl hnew ⊢
  rw [← hX] at hmay cr1 cr2 fl ⊢
  have old0 : jf S [] A a g n = [] := by
    rcases jM_end (jf S [] A a g) A.toNat with h | h
    · omega
    · rw [hn]; exact h
  refine ⟨hmay, ?_, ?_, fun g' hg' hgg => ?_, fun g' => ?_⟩
  · obtain ⟨o1, o2⟩ := hone (jf (crS S [(x, t)] F) [] A a g) (fun j h => by unfold jf; rw [cr1 _ (by rw [hX]; exact hoff g j h)])
    have hv : jf (crS S [(x, t)] F) [] A a g n = [] ∨ jf (crS S [(x, t)] F) [] A a g n = b := by
      unfold jf
      rw [← hX]
      rcases cr2 with k | k | k
      · rw [k]; left; have := old0; unfold jf at this; rw [← hX] at this; exact this
      · rw [k]; right; exact hnew
      · rw [k]; left; rfl
    rcases hv with hv | hv
    · exact .inl (o1 hv)
    · obtain ⟨p1, p2, p3⟩ := o2 (by rw [hv]; exact hne)
      right
      unfold begL
      rw [show (jN (jf S [] A a g) A.toNat).length = n by rw [jN_length]; exact hn.symm]
      exact ⟨p1, p2, by rw [p3, hv]⟩
  · have hv : jf (flS S [(x, t)]) [] A a g n = b := by
      unfold jf
      rw [← hX, fl, if_pos rfl, if_pos ⟨by omega, by omega⟩]
      exact hnew
    obtain ⟨p1, p2, p3⟩ := (hone (jf (flS S [(x, t)]) [] A a g) (fun j h => by unfold jf; rw [fl, if_neg (by rw [hX]; exact hoff g j h)])).2 (by rw [hv]; exact hne)
    unfold begL
    rw [show (jN (jf S [] A a g) A.toNat).length = n by rw [jN_length]; exact hn.symm]
    exact ⟨p1, p2, by rw [p3, hv]⟩
  · have hj : ∀ j, j ≠ n → jf (crS S [(x, t)] F) [] A a g' j = jf S [] A a g' j := fun j h => by unfold jf; rw [cr1 _ (by rw [hX]; exact hoff g' j h)]
    have hoth : noteT g' (n : Int) t = [] := by rw [hT]; exact noteT_other hg hg' hn255 h20 hgg
    have hv : jf (crS S [(x, t)] F) [] A a g' n = jf S [] A a g' n ∨ jf (crS S [(x, t)] F) [] A a g' n = [] := by
      unfold jf
      rw [← hX]
      rcases cr2 with k | k | k
      · rw [k]; exact .inl rfl
      · rw [k]; exact .inr hoth
      · rw [k]; exact .inr rfl
    rcases hv with hv | hv
    · left
      refine jN_same fun j _ => ?_
      by_cases e : j = n
      · rw [e]; exact hv
      · exact hj j e
    · exact jN_cut hnk hv hj
  · refine jN_same fun j hj => ?_
    unfold jf
    rw [cr1 _ ?_]
    have e2 : (1 - a) * A = A - a * A := by rw [Int.sub_mul, Int.one_mul]
    have e : a * A = 0 ∨ a * A = A := by
      unfold arJ at ha
      rcases (show a = 0 ∨ a = 1 by omega) with r | r
      · rw [r]; left; simp
      · rw [r]; right; simp
    rw [e2, hX]
    rcases e with e | e <;> rw [e] <;> omega
end Go.Proofs.Yteapaoefgcnicaa
