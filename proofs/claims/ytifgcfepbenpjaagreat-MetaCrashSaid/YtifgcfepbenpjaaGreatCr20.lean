/- Texts of layers 1 to 12, joined. -/
import Derived.Test.YtifgcfepbenpjaaGreatCr19
import Derived.BigQuiet
import Derived.KernelRfl
import Derived.Deep.RegionHeld3
set_option maxRecDepth 100000
set_option maxHeartbeats 12800000
set_option linter.unusedVariables false
namespace Go.Proofs.YtifgcfepbenpjaaGreat
def sz5 : List Int := [8, 1, 1, 1, 1]
def jrow (g n m : Int) : Txt := rowTo [g, 1, n, m, 0] sz5 5
def jT (g n : Int) (b : Txt) : Txt := jrow g n b.length ++ b ++ List.replicate (20 - b.length) 0
def isG (g : Int) : Prop := 0 ≤ g ∧ g < 18446744073709551616
def jtE (n : Int) (b : Txt) : Int := if 1 ≤ b.length ∧ b.length ≤ 20 then (if 0 ≤ n ∧ n ≤ 255 then 0 else 2) else 4
def jtB (g n : Int) (b : Txt) : Txt := if jtE n b = 0 then jT g n b else []
def noteT (g n : Int) (t : Txt) : Txt := if (1 ≤ t.getD 10 0 ∧ t.getD 10 0 ≤ 20) ∧ jT g n ((t.drop 12).take (t.getD 10 0).toNat) = t then (t.drop 12).take (t.getD 10 0).toNat else []
def noteO (g n : Int) : Option Txt → Txt
 | none => []
 | some t => noteT g n t
def jM (f : Nat → Txt) : Nat → Nat
 | 0 => 0
 | k + 1 => if jM f k = k ∧ f k ≠ [] then k + 1 else jM f k
def jN (f : Nat → Txt) (k : Nat) : List Txt := (List.range (jM f k)).map f
def jf (S : List Sec) (C : List Pnd) (A a g : Int) (n : Nat) : Txt := noteO g n (optAt S C (2 + a * A + (n : Int)))
def arJ (a : Int) : Prop := 0 ≤ a ∧ a ≤ 1
instance (a : Int) : Decidable (arJ a) := by unfold arJ; infer_instance
def jaE (P T A M W Q : Int) (S : List Sec) (C : List Pnd) (a : Int) : Int := if mayT P T A M W Q S C then (if arJ a then 0 else 2) else 8
def jsL (P T A M W Q : Int) (S : List Sec) (C : List Pnd) (a g : Int) : List Txt := if jaE P T A M W Q S C a = 0 then jN (jf S C A a g) A.toNat else []
def jpE (P T A M W Q : Int) (S : List Sec) (C : List Pnd) (a n : Int) (b : Txt) : Int :=
 if jaE P T A M W Q S C a = 0 then (if 0 ≤ n then (if n < A then jtE n b else 9) else 2) else jaE P T A M W Q S C a
def jpN (P T A M W Q : Int) (S : List Sec) (C : List Pnd) (a n : Int) (b : Txt) : Int := if jpE P T A M W Q S C a n b = 0 then 2 + a * A + n else 0
def jpB (P T A M W Q : Int) (S : List Sec) (C : List Pnd) (a g n : Int) (b : Txt) : Txt := if jpE P T A M W Q S C a n b = 0 then jT g n b else []
theorem okB_sz5 : okB sz5 = true := by decide
theorem at_sz5 : atTo sz5 5 = 12 := by decide
theorem jrow_eq (g n m : Int) : jrow g n m = digs 8 g ++ [1, n % 256, m % 256, 0] := by
 have h : jrow g n m = (((([] ++ digs 8 g) ++ digs 1 1) ++ digs 1 n) ++ digs 1 m) ++ digs 1 0 := rfl
 rw [h]
 simp [digs]
theorem jrow_length (g n m : Int) : (jrow g n m).length = 12 := by rw [jrow_eq]; simp [digs_length]
theorem jrow_byte (g n m : Int) : ∀ z ∈ jrow g n m, isByte z := rowTo_byte _ _ _
theorem jT_length (g n : Int) {b : Txt} (h : b.length ≤ 20) : (jT g n b).length = 32 := by
 unfold jT
 rw [List.length_append, List.length_append, jrow_length, List.length_replicate]
 omega
theorem jT_byte (g n : Int) {b : Txt} (h : ∀ z ∈ b, isByte z) : ∀ z ∈ jT g n b, isByte z := fun z hz => by
 unfold jT at hz
 rcases List.mem_append.1 hz with hz | hz
 ·rcases List.mem_append.1 hz with hz | hz
  ·exact jrow_byte _ _ _ z hz
  ·exact h z hz
 ·rw [(List.mem_replicate.1 hz).2]; exact ⟨by decide, by decide⟩
theorem fits5 {g n m : Int} (hg : isG g) (hn : 0 ≤ n ∧ n < 256) (hm : 0 ≤ m ∧ m < 256) : fitsTo [g, 1, n, m, 0] sz5 5 = true := by
 have h1 : g / 256 ^ 8 = 0 := Int.ediv_eq_zero_of_lt hg.1 (by rw [show (256 : Int) ^ 8 = 18446744073709551616 by decide]; exact hg.2)
 have h2 : n / 256 ^ 1 = 0 := Int.ediv_eq_zero_of_lt hn.1 (by omega)
 have h3 : m / 256 ^ 1 = 0 := Int.ediv_eq_zero_of_lt hm.1 (by omega)
 show (((((true && decide (g / 256 ^ 8 = 0)) && decide ((1 : Int) / 256 ^ 1 = 0)) && decide (n / 256 ^ 1 = 0)) && decide (m / 256 ^ 1 = 0)) && decide ((0 : Int) / 256 ^ 1 = 0)) = true
 rw [h1, h2, h3]
 decide
theorem jT_tells {g n : Int} {b : Txt} (hg : isG g) (hn : 0 ≤ n ∧ n ≤ 255) (hb : b.length ≤ 20) :
  val ((jT g n b).take 8) = g ∧ (jT g n b).getD 9 0 = n ∧ (jT g n b).getD 10 0 = (b.length : Int) ∧ ((jT g n b).drop 12).take b.length = b := by
 have e8 : (digs 8 g).length = 8 := digs_length _ _
 have v8 : val (digs 8 g) = g := val_digs _ _ hg.1 (Int.ediv_eq_zero_of_lt hg.1 (by rw [show (256 : Int) ^ 8 = 18446744073709551616 by decide]; exact hg.2))
 have hT : jT g n b = digs 8 g ++ ([1, n % 256, (b.length : Int) % 256, 0] ++ (b ++ List.replicate (20 - b.length) 0)) := by
  unfold jT
  rw [jrow_eq]
  simp only [List.append_assoc]
 refine ⟨?_, ?_, ?_, ?_⟩
 ·rw [hT, List.take_append_of_le_length (by omega), List.take_of_length_le (by omega), v8]
 ·rw [hT, gtD, List.getElem?_append_right (by omega), e8]
  simp
  omega
 ·rw [hT, gtD, List.getElem?_append_right (by omega), e8]
  simp
  omega
 ·unfold jT
  rw [List.append_assoc, List.drop_append, jrow_length, List.drop_of_length_le (by rw [jrow_length]; exact Nat.le_refl _)]
  simp
theorem jT_inj {g n g' n' : Int} {b b' : Txt} (hg : isG g) (hn : 0 ≤ n ∧ n ≤ 255) (hb : b.length ≤ 20) (hg' : isG g') (hn' : 0 ≤ n' ∧ n' ≤ 255) (hb' : b'.length ≤ 20) (h : jT g n b = jT g' n' b') : g = g' ∧ n = n' ∧ b = b' := by
 obtain ⟨a1, a2, a3, a4⟩ := jT_tells hg hn hb
 obtain ⟨c1, c2, c3, c4⟩ := jT_tells hg' hn' hb'
 rw [h] at a1 a2 a3 a4
 have e : b.length = b'.length := by have := a3.symm.trans c3; omega
 rw [e] at a4
 exact ⟨a1.symm.trans c1, a2.symm.trans c2, a4.symm.trans c4⟩
theorem noteT_few (g n : Int) (t : Txt) : (noteT g n t).length ≤ 20 := by
 unfold noteT
 split
 ·rename_i h
  rw [List.length_take]
  have := Nat.min_le_left (t.getD 10 0).toNat (t.drop 12).length
  omega
 ·exact Nat.zero_le _
theorem noteT_new {g n : Int} {b : Txt} (hg : isG g) (hn : 0 ≤ n ∧ n ≤ 255) (h1 : 1 ≤ b.length) (hb : b.length ≤ 20) : noteT g n (jT g n b) = b := by
 obtain ⟨a1, a2, a3, a4⟩ := jT_tells hg hn hb
 unfold noteT
 rw [a3, Int.toNat_natCast, a4, if_pos ⟨⟨by omega, by omega⟩, rfl⟩]
theorem noteT_other {g g' n : Int} {b : Txt} (hg : isG g) (hg' : isG g') (hn : 0 ≤ n ∧ n ≤ 255) (hb : b.length ≤ 20) (hne : g' ≠ g) : noteT g' n (jT g n b) = [] := by
 unfold noteT
 rw [if_neg]
 rintro ⟨⟨h1, h2⟩, h3⟩
 refine hne (jT_inj hg' hn ?_ hg hn hb h3).1
 rw [List.length_take]
 have := Nat.min_le_left ((jT g n b).getD 10 0).toNat ((jT g n b).drop 12).length
 omega
theorem noteT_byte (g n : Int) {t : Txt} (h : ∀ z ∈ t, isByte z) : ∀ z ∈ noteT g n t, isByte z := fun z hz => by
 unfold noteT at hz
 split at hz
 ·exact h z (List.mem_of_mem_drop (List.mem_of_mem_take hz))
 ·cases hz
theorem jM_le (f : Nat → Txt) (k : Nat) : jM f k ≤ k := by
 induction k with
 | zero => exact Nat.le_refl _
 | succ k ih => unfold jM; split <;> omega
theorem jM_have (f : Nat → Txt) (k : Nat) : ∀ j, j < jM f k → f j ≠ [] := by
 induction k with
 | zero => intro j h; exact absurd h (Nat.not_lt_zero _)
 | succ k ih =>
  intro j h
  unfold jM at h
  split at h
  ·rename_i h1
   rcases Nat.lt_or_ge j k with h2 | h2
   ·exact ih j (by omega)
   ·obtain rfl : j = k := by omega
    exact h1.2
  ·exact ih j h
theorem jM_end (f : Nat → Txt) (k : Nat) : jM f k = k ∨ f (jM f k) = [] := by
 induction k with
 | zero => exact .inl rfl
 | succ k ih =>
  by_cases h : jM f k = k ∧ f k ≠ []
  ·left; unfold jM; rw [if_pos h]
  ·have e : jM f (k + 1) = jM f k := by rw [jM, if_neg h]
   rw [e]
   right
   rcases ih with h1 | h1
   ·rw [h1]
    exact Classical.byContradiction fun h2 => h ⟨h1, h2⟩
   ·exact h1
theorem jM_is {f : Nat → Txt} {k m : Nat} (h1 : m ≤ k) (h2 : ∀ j, j < m → f j ≠ []) (h3 : m = k ∨ f m = []) : jM f k = m := by
 have a1 := jM_le f k
 have a2 := jM_have f k
 have a3 := jM_end f k
 rcases Nat.lt_trichotomy (jM f k) m with h | h | h
 ·rcases a3 with a | a
  ·omega
  ·exact absurd a (h2 _ h)
 ·exact h
 ·rcases h3 with b | b
  ·omega
  ·exact absurd b (a2 _ h)
theorem jN_length (f : Nat → Txt) (k : Nat) : (jN f k).length = jM f k := by unfold jN; rw [List.length_map, List.length_range]
theorem jN_get (f : Nat → Txt) (k : Nat) {j : Nat} (h : j < jM f k) : (jN f k)[j]? = some (f j) := by
 unfold jN
 rw [List.getElem?_map, List.getElem?_range h]
 rfl
theorem jN_one {f f' : Nat → Txt} {k n : Nat} (hn : n < k) (hm : jM f k = n) (hj : ∀ j, j ≠ n → f' j = f j) :
  (f' n = [] → jN f' k = jN f k) ∧ (f' n ≠ [] → n < (jN f' k).length ∧ (jN f' k).take n = jN f k ∧ (jN f' k)[n]? = some (f' n)) := by
 have h2 := jM_have f k
 rw [hm] at h2
 have hpre : ∀ j, j < n → f' j ≠ [] := fun j h => by rw [hj j (by omega)]; exact h2 j h
 have hmap : (List.range n).map f' = (List.range n).map f := List.map_congr_left fun j h => hj j (by have := List.mem_range.1 h; omega)
 refine ⟨fun h => ?_, fun h => ?_⟩
 ·have e := jM_is (Nat.le_of_lt hn) hpre (.inr h)
  unfold jN
  rw [e, hm]
  exact hmap
 ·have hlt : n < jM f' k := by
   rcases Nat.lt_or_ge n (jM f' k) with h3 | h3
   ·exact h3
   ·rcases jM_end f' k with h4 | h4
    ·omega
    ·rcases Nat.lt_or_ge (jM f' k) n with h5 | h5
     ·exact absurd h4 (hpre _ h5)
     ·have e : jM f' k = n := by omega
      rw [e] at h4
      exact absurd h4 h
  refine ⟨by rw [jN_length]; exact hlt, ?_, jN_get f' k hlt⟩
  unfold jN
  rw [← List.map_take, List.take_range, Nat.min_eq_left (Nat.le_of_lt hlt), hm]
  exact hmap
theorem jN_cut {f f' : Nat → Txt} {k n : Nat} (hn : n < k) (h0 : f' n = []) (hj : ∀ j, j ≠ n → f' j = f j) :
  jN f' k = jN f k ∨ (n < (jN f k).length ∧ n ≤ (jN f' k).length ∧ (jN f k).take n = (jN f' k).take n) := by
 have h2 := jM_have f k
 have h3 := jM_end f k
 have h1 := jM_le f k
 have hpre : ∀ j, j < jM f k → j < n → f' j ≠ [] := fun j h h' => by rw [hj j (by omega)]; exact h2 j h
 rcases Nat.lt_or_ge n (jM f k) with h | h
 ·right
  have e := jM_is (Nat.le_of_lt hn) (fun j h' => hpre j (by omega) h') (.inr h0)
  refine ⟨by rw [jN_length]; exact h, by rw [jN_length, e]; exact Nat.le_refl _, ?_⟩
  unfold jN
  rw [e, ← List.map_take, ← List.map_take, List.take_range, List.take_range, Nat.min_eq_left (Nat.le_of_lt h), Nat.min_eq_left (Nat.le_refl _)]
  exact List.map_congr_left fun j h => (hj j (by have := List.mem_range.1 h; omega)).symm
 ·left
  have e : jM f' k = jM f k := jM_is h1 (fun j h' => hpre j h' (by omega)) (by
   rcases h3 with h4 | h4
   ·omega
   ·right
    rcases Nat.lt_or_ge (jM f k) n with h5 | h5
    ·rw [hj _ (by omega)]; exact h4
    ·rw [show jM f k = n by omega]; exact h0)
  unfold jN
  rw [e]
  exact List.map_congr_left fun j h' => hj j (by have := List.mem_range.1 h'; omega)
theorem jN_same {f f' : Nat → Txt} {k : Nat} (hj : ∀ j, j < k → f' j = f j) : jN f' k = jN f k := by
 have e : jM f' k = jM f k := jM_is (jM_le f k) (fun j h => by rw [hj j (by have := jM_le f k; omega)]; exact jM_have f k j h) (by
  rcases jM_end f k with h | h
  ·exact .inl h
  ·rcases Nat.lt_or_ge (jM f k) k with h1 | h1
   ·right; rw [hj _ h1]; exact h
   ·left; have := jM_le f k; omega)
 unfold jN
 rw [e]
 exact List.map_congr_left fun j h => hj j (by have := List.mem_range.1 h; have := jM_le f k; omega)
theorem optAt_flush {S : List Sec} {C : List Pnd} (h : mayD S C = true) (a : Int) : optAt (flS S C) [] a = optAt S C a := by
 obtain ⟨r1, r2⟩ := rd_flush h a
 unfold optAt
 rw [r1, r2]
theorem one_write (x : Int) (t : Txt) : writesP x [t] 1 = [(x, t)] := by
 unfold writesP someP
 simp
theorem may_one {S : List Sec} (h : mayD S [] = true) {x : Int} {t : Txt} (h0 : 0 ≤ x) (h1 : x < (S.length : Int)) (ht : t.length = 32) : mayD S [(x, t)] = true := by
 rw [mayD_iff] at h ⊢
 refine ⟨⟨h.1.1, h.1.2.1, by simp⟩, h.2.1, fun p hp => ?_⟩
 rw [List.mem_singleton] at hp
 subst hp
 exact ⟨h0, h1, ht⟩
theorem opt_out {S : List Sec} {C : List Pnd} {x : Int} (h : mayD S C = true) (hx : ¬ (0 ≤ x ∧ x < (S.length : Int))) : optAt S C x = none := by
 have e : askE S C x = 2 := by
  unfold askE
  rw [if_pos h]
  exact if_pos (by omega)
 have e2 : rdE S C x = 2 := by
  unfold rdE
  rw [e]
  rfl
 unfold optAt
 rw [e2]
 rfl
theorem crash_one {S : List Sec} {x : Int} {t : Txt} (h : mayD S [] = true) (h' : mayD S [(x, t)] = true) (F : List Int) :
  (∀ y, y ≠ x → optAt (crS S [(x, t)] F) [] y = optAt S [] y) ∧ (optAt (crS S [(x, t)] F) [] x = optAt S [] x ∨ optAt (crS S [(x, t)] F) [] x = some t ∨ optAt (crS S [(x, t)] F) [] x = none) := by
 obtain ⟨hcm, hcl⟩ := cr_may h' F
 have key : ∀ y, 0 ≤ y → y < (S.length : Int) → optAt (crS S [(x, t)] F) [] y = optAt S [] y ∨ (x ≤ y ∧ y < x + 1 ∧ (optAt (crS S [(x, t)] F) [] y = some ([t].getD (y - x).toNat []) ∨ optAt (crS S [(x, t)] F) [] y = none)) := fun y h0 h1 => by
  have := optAt_crash (C := []) (base := x) (l := [t]) (k := 1) h (by rw [one_write]; exact h') F h0 h1 rfl
  rwa [one_write, List.nil_append] at this
 refine ⟨fun y hy => ?_, ?_⟩
 ·by_cases hr : 0 ≤ y ∧ y < (S.length : Int)
  ·rcases key y hr.1 hr.2 with k | ⟨k1, k2, _⟩
   ·exact k
   ·omega
  ·rw [opt_out hcm (by rw [hcl]; exact hr), opt_out h hr]
 ·by_cases hr : 0 ≤ x ∧ x < (S.length : Int)
  ·rcases key x hr.1 hr.2 with k | ⟨_, _, k⟩
   ·exact .inl k
   ·rw [show (x - x).toNat = 0 by omega] at k
    exact .inr k
  ·rw [opt_out hcm (by rw [hcl]; exact hr)]
   exact .inr (.inr rfl)
theorem flush_one {S : List Sec} {x : Int} {t : Txt} (h : mayD S [] = true) (h' : mayD S [(x, t)] = true) (y : Int) :
  optAt (flS S [(x, t)]) [] y = if y = x then (if 0 ≤ x ∧ x < (S.length : Int) then some t else none) else optAt S [] y := by
 rw [optAt_flush h']
 by_cases hr : 0 ≤ y ∧ y < (S.length : Int)
 ·have k := optAt_writes (C := []) (base := x) (l := [t]) (m := 1) h (by rw [one_write]; exact h') hr.1 hr.2
  rw [one_write, List.nil_append] at k
  rw [k]
  by_cases e : y = x
  ·subst e
   rw [if_pos ⟨by omega, by omega⟩, if_pos rfl, if_pos hr, show (y - y).toNat = 0 by omega]
   rfl
  ·rw [if_neg (by omega), if_neg e]
 ·rw [opt_out h' hr]
  by_cases e : y = x
  ·subst e
   rw [if_pos rfl, if_neg hr]
  ·rw [if_neg e, opt_out h hr]
theorem at_area {P T A M W Q : Int} {S : List Sec} {C : List Pnd} (h : mayT P T A M W Q S C) {a : Int} (ha : arJ a) {n : Nat} (hn : (n : Int) < A) : 0 ≤ 2 + a * A + (n : Int) ∧ 2 + a * A + (n : Int) < (S.length : Int) := by
 obtain ⟨h1, h2, h3⟩ := h
 obtain ⟨b1, b2, b3, b4, b5, b6, b7⟩ := bounds_may h1
 obtain ⟨c1, c2, c3, c4, c5, c6, c7⟩ := h1
 unfold fE at h3
 have e : a * A = 0 ∨ a * A = A := by
  unfold arJ at ha
  rcases (show a = 0 ∨ a = 1 by omega) with r | r
  ·rw [r]; left; simp
  ·rw [r]; right; simp
 rcases e with e | e <;> rw [e] <;> omega
def begL (l m : List Txt) (t : Txt) : Prop := m.length < l.length ∧ l.take m.length = m ∧ l[m.length]? = some t
theorem jrn_tells {P T A M W Q : Int} {S : List Sec} {a g : Int} {b : Txt} {n : Nat} (hm : mayT P T A M W Q S []) (ha : arJ a) (hg : isG g) (h1 : 1 ≤ b.length) (h20 : b.length ≤ 20)
  (hn : n = (jN (jf S [] A a g) A.toNat).length) (hA : (n : Int) < A) (F : List Int) :
  mayD S [(2 + a * A + (n : Int), jT g n b)] = true ∧
  (jN (jf (crS S [(2 + a * A + (n : Int), jT g n b)] F) [] A a g) A.toNat = jN (jf S [] A a g) A.toNat ∨ begL (jN (jf (crS S [(2 + a * A + (n : Int), jT g n b)] F) [] A a g) A.toNat) (jN (jf S [] A a g) A.toNat) b) ∧
  begL (jN (jf (flS S [(2 + a * A + (n : Int), jT g n b)]) [] A a g) A.toNat) (jN (jf S [] A a g) A.toNat) b ∧
  (∀ g', isG g' → g' ≠ g → jN (jf (crS S [(2 + a * A + (n : Int), jT g n b)] F) [] A a g') A.toNat = jN (jf S [] A a g') A.toNat ∨
   (n < (jN (jf S [] A a g') A.toNat).length ∧ n ≤ (jN (jf (crS S [(2 + a * A + (n : Int), jT g n b)] F) [] A a g') A.toNat).length ∧ (jN (jf S [] A a g') A.toNat).take n = (jN (jf (crS S [(2 + a * A + (n : Int), jT g n b)] F) [] A a g') A.toNat).take n)) ∧
  (∀ g', jN (jf (crS S [(2 + a * A + (n : Int), jT g n b)] F) [] A (1 - a) g') A.toNat = jN (jf S [] A (1 - a) g') A.toNat) := by
 obtain ⟨r0, r1⟩ := at_area hm ha hA
 have hA32 : A ≤ 32 := hm.1.2.2.2.2.2.1
 have hn255 : (0 : Int) ≤ (n : Int) ∧ (n : Int) ≤ 255 := by omega
 have ht := jT_length g (n : Int) h20
 have hmay := may_one hm.2.1 r0 r1 ht
 obtain ⟨cr1, cr2⟩ := crash_one hm.2.1 hmay F
 have fl := flush_one hm.2.1 hmay
 rw [jN_length] at hn
 have hnk : n < A.toNat := by omega
 have hnew := noteT_new hg hn255 h1 h20
 have hne : b ≠ [] := fun e => by rw [e] at h1; exact absurd h1 (by decide)
 have hoff : ∀ (g' : Int) (j : Nat), j ≠ n → (2 + a * A + (j : Int)) ≠ 2 + a * A + (n : Int) := fun g' j h => by omega
 have hone := fun (f' : Nat → Txt) => jN_one (f := jf S [] A a g) (f' := f') hnk hn.symm
 obtain ⟨t, hT⟩ : ∃ t, t = jT g (n : Int) b := ⟨_, rfl⟩
 obtain ⟨x, hX⟩ : ∃ x, x = 2 + a * A + (n : Int) := ⟨_, rfl⟩
 rw [← hT] at hmay cr1 cr2 fl hnew ⊢
 rw [← hX] at hmay cr1 cr2 fl ⊢
 have old0 : jf S [] A a g n = [] := by
  rcases jM_end (jf S [] A a g) A.toNat with h | h
  ·omega
  ·rw [hn]; exact h
 refine ⟨hmay, ?_, ?_, fun g' hg' hgg => ?_, fun g' => ?_⟩
 ·obtain ⟨o1, o2⟩ := hone (jf (crS S [(x, t)] F) [] A a g) (fun j h => by unfold jf; rw [cr1 _ (by rw [hX]; exact hoff g j h)])
  have hv : jf (crS S [(x, t)] F) [] A a g n = [] ∨ jf (crS S [(x, t)] F) [] A a g n = b := by
   unfold jf
   rw [← hX]
   rcases cr2 with k | k | k
   ·rw [k]; left; have := old0; unfold jf at this; rw [← hX] at this; exact this
   ·rw [k]; right; exact hnew
   ·rw [k]; left; rfl
  rcases hv with hv | hv
  ·exact .inl (o1 hv)
  ·obtain ⟨p1, p2, p3⟩ := o2 (by rw [hv]; exact hne)
   right
   unfold begL
   rw [show (jN (jf S [] A a g) A.toNat).length = n by rw [jN_length]; exact hn.symm]
   exact ⟨p1, p2, by rw [p3, hv]⟩
 ·have hv : jf (flS S [(x, t)]) [] A a g n = b := by
   unfold jf
   rw [← hX, fl, if_pos rfl, if_pos ⟨by omega, by omega⟩]
   exact hnew
  obtain ⟨p1, p2, p3⟩ := (hone (jf (flS S [(x, t)]) [] A a g) (fun j h => by unfold jf; rw [fl, if_neg (by rw [hX]; exact hoff g j h)])).2 (by rw [hv]; exact hne)
  unfold begL
  rw [show (jN (jf S [] A a g) A.toNat).length = n by rw [jN_length]; exact hn.symm]
  exact ⟨p1, p2, by rw [p3, hv]⟩
 ·have hj : ∀ j, j ≠ n → jf (crS S [(x, t)] F) [] A a g' j = jf S [] A a g' j := fun j h => by unfold jf; rw [cr1 _ (by rw [hX]; exact hoff g' j h)]
  have hoth : noteT g' (n : Int) t = [] := by rw [hT]; exact noteT_other hg hg' hn255 h20 hgg
  have hv : jf (crS S [(x, t)] F) [] A a g' n = jf S [] A a g' n ∨ jf (crS S [(x, t)] F) [] A a g' n = [] := by
   unfold jf
   rw [← hX]
   rcases cr2 with k | k | k
   ·rw [k]; exact .inl rfl
   ·rw [k]; exact .inr hoth
   ·rw [k]; exact .inr rfl
  rcases hv with hv | hv
  ·left
   refine jN_same fun j _ => ?_
   by_cases e : j = n
   ·rw [e]; exact hv
   ·exact hj j e
  ·exact jN_cut hnk hv hj
 ·refine jN_same fun j hj => ?_
  unfold jf
  rw [cr1 _ ?_]
  have e2 : (1 - a) * A = A - a * A := by rw [Int.sub_mul, Int.one_mul]
  have e : a * A = 0 ∨ a * A = A := by
   unfold arJ at ha
   rcases (show a = 0 ∨ a = 1 by omega) with r | r
   ·rw [r]; left; simp
   ·rw [r]; right; simp
  rw [e2, hX]
  rcases e with e | e <;> rw [e] <;> omega
end Go.Proofs.YtifgcfepbenpjaaGreat
namespace Go.Proofs.YtifgcfepbenpjaaGreat
open Go.RowKit Go.OpenShut Go.ChangeShapes Go.WideShapes Go.Deep
def OwnTxs (w : World) (base : Nat) (A : Option Addr) (n c : Nat) (zss : List Txt) : Prop :=
 ∃ vs : List Value, w.ownsRow base 42 1 (.slice A n c) n vs ∧ zss.length = n ∧ (∀ zs ∈ zss, ∀ z ∈ zs, isByte z) ∧
  ∀ i, i < n → ∃ Ai ni ci, vs[i]? = some (.slice Ai ni ci) ∧ OwnTxt w base Ai ni ci (zss.getD i [])
theorem OwnTxs.nil (w : World) (base : Nat) : OwnTxs w base none 0 0 [] := ⟨[], World.ownsRow_nil _ _ _ _, rfl, by simp, fun i hi => absurd hi (Nat.not_lt_zero _)⟩
theorem OwnTxs.lower {w : World} {base base' : Nat} {A : Option Addr} {n c : Nat} {zss : List Txt} (h : OwnTxs w base A n c zss) (hb : base' ≤ base) : OwnTxs w base' A n c zss := by
 obtain ⟨vs, h1, h2, h3, h4⟩ := h
 exact ⟨vs, owns_base h1 hb, h2, h3, fun i hi => by obtain ⟨a, b, c, e, o⟩ := h4 i hi; exact ⟨a, b, c, e, o.lower hb⟩⟩
theorem OwnTxs.texts {w : World} {base : Nat} {A : Option Addr} {n c : Nat} {zss : List Txt} (h : OwnTxs w base A n c zss) : Texts w A n c zss := by
 obtain ⟨vs, hown, hl, hb, hin⟩ := h
 refine ⟨hl, ?_, ?_, hb, fun i hi => ?_⟩
 ·rcases hown.2 with ⟨e, h0⟩ | ⟨g, cap, cur, e, _, _, h1, h2, _⟩ <;> cases e
  ·exact Nat.le_refl _
  ·exact h1
 ·rcases hown.2 with ⟨e, h0⟩ | ⟨g, cap, cur, e, _, _, h1, h2, _⟩ <;> cases e
  ·decide
  ·exact h2
 ·obtain ⟨Ai, ni, ci, hv, ho⟩ := hin i hi
  obtain ⟨b, e, hlt, hcc⟩ := owns_cell hown hv
  exact ⟨b, 0, Ai, ni, ci, e, hlt, by rw [Nat.zero_add]; exact hcc, ho.arg⟩
theorem OwnTxs.snoc {w w' : World} {base : Nat} {A A' Ai : Option Addr} {n c c' ni ci : Nat} {zss : List Txt} {zs : Txt} {vs : List Value} (hown0 : w.ownsRow base 42 1 (.slice A n c) n vs) (hl : zss.length = n) (hby : ∀ zs ∈ zss, ∀ z ∈ zs, isByte z)
  (hin : ∀ i, i < n → ∃ Ai ni ci, vs[i]? = some (.slice Ai ni ci) ∧ OwnTxt w base Ai ni ci (zss.getD i [])) (hz : ∀ z ∈ zs, isByte z)
  (ho : OwnTxt w base Ai ni ci zs) (hg : w.grownBy w' (Value.slice A n c).ownBlock)
  (hown : w'.ownsRow base 42 1 (.slice A' (n + 1) c') (n + 1) (vs ++ [.slice Ai ni ci])) : OwnTxs w' base A' (n + 1) c' (zss ++ [zs]) := by
 have hvl : vs.length = n := by have := hown0.1; omega
 have hkeep : ∀ {A' : Option Addr} {n' c' : Nat} {xs : List Int}, OwnTxt w base A' n' c' xs → OwnTxt w' base A' n' c' xs := fun hx =>
  hx.keep fun g' _ hu => hg.block g' (by obtain ⟨cs, hc⟩ := hu; exact (Array.getElem?_eq_some_iff.1 hc).1) (fun e => u8_row (by decide) hu hown0 e.symm)
 refine ⟨_, hown, by simp [hl], ?_, fun j hj => ?_⟩
 ·intro y hy z hzz
  rcases List.mem_append.1 hy with hy | hy
  ·exact hby y hy z hzz
  ·rw [List.mem_singleton] at hy
   subst hy
   exact hz z hzz
 ·by_cases e : j = n
  ·subst e
   refine ⟨Ai, ni, ci, by rw [List.getElem?_append_right (by omega)]; simp [hvl], ?_⟩
   have e2 : (zss ++ [zs]).getD j [] = zs := by simp [List.getD_eq_getElem?_getD, hl]
   rw [e2]
   exact hkeep ho
  ·obtain ⟨Aj, nj, cj, hv, hoj⟩ := hin j (by omega)
   refine ⟨Aj, nj, cj, by rw [List.getElem?_append_left (by omega)]; exact hv, ?_⟩
   have e2 : (zss ++ [zs]).getD j [] = zss.getD j [] := by simp [List.getD_eq_getElem?_getD, List.getElem?_append_left (show j < zss.length by omega)]
   rw [e2]
   exact hkeep hoj
theorem txts_info : (Tryz.prog.info? 42).map (fun i => (i.zero, i.size, i.bytes)) = some (some (.slice none 0 0), 1, 24) := by kernel_rfl
end Go.Proofs.YtifgcfepbenpjaaGreat
namespace Go.Proofs.YtifgcfepbenpjaaGreat
open Go.RowKit
abbrev noteV (g n : Int) (A : Option Addr) (k c : Nat) : Value := .iface 219 (.agg #[.int .u64 g, .int .i64 n, .slice A k c])
abbrev faultV (E : Int) : Value := .iface 220 (.int .i64 E)
theorem noteof_yes (g n : Int) (A : Option Addr) (k c : Nat) (w : World) (h1 : 1 ≤ k) (h20 : k ≤ 20) (hn : 0 ≤ n ∧ n ≤ 255) :
  Calls Tryz.prog 179 #[.int .u64 g, .int .i64 n, .slice A k c] w fun e w' => e = .returned (noteV g n A k c) ∧ w' = w := by
 have a1 : ¬ ((k : Int) < 1) := by omega
 have a2 : ¬ (20 < (k : Int)) := by omega
 have a3 : ¬ (n < 0) := by omega
 have a4 : ¬ (255 < n) := by omega
 go_enter Tryz.func179, Tryz.ntmps179
 go_wp2
 go_ret
 exact ⟨rfl, rfl⟩
theorem noteof_no (g n : Int) (A : Option Addr) (k c : Nat) (b : Txt) (w : World) (hk : b.length = k) (hE : jtE n b ≠ 0) :
  Calls Tryz.prog 179 #[.int .u64 g, .int .i64 n, .slice A k c] w fun e w' => e = .returned (faultV (jtE n b)) ∧ w' = w := by
 unfold jtE at hE ⊢
 rw [hk] at hE ⊢
 by_cases h1 : 1 ≤ k ∧ k ≤ 20
 ·rw [if_pos h1] at hE ⊢
  have hn : ¬ (0 ≤ n ∧ n ≤ 255) := fun h => hE (if_pos h)
  rw [if_neg hn]
  have a1 : ¬ ((k : Int) < 1) := by omega
  have a2 : ¬ (20 < (k : Int)) := by omega
  clear hE hk
  by_cases h3 : n < 0
  ·clear hn h1
   go_enter Tryz.func179, Tryz.ntmps179
   go_wp2
   go_ret
   exact ⟨rfl, rfl⟩
  ·have a4 : 255 < n := by omega
   clear hn h1
   go_enter Tryz.func179, Tryz.ntmps179
   go_wp2
   go_ret
   exact ⟨rfl, rfl⟩
 ·rw [if_neg h1]
  clear hE hk
  by_cases h3 : (k : Int) < 1
  ·clear h1
   go_enter Tryz.func179, Tryz.ntmps179
   go_wp2
   go_ret
   exact ⟨rfl, rfl⟩
  ·have a2 : 20 < (k : Int) := by omega
   clear h1
   go_enter Tryz.func179, Tryz.ntmps179
   go_wp2
   go_ret
   exact ⟨rfl, rfl⟩
theorem jsizes_any (w : World) : Calls Tryz.prog 188 #[] w fun e w' => ∃ g, e = .returned (.slice (some ⟨g, 0, none⟩) 5 5) ∧ Arg w' .i64 (some ⟨g, 0, none⟩) 5 5 sz5 ∧ Below w.heap.size w w' := by
 have hml : 5 ≤ maxLen := by decide
 have HA := Lh (show Arg (w.alloc (.cells #[.int .i64 8, .int .i64 1, .int .i64 1, .int .i64 1, .int .i64 1] 3)) .i64 (some ⟨w.heap.size, 0, none⟩) 5 5 sz5 from ⟨lit_row w 3 .i64 sz5 _ _ _ rfl rfl (by simp), rfl, Nat.le_refl _, hml⟩)
 go_enter Tryz.func188, Tryz.ntmps188
 go_wp2
 go_ret
 exact ⟨_, rfl, HA.out, (Below.refl _ _).alloc (Nat.le_refl _) _⟩
theorem ftext_any (E : Int) (w : World) : Calls Tryz.prog 231 #[.int .i64 E] w fun e w' => e = .returned (.tuple #[.slice none 0 0, .int .i64 E]) ∧ w' = w := by
 go_enter Tryz.func231, Tryz.ntmps231
 go_wp2
 go_ret2
 exact ⟨rfl, rfl⟩
theorem jsplice_row (g n m : Int) : splice (ints .u8 noughts) 0 (ints .u8 (jrow g n m)) = ints .u8 (jrow g n m ++ List.replicate 20 0) := by
 have hl : (jrow g n m).length = 12 := jrow_length g n m
 simp [splice, ints, noughts, hl]
theorem jsplice_part (r b : Txt) (hr : r.length = 12) (hb : b.length ≤ 20) : splice (ints .u8 (r ++ List.replicate 20 0)) 12 (ints .u8 b) = ints .u8 (r ++ b ++ List.replicate (20 - b.length) 0) := by
 have h1 : (ints .u8 (r ++ List.replicate 20 0)).take 12 = ints .u8 r := by
  unfold ints
  rw [← List.map_take, List.take_append_of_le_length (by omega), List.take_of_length_le (by omega)]
 have h2 : (ints .u8 (r ++ List.replicate 20 0)).drop (12 + (ints .u8 b).length) = ints .u8 (List.replicate (20 - b.length) 0) := by
  rw [ints_length]
  unfold ints
  rw [← List.map_drop, List.drop_append, List.drop_of_length_le (by omega), List.nil_append, List.drop_replicate, show 20 - (12 + b.length - r.length) = 20 - b.length from by omega]
 unfold splice
 rw [h1, h2]
 simp [ints]
theorem nums_note (w : World) (g n : Int) (k : Nat) (b B : Nat) (hb : b = w.heap.size) (hB : w.heap.size < B) : Seq (w.alloc (.cells #[.int .u64 g, .int .u64 1, .int .u64 n, .int .u64 (k : Int), .int .u64 0] 27)) B (some ⟨b, 0, none⟩) (ints .u64 [g, 1, n, (k : Int), 0]) := lit_row w 27 .u64 [g, 1, n, (k : Int), 0] _ _ _ rfl hb hB
theorem ntext_any (g n : Int) (hg : isG g) (hn : 0 ≤ n ∧ n ≤ 255) (A : Option Addr) (k c : Nat) (b : Txt) (w : World) (hb : Arg w .u8 A k c b) (hk : k ≤ 20) :
  Calls Tryz.prog 230 #[.agg #[.int .u64 g, .int .i64 n, .slice A k c]] w fun e w' => ∃ G, e = .returned (.tuple #[.slice (some ⟨G, 0, none⟩) 32 32, .int .i64 0]) ∧ w'.ownsRow w.heap.size 5 1 (.slice (some ⟨G, 0, none⟩) 32 32) 32 (ints .u8 (jT g n b)) ∧ Below w.heap.size w w' := by
 have x := Blk.new w 219 [.int .u64 g, .int .i64 n, .slice A k c]
 have hbel : Below w.heap.size w (w.alloc (.cells #[.int .u64 g, .int .i64 n, .slice A k c] 219)) := (Below.refl _ _).alloc (Nat.le_refl _) _
 have hlen := hb.len
 have FT := Lh (show fitsTo [g, 1, n, (k : Int), 0] sz5 sz5.length = true from fits5 hg ⟨hn.1, by omega⟩ ⟨by omega, by omega⟩)
 obtain ⟨hg0, hg1⟩ := hg
 have W1 := Lh (show ∀ z ∈ [g, 1, n, (k : Int), 0], isWord z by
  intro z hz
  simp only [List.mem_cons, List.not_mem_nil, or_false] at hz
  unfold isWord
  rcases hz with rfl | rfl | rfl | rfl | rfl <;> omega)
 have X := Lh x
 have BL := Lh hbel
 have HB := Lh (hb.below hbel)
 have e2 : IntKind.u64.wrap n = n := wraps_u64 n hn.1 (by omega)
 have e3 : IntKind.u64.wrap (k : Int) = (k : Int) := wraps_u64 _ (by omega) (by omega)
 have HJ := Lh (show jT g n b = jrow g n k ++ b ++ List.replicate (20 - b.length) 0 by unfold jT; rw [hlen])
 rw [HJ.out]
 have HLB := Lh (show b.length ≤ 20 by omega)
 clear x hbel hg0 hg1 hn hb HJ
 go_enter Tryz.func230, Tryz.ntmps230
 go_upto_region 1 with fail
 obtain ⟨v1, hW⟩ : ∃ x : World, x = w.alloc (.cells #[.int .u64 g, .int .i64 n, .slice A k c] 219) := ⟨_, rfl⟩
 rw [← hW] at X BL HB ⊢
 have hlt : w.heap.size < v1.heap.size := X.out.lt
 clear hW
 have hcur : Below v1.heap.size v1 v1.drew := below_drewN (Below.refl _ _) 1
 have keepX : ∀ wx, Below v1.heap.size v1 wx → wx.cell? ⟨w.heap.size, 0, none⟩ = some (.int .u64 g) ∧ wx.cell? ⟨w.heap.size, 1, none⟩ = some (.int .i64 n) ∧ wx.cell? ⟨w.heap.size, 2, none⟩ = some (.slice A k c) := fun wx hx => by
  have z := X.out.below hx hlt
  exact ⟨z.cell 0, z.cell 1, z.cell 2⟩
 have hkX := keepX _ hcur
 go_region_held3 (fun wx => wx.cell? ⟨w.heap.size, 0, none⟩ = some (.int .u64 g) ∧ wx.cell? ⟨w.heap.size, 1, none⟩ = some (.int .i64 n) ∧ wx.cell? ⟨w.heap.size, 2, none⟩ = some (.slice A k c))
  (first | exact hkX | exact keepX _ (hcur.alloc hcur.size _) | exact keepX _ (below_drewN ((Below.refl _ _).alloc (Nat.le_refl _) _) 1) | go_keep)
  (first
   | (go_at_call 188; with_reducible refine (jsizes_any v1.drew).mono ?_; rintro e wS ⟨gS, rfl, hAS, hbS⟩; have hcur := hcur.trans (hbS.mono hcur.size); have hkX := keepX _ hcur)
   | (go_at_call 188; have hL := nums_note v1 g n k v1.heap.size (v1.heap.size + 1) rfl (Nat.lt_succ_self _); have hcur : Below v1.heap.size v1 (v1.alloc (.cells #[.int .u64 g, .int .u64 1, .int .u64 n, .int .u64 (k : Int), .int .u64 0] 27)).drew := below_drewN ((Below.refl _ _).alloc (Nat.le_refl _) _) 1; have hL : Seq (v1.alloc (.cells #[.int .u64 g, .int .u64 1, .int .u64 n, .int .u64 (k : Int), .int .u64 0] 27)).drew (v1.heap.size + 1) (some ⟨v1.heap.size, 0, none⟩) (ints .u64 [g, 1, n, (k : Int), 0]) := hL.keep fun _ _ => rfl; with_reducible refine (jsizes_any _).mono ?_; rintro e wS ⟨gS, rfl, hAS, hbS⟩; have hL := (hL.below (hbS.mono (by simp))).more (B' := wS.heap.size) (Nat.le_trans (by simp) hbS.size); have hcur := hcur.trans (hbS.mono hcur.size); have hkX := keepX _ hcur)
   | (go_at_call 74; with_reducible refine (write_ok (some ⟨v1.heap.size, 0, none⟩) (some ⟨gS, 0, none⟩) 5 5 5 5 [g, 1, n, (k : Int), 0] sz5 _ hAS.seq rfl okB_sz5 hL rfl rfl W1.out).mono ?_; intro e w2 hout; have hM := hcur.size; obtain ⟨A2, c2, rfl, hown, hb⟩ := (WroteOut.yes hout FT.out).len (zs' := jrow g n k) (n := 12) rfl (jrow_length _ _ _); have hcur := hcur.trans (hb.mono hcur.size); have hkX := keepX _ hcur)
   | (go_at_call 74; have hL := nums_note wS g n k wS.heap.size (wS.heap.size + 1) rfl (Nat.lt_succ_self _); have hL := hL.more (B' := (wS.alloc (.cells #[.int .u64 g, .int .u64 1, .int .u64 n, .int .u64 (k : Int), .int .u64 0] 27)).heap.size) (by simp); have hAS := hAS.below ((Below.refl wS.heap.size wS).alloc (Nat.le_refl _) (.cells #[.int .u64 g, .int .u64 1, .int .u64 n, .int .u64 (k : Int), .int .u64 0] 27)); have hcur := hcur.alloc hcur.size (.cells #[.int .u64 g, .int .u64 1, .int .u64 n, .int .u64 (k : Int), .int .u64 0] 27); with_reducible refine (write_ok (some ⟨wS.heap.size, 0, none⟩) (some ⟨gS, 0, none⟩) 5 5 5 5 [g, 1, n, (k : Int), 0] sz5 _ hAS.seq rfl okB_sz5 hL rfl rfl W1.out).mono ?_; intro e w2 hout; have hM := hcur.size; obtain ⟨A2, c2, rfl, hown, hb⟩ := (WroteOut.yes hout FT.out).len (zs' := jrow g n k) (n := 12) rfl (jrow_length _ _ _); have hcur := hcur.trans (hb.mono hcur.size); have hkX := keepX _ hcur))
 all_goals (
  have B2 := Lh (BL.out.trans (hcur.mono BL.out.size))
  have X2 := Lh (X.out.below hcur hlt)
  have HB2 := Lh (HB.out.below hcur)
  have R2 := Lh (Arg.own hown)
  have hG0 := Nat.le_trans BL.out.size hcur.size
  clear hcur hkX keepX hM hb hown FT W1 X BL HB hAS
  have hmk := make_bytes 32 (by decide) w2
  rw [show ((32 : Nat) : Int) = 32 from rfl] at hmk
  have y := Blk.new w2 5 (List.replicate 32 (.int .u8 0))
  rw [noughts_ints] at y
  have hbl1 : Below w2.heap.size w2 (w2.alloc (.cells (List.replicate 32 (.int .u8 0)).toArray 5)) := (Below.refl _ _).alloc (Nat.le_refl _) _
  rw [noughts_ints] at hmk hbl1
  obtain ⟨v2, hV⟩ : ∃ x : World, x = w2.alloc (.cells (ints .u8 noughts).toArray 5) := ⟨_, rfl⟩
  rw [← hV] at hmk y hbl1
  have Y := Lh y
  have R3 := Lh (R2.out.below hbl1)
  have BV := Lh hbl1
  have HG := Lh hG0
  have HLEN := Lh (show (ints .u8 (jrow g n k)).length = Nat.min 12 32 by rw [ints_length, jrow_length]; decide)
  have HFIT := Lh (show 0 + (ints .u8 (jrow g n k)).length ≤ (ints .u8 noughts).length by rw [ints_length, ints_length, jrow_length]; decide)
  have HLE2 := Lh (show (ints .u8 b).length = Nat.min k 20 by rw [ints_length, HB2.out.len]; exact (Nat.min_eq_left hk).symm)
  have HFI2 := Lh (show 12 + (ints .u8 b).length ≤ (ints .u8 (jrow g n k ++ List.replicate 20 0)).length by rw [ints_length, ints_length, HB2.out.len, List.length_append, jrow_length, List.length_replicate]; omega)
  clear hV hbl1 y R2 hG0
  go_wp2_with (with_reducible refine wpList_copy_seq (o := ⟨some 25, _, _, _, _, _⟩) rfl (.tmp 23) (.tmp 24) _ _ rfl 5 Tryz.underlying42 byte_size A2 w2.heap.size 0 32 32 12 c2 rfl rfl (ints .u8 noughts) 5 Y.out (ints .u8 (jrow g n k)) HLEN.out _ R3.out.seq HFIT.out (ints_one _ _) w2.heap.size w2 BV.out (Nat.le_refl _) ?_; intro w4 HG4 hB4)
  have X4 := Lh (X2.out.below hB4 X2.out.lt)
  have R4 := Lh (HB2.out.below hB4)
  have Y4 := HG4.out
  rw [jsplice_row] at Y4
  have Y4 := Lh Y4
  have B4 := Lh hB4
  have q2 := X4.out.cell 2
  simp only [gcZ, gcS] at q2
  clear HG4 hB4 hmk R3 Y BV HLEN HFIT
  go_still_tail 4, (by kernel_rfl)
  change wpList _ _ _ _ _ w4.drew
  have YD := Lh (show Blk w4.drew w2.heap.size 5 (ints .u8 (jrow g n k ++ List.replicate 20 0)) from Y4.out)
  have RD := Lh (show Seq w4.drew w4.heap.size A (ints .u8 b) from R4.out.seq.keep fun _ _ => rfl)
  have BD := Lh (show Below w.heap.size w w4.drew from below_drewN (B2.out.trans (B4.out.mono B2.out.size)) 1)
  clear X4 q2 Y4 R4 B2 B4 X2 HB2
  go_wp2_with (with_reducible refine wpList_copy_seq (o := ⟨some 30, _, _, _, _, _⟩) rfl (.tmp 27) (.tmp 29) _ _ rfl 5 Tryz.underlying42 byte_size A w2.heap.size 12 20 20 k c rfl rfl (ints .u8 (jrow g n k ++ List.replicate 20 0)) 5 YD.out (ints .u8 b) HLE2.out _ RD.out HFI2.out (ints_one _ _) w.heap.size w BD.out HG.out ?_; intro w5 HG5 hB5)
  go_ret2
  have hb5 := HG5.out
  rw [jsplice_part _ _ (jrow_length _ _ _) HLB.out] at hb5
  exact ⟨w2.heap.size, rfl, hb5.owns HG.out (by rw [ints_length]; have := HLB.out; simp only [List.length_append, jrow_length, List.length_replicate]; omega) (by decide), hB5⟩)
def rdM (t : Txt) : Nat := min (t.getD 10 0).toNat 20
def rdTx (t : Txt) : Txt := (t.drop 12).take (rdM t)
def rdOk (t : Txt) : Prop := 1 ≤ t.getD 10 0 ∧ jT (val (t.take 8)) (t.getD 9 0) (rdTx t) = t
theorem rdM_le (t : Txt) : rdM t ≤ 20 := Nat.min_le_right _ _
theorem rdTx_length {t : Txt} (h : t.length = 32) : (rdTx t).length = rdM t := by
 unfold rdTx
 rw [List.length_take, List.length_drop, h]
 have := rdM_le t
 omega
theorem rdTx_byte {t : Txt} (h : ∀ z ∈ t, isByte z) : ∀ z ∈ rdTx t, isByte z := fun z hz => h z (List.mem_of_mem_drop (List.mem_of_mem_take hz))
theorem nums5_eq (t : Txt) (ht : t.length = 32) : numsTo (t.take 12) sz5 5 = [val (t.take 8), t.getD 8 0, t.getD 9 0, t.getD 10 0, t.getD 11 0] := by
 have h : numsTo (t.take 12) sz5 5 = (((([] ++ [val (((t.take 12).drop 0).take 8)]) ++ [val (((t.take 12).drop 8).take 1)]) ++ [val (((t.take 12).drop 9).take 1)]) ++ [val (((t.take 12).drop 10).take 1)]) ++ [val (((t.take 12).drop 11).take 1)] := rfl
 rw [h]
 simp only [List.drop_take, List.take_take, List.drop_zero, List.nil_append, List.cons_append]
 show [val (t.take 8), val ((t.drop 8).take 1), val ((t.drop 9).take 1), val ((t.drop 10).take 1), val ((t.drop 11).take 1)] = _
 rw [val_one (by omega), val_one (by omega), val_one (by omega), val_one (by omega)]
theorem gen_of {t : Txt} (ht : t.length = 32) (hb : ∀ z ∈ t, isByte z) : isG (val (t.take 8)) := by
 have h := val_bounds (t.take 8) fun z hz => hb z (List.mem_of_mem_take hz)
 rw [List.length_take, ht] at h
 have h8 : (256 : Int) ^ (min 8 32) = 18446744073709551616 := by decide
 rw [h8] at h
 exact h
theorem rd_note {t : Txt} (ht : t.length = 32) (hb : ∀ z ∈ t, isByte z) {g n : Int} (hg : isG g) (hn : 0 ≤ n ∧ n ≤ 255) :
  (rdOk t → noteT g n t = if g = val (t.take 8) ∧ n = t.getD 9 0 then rdTx t else []) ∧ (¬ rdOk t → noteT g n t = []) := by
 have hmb := byte_getD hb 10
 unfold isByte at hmb
 have hkey : ∀ g' n' : Int, isG g' → (0 ≤ n' ∧ n' ≤ 255) → ∀ b : Txt, b.length ≤ 20 → jT g' n' b = t → g' = val (t.take 8) ∧ n' = t.getD 9 0 ∧ t.getD 10 0 = (b.length : Int) ∧ (t.drop 12).take b.length = b := fun g' n' hg' hn' b hb' e => by
  obtain ⟨a1, a2, a3, a4⟩ := jT_tells hg' hn' hb'
  rw [e] at a1 a2 a3 a4
  exact ⟨a1.symm, a2.symm, a3, a4⟩
 have hlen := rdTx_length ht
 have hle := rdM_le t
 have hyes : 1 ≤ t.getD 10 0 ∧ t.getD 10 0 ≤ 20 → rdTx t = (t.drop 12).take (t.getD 10 0).toNat := fun h => by
  unfold rdTx rdM
  rw [Nat.min_eq_left (by omega)]
 refine ⟨fun h => ?_, fun h => ?_⟩
 ·obtain ⟨k1, k2, k3, k4⟩ := hkey _ _ (gen_of ht hb) (by have := byte_getD hb 9; unfold isByte at this; omega) (rdTx t) (by omega) h.2
  have hr : 1 ≤ t.getD 10 0 ∧ t.getD 10 0 ≤ 20 := ⟨h.1, by omega⟩
  by_cases he : g = val (t.take 8) ∧ n = t.getD 9 0
  ·rw [if_pos he]
   unfold noteT
   rw [← hyes hr, he.1, he.2, if_pos ⟨hr, h.2⟩]
  ·rw [if_neg he]
   unfold noteT
   rw [← hyes hr, if_neg]
   rintro ⟨_, h2⟩
   obtain ⟨j1, j2, _⟩ := hkey g n hg hn _ (by omega) h2
   exact he ⟨j1, j2⟩
 ·unfold noteT
  rw [if_neg]
  rintro ⟨h1, h2⟩
  rw [← hyes h1] at h2
  obtain ⟨j1, j2, _⟩ := hkey g n hg hn _ (by omega) h2
  rw [j1, j2] at h2
  exact h ⟨h1.1, h2⟩
end Go.Proofs.YtifgcfepbenpjaaGreat
