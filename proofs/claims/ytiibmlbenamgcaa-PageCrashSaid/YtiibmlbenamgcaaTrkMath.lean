/- Layer 8: what the calls answer, in plain words, and what follows: configs, disks and bytes as lists. Nothing of the program. -/
import Derived.Test.YtiibmlbenamgcaaCellCs
import Derived.Test.YtiibmlbenamgcaaCrc
import Derived.Test.YtiibmlbenamgcaaPlRef2
namespace Go.Proofs.Ytiibmlbenamgcaa
set_option linter.unusedVariables false

/-- A site's disk may be. -/
def mayT (P T A M W Q : Int) (S : List Sec) (C : List Pnd) : Prop := mayC P T A M W Q ∧ mayD S C = true ∧ (S.length : Int) = fE P T A
instance (P T A M W Q : Int) (S : List Sec) (C : List Pnd) : Decidable (mayT P T A M W Q S C) := by unfold mayT; infer_instance
/-- A track is. -/
def isT (P T p n : Int) : Prop := 0 ≤ p ∧ p ≤ P - 1 ∧ 0 ≤ n ∧ n ≤ T - 1
instance (P T p n : Int) : Decidable (isT P T p n) := by unfold isT; infer_instance
def tcE (P T A M W Q : Int) (S : List Sec) (C : List Pnd) : Int := if mayT P T A M W Q S C then 0 else 8
def taE (P T A M W Q : Int) (S : List Sec) (C : List Pnd) (p n : Int) : Int := if mayT P T A M W Q S C then (if isT P T p n then 0 else 80) else 8
def atT (P T A p n : Int) : Int := fT P T A + 4 * (p * T + n)
/-- What a cell's text is to a track: its error, and its bytes. -/
def txE (t : Txt) : Int := if opE t = 0 ∧ (opB t).length = 28 then 0 else 20
def txB (t : Txt) : Txt := if txE t = 0 then opB t else []
def tkE (S : List Sec) (C : List Pnd) (a : Int) : Int := if crE S C a 2 = 0 then txE (crB S C a 2) else 0
def tkB (S : List Sec) (C : List Pnd) (a : Int) : Txt := if crE S C a 2 = 0 then txB (crB S C a 2) else List.replicate 28 0
def trE (P T A M W Q : Int) (S : List Sec) (C : List Pnd) (p n : Int) : Int := if taE P T A M W Q S C p n = 0 then tkE S C (atT P T A p n) else taE P T A M W Q S C p n
def trB (P T A M W Q : Int) (S : List Sec) (C : List Pnd) (p n : Int) : Txt := if taE P T A M W Q S C p n = 0 then tkB S C (atT P T A p n) else []
/-- A volume. -/
def tvOk (P T A : Int) (S : List Sec) (C : List Pnd) (p : Int) (k : Nat) : Prop := ∀ n : Nat, n < k → tkE S C (atT P T A p n) = 0
def tvL (P T A : Int) (S : List Sec) (C : List Pnd) (p : Int) (k : Nat) : List Txt := (List.range k).map fun n : Nat => tkB S C (atT P T A p n)
/-- The writes of a track. -/
def tpE (P T A M W Q : Int) (S : List Sec) (C : List Pnd) (p n : Int) (b : Txt) : Int :=
  if taE P T A M W Q S C p n = 0 then (if b.length = 28 then cpE S C (atT P T A p n) 2 (sealed b) else 2) else taE P T A M W Q S C p n
def tpL (P T A M W Q : Int) (S : List Sec) (C : List Pnd) (p n : Int) (b : Txt) : List Pnd := if tpE P T A M W Q S C p n b = 0 then cpL S C (atT P T A p n) 2 (sealed b) else []
def twE (P T A M W Q : Int) (S : List Sec) (C : List Pnd) (p n : Int) (b : Txt) : Int :=
  if taE P T A M W Q S C p n = 0 then (if b.length = 28 then cwE S C (atT P T A p n) 2 (sealed b) else 2) else taE P T A M W Q S C p n
def twS (P T A M W Q : Int) (S : List Sec) (C : List Pnd) (p n : Int) (b : Txt) : List Sec := if twE P T A M W Q S C p n b = 0 then S else []
def twC (P T A M W Q : Int) (S : List Sec) (C : List Pnd) (p n : Int) (b : Txt) : List Pnd := if twE P T A M W Q S C p n b = 0 then C ++ cpL S C (atT P T A p n) 2 (sealed b) else []

theorem txE_or (t : Txt) : txE t = 0 ∨ txE t = 20 := by unfold txE; split <;> simp
theorem tkE_or (S : List Sec) (C : List Pnd) (a : Int) : tkE S C a = 0 ∨ tkE S C a = 20 := by
  unfold tkE
  split
  · exact txE_or _
  · exact .inl rfl
theorem txB_not {t : Txt} (h : txE t ≠ 0) : txB t = [] := if_neg h
theorem tkB_not {S : List Sec} {C : List Pnd} {a : Int} (h : tkE S C a ≠ 0) : tkB S C a = [] := by
  unfold tkE at h
  unfold tkB
  split at h
  · rename_i h1
    rw [if_pos h1]
    exact txB_not h
  · exact absurd rfl h
theorem txB_len {t : Txt} (h : txE t = 0) : (txB t).length = 28 := by
  unfold txB
  rw [if_pos h]
  unfold txE at h
  split at h
  · rename_i h1; exact h1.2
  · cases h
theorem tkB_len {S : List Sec} {C : List Pnd} {a : Int} (h : tkE S C a = 0) : (tkB S C a).length = 28 := by
  unfold tkE at h
  unfold tkB
  split at h
  · rename_i h1
    rw [if_pos h1]
    exact txB_len h
  · rename_i h1
    rw [if_neg h1]
    rfl
theorem txB_byte {t : Txt} (hb : ∀ z ∈ t, isByte z) : ∀ z ∈ txB t, isByte z := by
  unfold txB
  split
  · exact opB_byte hb
  · simp
theorem held_bytes {l : List (Option Txt)} : ∀ (k : Nat) (ps : List Prt), heldTo l k = some ps → (∀ i T, i < k → l.getD i none = some T → ∀ z ∈ T, isByte z) → ∀ p ∈ ps, ∀ z ∈ p.2, isByte z := by
  intro k
  induction k with
  | zero =>
    intro ps h _ p hp
    rw [heldTo] at h
    injection h with h
    subst h
    simp at hp
  | succ k ih =>
    intro ps h hl
    rw [heldTo] at h
    rcases h1 : heldTo l k with _ | qs
    · rw [h1] at h; cases h
    · rw [h1] at h
      dsimp only at h
      rcases h2 : partO k (l.getD k none) with _ | q
      · rw [h2] at h; cases h
      · rw [h2] at h
        dsimp only at h
        split at h
        · injection h with h
          subst h
          intro p hp
          rcases List.mem_append.1 hp with hp | hp
          · exact ih qs h1 (fun i T hi => hl i T (by omega)) p hp
          · rw [List.mem_singleton] at hp
            subst hp
            rcases h3 : l.getD k none with _ | T
            · rw [h3] at h2; cases h2
            · rw [h3] at h2
              unfold partO at h2
              dsimp only at h2
              split at h2
              · injection h2 with h2
                subst h2
                exact partB_byte (hl k T (by omega) h3)
              · cases h2
        · cases h
theorem slotB_byte {l : List (Option Txt)} (hl : ∀ i T, l.getD i none = some T → ∀ z ∈ T, isByte z) : ∀ z ∈ slotB l, isByte z := by
  unfold slotB
  rcases h : heldTo l l.length with _ | ps
  · simp
  · intro z hz
    dsimp only at hz
    unfold joinB at hz
    obtain ⟨x, hx, hzx⟩ := List.mem_flatten.1 hz
    obtain ⟨p, hp, rfl⟩ := List.mem_map.1 hx
    exact held_bytes _ ps h (fun i T _ => hl i T) p hp z hzx
theorem opts_byte {S : List Sec} {C : List Pnd} (hS : ∀ s ∈ S, ∀ z ∈ s.2, isByte z) (hC : ∀ p ∈ C, ∀ z ∈ p.2, isByte z) (a : Int) (n i : Nat) (T : Txt) (h : (optsOf S C a n).getD i none = some T) : ∀ z ∈ T, isByte z := by
  rcases Nat.lt_or_ge i n with hi | hi
  · rw [optsOf_get S C a hi] at h
    unfold optAt at h
    split at h
    · rename_i h0
      injection h with h
      subst h
      exact (rd_good h0 hS hC).2
    · cases h
  · rw [List.getD_eq_getElem?_getD, List.getElem?_eq_none (by rw [optsOf_length]; exact hi)] at h
    cases h
theorem crB_byte {S : List Sec} {C : List Pnd} (hS : ∀ s ∈ S, ∀ z ∈ s.2, isByte z) (hC : ∀ p ∈ C, ∀ z ∈ p.2, isByte z) (a wd : Int) : ∀ z ∈ crB S C a wd, isByte z := by
  unfold crB
  split
  · unfold hB
    split
    · exact slotB_byte fun i T h => opts_byte hS hC a (2 * wd.toNat) (wd.toNat + i) T (by rwa [getD_drop] at h)
    · refine slotB_byte fun i T h => ?_
      rcases Nat.lt_or_ge i wd.toNat with hi | hi
      · exact opts_byte hS hC a (2 * wd.toNat) i T (by rwa [getD_take hi] at h)
      · rw [List.getD_eq_getElem?_getD, List.getElem?_eq_none (by rw [List.length_take]; omega)] at h
        cases h
  · simp
theorem tkB_byte {S : List Sec} {C : List Pnd} (hS : ∀ s ∈ S, ∀ z ∈ s.2, isByte z) (hC : ∀ p ∈ C, ∀ z ∈ p.2, isByte z) (a : Int) : ∀ z ∈ tkB S C a, isByte z := by
  unfold tkB
  split
  · exact txB_byte (crB_byte hS hC a 2)
  · intro z hz
    rw [(List.mem_replicate.1 hz).2]
    exact ⟨by decide, by decide⟩
theorem taE_zero {P T A M W Q : Int} {S : List Sec} {C : List Pnd} {p n : Int} (h : taE P T A M W Q S C p n = 0) : mayT P T A M W Q S C ∧ isT P T p n := by
  unfold taE at h
  split at h
  · rename_i h1
    split at h
    · rename_i h2; exact ⟨h1, h2⟩
    · cases h
  · cases h
/-- Where a track's cell stands. -/
theorem at_in {P T A M W Q : Int} (h : mayC P T A M W Q) {p n : Int} (hp : isT P T p n) : 6 ≤ atT P T A p n ∧ atT P T A p n + 4 ≤ fE P T A ∧ fE P T A ≤ 264 := by
  obtain ⟨h0, h1, h2, h3⟩ := hp
  obtain ⟨b1, b2, b3, b4, b5, b6, b7⟩ := bounds_may h
  have hle := fE_le h
  obtain ⟨c1, c2, c3, c4, c5, c6, c7⟩ := h
  have m1 := mul3 h0 (by omega) T
  have m2 := mul3 (a := P) (by omega) (by omega) T
  unfold atT fE fT at *
  omega
theorem at_off {P T A M W Q : Int} (h : mayC P T A M W Q) {p n p' n' : Int} (hp : isT P T p n) (hp' : isT P T p' n') (hne : p ≠ p' ∨ n ≠ n') : atT P T A p n + 4 ≤ atT P T A p' n' ∨ atT P T A p' n' + 4 ≤ atT P T A p n := by
  obtain ⟨h0, h1, h2, h3⟩ := hp
  obtain ⟨k0, k1, k2, k3⟩ := hp'
  obtain ⟨c1, c2, c3, c4, c5, c6, c7⟩ := h
  have m1 := mul3 h0 (by omega) T
  have m2 := mul3 k0 (by omega) T
  unfold atT
  omega
theorem cell_at {P T A M W Q : Int} {S : List Sec} {C : List Pnd} (h : mayT P T A M W Q S C) {p n : Int} (hp : isT P T p n) : cellE S C (atT P T A p n) 2 = 0 := by
  obtain ⟨h1, h2, h3⟩ := h
  have := at_in h1 hp
  unfold cellE
  rw [if_pos h2, if_pos (by omega)]
/-- What a track has hangs on what is read of its four sectors alone. -/
theorem tk_like {S S' : List Sec} {C C' : List Pnd} {a : Int} (h : cellE S C a 2 = 0) (h' : cellE S' C' a 2 = 0) (ho : ∀ i : Nat, i < 4 → optAt S' C' (a + (i : Int)) = optAt S C (a + (i : Int))) : tkE S' C' a = tkE S C a ∧ tkB S' C' a = tkB S C a := by
  obtain ⟨_, a', m, rfl, e2, _, _, _⟩ := cellE_zero h
  have e : optsOf S' C' a' (2 * 2) = optsOf S C a' (2 * 2) := by
    unfold optsOf
    refine List.map_congr_left fun i hi => ho i ?_
    have := List.mem_range.1 hi
    omega
  obtain ⟨r1, _, r3⟩ := cr_same (a := a') (m := 2) h h' (by rw [e]) (by rw [e])
  unfold tkE tkB
  rw [show ((2 : Nat) : Int) = 2 from rfl] at r1 r3
  rw [r1, r3]
  exact ⟨rfl, rfl⟩
theorem cpL_as {S : List Sec} {C : List Pnd} {a : Int} {t : Txt} (h : cpE S C a 2 t = 0) : ∃ f : Int, (f = 0 ∨ f = 1) ∧ ∀ k : Nat, k ≤ 2 → (cpL S C a 2 t).take k = writesP (a + f * 2) (cpT S C a 2 t) k := by
  refine ⟨_, hF_two (Int.toNat 2) (optsOf S C a (2 * Int.toNat 2)), fun k hk => ?_⟩
  unfold cpL
  rw [if_pos h]
  exact take_writes _ _ hk
theorem twE_zero {P T A M W Q : Int} {S : List Sec} {C : List Pnd} {p n : Int} {b : Txt} (h : twE P T A M W Q S C p n b = 0) : taE P T A M W Q S C p n = 0 ∧ b.length = 28 ∧ cwE S C (atT P T A p n) 2 (sealed b) = 0 := by
  unfold twE at h
  split at h
  · rename_i h1
    split at h
    · rename_i h2; exact ⟨h1, h2, h⟩
    · cases h
  · rename_i h1; exact absurd h h1
theorem tpE_zero {P T A M W Q : Int} {S : List Sec} {C : List Pnd} {p n : Int} {b : Txt} (h : tpE P T A M W Q S C p n b = 0) : taE P T A M W Q S C p n = 0 ∧ b.length = 28 ∧ cpE S C (atT P T A p n) 2 (sealed b) = 0 := by
  unfold tpE at h
  split at h
  · rename_i h1
    split at h
    · rename_i h2; exact ⟨h1, h2, h⟩
    · cases h
  · rename_i h1; exact absurd h h1
theorem tk_sealed {S : List Sec} {C : List Pnd} {a : Int} {b : Txt} (h1 : crE S C a 2 = 0) (h2 : crB S C a 2 = sealed b) (hb : ∀ z ∈ b, isByte z) (hl : b.length = 28) : tkE S C a = 0 ∧ tkB S C a = b := by
  have e1 := opE_sealed hb (by omega)
  have e2 := opB_sealed hb (by omega)
  have e3 : txE (sealed b) = 0 := by unfold txE; rw [if_pos ⟨e1, by rw [e2, hl]⟩]
  unfold tkE tkB
  rw [if_pos h1, if_pos h1, h2]
  refine ⟨e3, ?_⟩
  unfold txB
  rw [if_pos e3, e2]
/-- P8.4: what was written is read; all other tracks stay. -/
theorem trk_back {P T A M W Q : Int} {S : List Sec} {C : List Pnd} {p n : Int} {b : Txt} (h : twE P T A M W Q S C p n b = 0) (hb : ∀ z ∈ b, isByte z) (hS : ∀ s ∈ S, ∀ z ∈ s.2, isByte z) (hC : ∀ p ∈ C, ∀ z ∈ p.2, isByte z) :
    trE P T A M W Q S (C ++ cpL S C (atT P T A p n) 2 (sealed b)) p n = 0 ∧ trB P T A M W Q S (C ++ cpL S C (atT P T A p n) 2 (sealed b)) p n = b ∧
    ∀ p' n', p ≠ p' ∨ n ≠ n' → trE P T A M W Q S (C ++ cpL S C (atT P T A p n) 2 (sealed b)) p' n' = trE P T A M W Q S C p' n' ∧ trB P T A M W Q S (C ++ cpL S C (atT P T A p n) 2 (sealed b)) p' n' = trB P T A M W Q S C p' n' := by
  obtain ⟨ha, hl, hw⟩ := twE_zero h
  obtain ⟨hm, hi⟩ := taE_zero ha
  obtain ⟨r1, r2, _⟩ := back hw (sealed_byte hb) hS hC
  obtain ⟨hp, h64⟩ := cwE_zero hw
  obtain ⟨hLl, _, _, hmay, hgood⟩ := cpL_good hp (sealed_byte hb)
  have hmay' : mayD S (C ++ cpL S C (atT P T A p n) 2 (sealed b)) = true := by
    have := may_more hmay hgood (Nat.le_refl _) h64
    rwa [List.take_length] at this
  have hm' : mayT P T A M W Q S (C ++ cpL S C (atT P T A p n) 2 (sealed b)) := ⟨hm.1, hmay', hm.2.2⟩
  have hta : ∀ p' n', taE P T A M W Q S (C ++ cpL S C (atT P T A p n) 2 (sealed b)) p' n' = taE P T A M W Q S C p' n' := fun p' n' => by
    unfold taE
    rw [if_pos hm', if_pos hm]
  obtain ⟨t1, t2⟩ := tk_sealed r1 r2 hb hl
  refine ⟨?_, ?_, fun p' n' hne => ?_⟩
  · unfold trE; rw [hta, if_pos ha, t1]
  · unfold trB; rw [hta, if_pos ha, t2]
  · unfold trE trB
    rw [hta]
    by_cases h0 : taE P T A M W Q S C p' n' = 0
    · rw [if_pos h0, if_pos h0, if_pos h0, if_pos h0]
      obtain ⟨_, hi'⟩ := taE_zero h0
      have b1 := at_in hm.1 hi
      have b2 := at_in hm.1 hi'
      have b3 := at_off hm.1 hi hi' hne
      obtain ⟨f, hf, hk⟩ := cpL_as hp
      have hk2 := hk 2 (Nat.le_refl _)
      rw [List.take_of_length_le (by rw [hLl]; decide)] at hk2
      refine tk_like (cell_at hm hi') (cell_at hm' hi') fun i hi4 => ?_
      rw [hk2] at hmay' ⊢
      rw [optAt_writes hmay hmay' (by omega) (by rw [hm.2.2]; omega), if_neg (by rcases hf with rfl | rfl <;> omega)]
    · rw [if_neg h0, if_neg h0, if_neg h0, if_neg h0]
      exact ⟨rfl, rfl⟩
/-- P8.4: behind a crash a track of which alone some writes were in the cache has what it had, or what was written. -/
theorem trk_crash {P T A M W Q : Int} {S : List Sec} {p n : Int} {b : Txt} (h : tpE P T A M W Q S [] p n b = 0) (hb : ∀ z ∈ b, isByte z) (hS : ∀ s ∈ S, ∀ z ∈ s.2, isByte z) {k : Nat} (hk : k ≤ 2) (F : List Int) :
    mayD S ((cpL S [] (atT P T A p n) 2 (sealed b)).take k) = true ∧
    ((trE P T A M W Q (crS S ((cpL S [] (atT P T A p n) 2 (sealed b)).take k) F) [] p n = trE P T A M W Q S [] p n ∧ trB P T A M W Q (crS S ((cpL S [] (atT P T A p n) 2 (sealed b)).take k) F) [] p n = trB P T A M W Q S [] p n) ∨
      (trE P T A M W Q (crS S ((cpL S [] (atT P T A p n) 2 (sealed b)).take k) F) [] p n = 0 ∧ trB P T A M W Q (crS S ((cpL S [] (atT P T A p n) 2 (sealed b)).take k) F) [] p n = b)) ∧
    ∀ p' n', p ≠ p' ∨ n ≠ n' → trE P T A M W Q (crS S ((cpL S [] (atT P T A p n) 2 (sealed b)).take k) F) [] p' n' = trE P T A M W Q S [] p' n' ∧ trB P T A M W Q (crS S ((cpL S [] (atT P T A p n) 2 (sealed b)).take k) F) [] p' n' = trB P T A M W Q S [] p' n' := by
  obtain ⟨ha, hl, hp⟩ := tpE_zero h
  obtain ⟨hm, hi⟩ := taE_zero ha
  have hcE := (cpE_zero hp).1
  have b1 := at_in hm.1 hi
  obtain ⟨x, hx⟩ : ∃ x : Nat, (x : Int) = atT P T A p n := ⟨(atT P T A p n).toNat, by omega⟩
  rw [← hx] at hp hcE ⊢
  obtain ⟨hmay', _, hcr⟩ := crash_tells (m := 2) hp (sealed_byte hb) hS (fun _ h => absurd h (by simp)) hk (by simp; omega) F
  simp only [List.nil_append, show ((2 : Nat) : Int) = 2 from rfl] at hmay' hcr
  obtain ⟨hcm, hcl⟩ := cr_may hmay' F
  have hm' : mayT P T A M W Q (crS S ((cpL S [] (x : Int) 2 (sealed b)).take k) F) [] := ⟨hm.1, hcm, by rw [hcl]; exact hm.2.2⟩
  have hta : ∀ p' n', taE P T A M W Q (crS S ((cpL S [] (x : Int) 2 (sealed b)).take k) F) [] p' n' = taE P T A M W Q S [] p' n' := fun p' n' => by
    unfold taE
    rw [if_pos hm', if_pos hm]
  refine ⟨hmay', ?_, fun p' n' hne => ?_⟩
  · unfold trE trB
    rw [hta, if_pos ha, if_pos ha, if_pos ha, if_pos ha, ← hx]
    rcases hcr with ⟨e1, _, e3⟩ | ⟨e1, e3, _⟩
    · left
      unfold tkE tkB
      rw [e1, e3]
      exact ⟨rfl, rfl⟩
    · exact .inr (tk_sealed e1 e3 hb hl)
  · unfold trE trB
    rw [hta]
    by_cases h0 : taE P T A M W Q S [] p' n' = 0
    · rw [if_pos h0, if_pos h0, if_pos h0, if_pos h0]
      obtain ⟨_, hi'⟩ := taE_zero h0
      have b2 := at_in hm.1 hi'
      have b3 := at_off hm.1 hi hi' hne
      obtain ⟨f, hf, hkk⟩ := cpL_as hp
      have hk2 := hkk k hk
      refine tk_like (cell_at hm hi') (cell_at hm' hi') fun i hi4 => ?_
      rw [hk2] at hmay' ⊢
      rcases optAt_crash (C := []) hm.2.1 hmay' F (a := atT P T A p' n' + (i : Int)) (by omega) (by rw [hm.2.2]; omega) rfl with h1 | ⟨h1, h2, _⟩
      · exact h1
      · rcases hf with rfl | rfl <;> omega
    · rw [if_neg h0, if_neg h0, if_neg h0, if_neg h0]
      exact ⟨rfl, rfl⟩

end Go.Proofs.Ytiibmlbenamgcaa
