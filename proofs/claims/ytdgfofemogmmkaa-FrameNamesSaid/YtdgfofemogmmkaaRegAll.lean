/- A region that draws its order, by what holds in between: each operation is walked once, from any state in which what it waits for has come; the operations of the tail come last, one by one. No statement is proved here. -/
import Derived.RegionTactic
import Derived.WalkKit
namespace Go.Proofs.Ytdgfofemogmmkaa
open Go.RowKit
set_option linter.unusedVariables false

def lst (listed : Array Bool) (i : Nat) : Bool := listed.getD i false
def depsB (ops : Array Oper) (f : Nat → Bool) (i : Nat) : Bool := ((ops[i]?).map fun o => o.after.all fun e => !Region.binds .any e || f e.on).getD false
/-- One operation, from a state in which what it waits for is listed. -/
def StepJ (P : Program) (ops : Array Oper) (Q : Exit → Act → World → Prop) (J : (Nat → Bool) → Act → World → Prop) (i : Nat) : Prop :=
  match ops[i]? with
  | none => False
  | some o => ∀ (f : Nat → Bool) (a : Act) (w : World), J f a w → f i = false → depsB ops f i = true →
      ∀ K' : Act → World → Prop, (∀ a' w', J (fun j => if j = i then true else f j) a' w' → K' a' w') → if Region.wanted o (yielded ops a.tmps) = true then Oper.wp P o a w K' Q else K' (a.put o.dst undef) w
def StepsJ (P : Program) (ops : Array Oper) (Q : Exit → Act → World → Prop) (J : (Nat → Bool) → Act → World → Prop) : Nat → Prop
  | 0 => True
  | n + 1 => StepsJ P ops Q J n ∧ StepJ P ops Q J n
theorem StepsJ.at_ {P : Program} {ops : Array Oper} {Q : Exit → Act → World → Prop} {J : (Nat → Bool) → Act → World → Prop} : ∀ {n : Nat}, StepsJ P ops Q J n → ∀ {i : Nat}, i < n → StepJ P ops Q J i
  | 0, _, _, hi => absurd hi (Nat.not_lt_zero _)
  | n + 1, h, i, hi => by
    rcases Nat.lt_succ_iff_lt_or_eq.1 hi with hl | rfl
    · exact StepsJ.at_ h.1 hl
    · exact h.2
/-- Is j among what i waits for? -/
def preB (ops : Array Oper) : Nat → Nat → Nat → Bool
  | 0, _, _ => false
  | n + 1, i, j => ((ops[i]?).map fun o => o.after.any fun e => Region.binds .any e && (e.on == j || preB ops n e.on j)).getD false
/-- The operations from st on wait for all ahead of st; and each waits for elder ones alone. -/
def tailB (ops : Array Oper) (st : Nat) : Bool := (List.range ops.size).all fun i => ((decide (i < st)) || (List.range st).all fun j => preB ops ops.size i j) && ((ops[i]?).map fun o => o.after.all fun e => !Region.binds .any e || decide (e.on < i)).getD false
def uptoA (ops : Array Oper) (st : Nat) : Array Bool := ((List.range ops.size).map fun i => decide (i < st)).toArray
theorem pre_listed {ops : Array Oper} {f : Nat → Bool} (hc : ∀ i, f i = true → depsB ops f i = true) : ∀ (n i j : Nat), preB ops n i j = true → depsB ops f i = true → f j = true
  | 0, _, _, h, _ => by cases h
  | n + 1, i, j, h, hd => by
    unfold preB at h
    unfold depsB at hd
    cases ho : ops[i]? with
    | none => rw [ho] at h; cases h
    | some o =>
      rw [ho] at h hd
      simp only [Option.map_some, Option.getD_some, Array.any_eq_true, Bool.and_eq_true, Bool.or_eq_true, beq_iff_eq] at h
      simp only [Option.map_some, Option.getD_some, Array.all_eq_true, Bool.or_eq_true, Bool.not_eq_true'] at hd
      obtain ⟨k, hk, hb, hj⟩ := h
      have hfk : f (o.after[k]).on = true := by
        rcases hd k hk with h1 | h1
        · rw [hb] at h1; cases h1
        · exact h1
      rcases hj with e | hp
      · rw [← e]; exact hfk
      · exact pre_listed hc n _ j hp (hc _ hfk)
theorem deps_mono {ops : Array Oper} {f f' : Nat → Bool} (h : ∀ i, f i = true → f' i = true) {i : Nat} (hd : depsB ops f i = true) : depsB ops f' i = true := by
  unfold depsB at hd ⊢
  cases ho : ops[i]? with
  | none => rw [ho] at hd; cases hd
  | some o =>
    rw [ho] at hd
    simp only [Option.map_some, Option.getD_some, Array.all_eq_true, Bool.or_eq_true, Bool.not_eq_true'] at hd ⊢
    exact fun k hk => (hd k hk).imp id (h _)
theorem ready_iff {ops : Array Oper} {listed : Array Bool} (hs : listed.size = ops.size) {i : Nat} : i ∈ Region.ready .any ops listed ↔ i < ops.size ∧ lst listed i = false ∧ depsB ops (lst listed) i = true := by
  unfold Region.ready lst depsB
  rw [List.mem_filter, List.mem_range, Bool.and_eq_true, Bool.not_eq_true']
  constructor
  · rintro ⟨h1, h2, h3⟩
    refine ⟨h1, ?_, h3⟩
    rw [Array.getD_eq_getD_getElem?, Array.getElem?_eq_getElem (by omega)] at h2 ⊢
    exact h2
  · rintro ⟨h1, h2, h3⟩
    refine ⟨h1, ?_, h3⟩
    rw [Array.getD_eq_getD_getElem?, Array.getElem?_eq_getElem (by omega)] at h2 ⊢
    exact h2
theorem lst_set {listed : Array Bool} {i : Nat} (hi : i < listed.size) : lst (listed.setIfInBounds i true) = fun j => if j = i then true else lst listed j := by
  funext j
  unfold lst
  rw [Array.getD_eq_getD_getElem?, Array.getElem?_setIfInBounds]
  by_cases h : i = j
  · subst h
    rw [if_pos rfl, if_pos hi, if_pos rfl]
    rfl
  · rw [if_neg h, if_neg (fun e => h e.symm), Array.getD_eq_getD_getElem?]
/-- How many of the first st are listed. -/
def cntF (f : Nat → Bool) : Nat → Nat
  | 0 => 0
  | n + 1 => cntF f n + (if f n = true then 1 else 0)
theorem cntF_le (f : Nat → Bool) : ∀ n, cntF f n ≤ n
  | 0 => Nat.le_refl _
  | n + 1 => by
    have := cntF_le f n
    unfold cntF
    split <;> omega
theorem cntF_all {f : Nat → Bool} : ∀ {n : Nat}, (∀ j, j < n → f j = true) → cntF f n = n
  | 0, _ => rfl
  | n + 1, h => by
    unfold cntF
    rw [cntF_all fun j hj => h j (by omega), if_pos (h n (by omega))]
theorem cntF_lt {f : Nat → Bool} : ∀ {n : Nat}, ¬ (∀ j, j < n → f j = true) → cntF f n < n
  | 0, h => absurd (fun j hj => absurd hj (Nat.not_lt_zero _)) h
  | n + 1, h => by
    unfold cntF
    by_cases hn : f n = true
    · rw [if_pos hn]
      have := cntF_lt (n := n) fun hall => h fun j hj => by
        rcases Nat.lt_succ_iff_lt_or_eq.1 hj with hl | rfl
        · exact hall j hl
        · exact hn
      omega
    · rw [if_neg hn]
      have := cntF_le f n
      omega
theorem cntF_set {f : Nat → Bool} {i : Nat} (hf : f i = false) : ∀ {n : Nat}, cntF (fun j => if j = i then true else f j) n = cntF f n + (if i < n then 1 else 0)
  | 0 => rfl
  | n + 1 => by
    unfold cntF
    rw [cntF_set hf]
    by_cases h1 : i < n
    · rw [if_pos h1, if_pos (by omega : i < n + 1), if_neg (by omega : ¬ n = i)]
      omega
    · rw [if_neg h1]
      by_cases h2 : n = i
      · subst h2
        rw [if_pos (by omega : n < n + 1), if_pos rfl, hf]
        simp
      · rw [if_neg (by omega : ¬ i < n + 1), if_neg h2, Nat.add_zero, Nat.add_zero]
theorem least_not {f : Nat → Bool} : ∀ {n : Nat}, ¬ (∀ j, j < n → f j = true) → ∃ j, j < n ∧ f j = false ∧ ∀ k, k < j → f k = true
  | 0, h => absurd (fun j hj => absurd hj (Nat.not_lt_zero _)) h
  | n + 1, h => by
    by_cases hall : ∀ j, j < n → f j = true
    · refine ⟨n, Nat.lt_succ_self n, ?_, hall⟩
      cases hn : f n with
      | false => rfl
      | true => exact absurd (fun j hj => by rcases Nat.lt_succ_iff_lt_or_eq.1 hj with hl | rfl; exact hall j hl; exact hn) h
    · obtain ⟨j, h1, h2, h3⟩ := least_not hall
      exact ⟨j, by omega, h2, h3⟩
theorem upto_of {ops : Array Oper} {listed : Array Bool} {st : Nat} (hs : listed.size = ops.size) (h1 : ∀ j, j < st → lst listed j = true) (h2 : ∀ j, st ≤ j → lst listed j = false) : listed = uptoA ops st := by
  apply Array.ext_getElem?
  intro i
  by_cases hi : i < ops.size
  · have e : lst listed i = listed[i]'(by omega) := by
      unfold lst
      rw [Array.getD_eq_getD_getElem?, Array.getElem?_eq_getElem (by omega)]
      rfl
    have e2 : (uptoA ops st)[i]? = some (decide (i < st)) := by simp [uptoA, hi]
    rw [e2, Array.getElem?_eq_getElem (by omega), ← e]
    by_cases hst : i < st
    · rw [h1 i hst, decide_eq_true hst]
    · rw [h2 i (by omega), decide_eq_false hst]
  · rw [Array.getElem?_eq_none (by omega), Array.getElem?_eq_none (by simp [uptoA]; omega)]
section
variable {P : Program} {ops : Array Oper} {Q : Exit → Act → World → Prop} {J : (Nat → Bool) → Act → World → Prop} {st : Nat}
theorem wpAny_upto' (hst : st ≤ ops.size) (ht : tailB ops st = true) (hsteps : StepsJ P ops Q J st)
    (hgo : ∀ f a w, (∀ j, j < st → f j = true) → J f a w → ∀ fuel, wpAny P .any ops Q (fuel + (ops.size - st)) (uptoA ops st) a w) :
    ∀ (fuel : Nat) (listed : Array Bool) (a : Act) (w : World), listed.size = ops.size → (∀ i, lst listed i = true → depsB ops (lst listed) i = true) → (∀ j, st ≤ j → lst listed j = false) → ops.size ≤ fuel + cntF (lst listed) st → J (lst listed) a w → wpAny P .any ops Q fuel listed a w := by
  intro fuel
  induction fuel with
  | zero =>
    intro listed a w hs hc hno hf hJ
    have hall : ∀ j, j < st → lst listed j = true := Classical.byContradiction fun hn => by
      have := cntF_lt hn
      omega
    have := hgo _ a w hall hJ 0
    have hss : ops.size - st = 0 := by
      have := cntF_le (lst listed) st
      omega
    rw [hss] at this
    rw [upto_of hs hall hno]
    exact this
  | succ fuel ih =>
    intro listed a w hs hc hno hf hJ
    by_cases hall : ∀ j, j < st → lst listed j = true
    · have h1 := hgo _ a w hall hJ (fuel + 1 - (ops.size - st))
      have h2 := cntF_le (lst listed) st
      rw [show fuel + 1 - (ops.size - st) + (ops.size - st) = fuel + 1 by omega] at h1
      rw [upto_of hs hall hno]
      exact h1
    · unfold tailB at ht
      rw [List.all_eq_true] at ht
      refine ⟨fun h0 => ?_, fun i hi => ?_⟩
      · obtain ⟨j, hj, hfj, hlow⟩ := least_not hall
        have h3 := ht j (List.mem_range.2 (by omega))
        rw [Bool.and_eq_true] at h3
        have hd : depsB ops (lst listed) j = true := by
          have h4 := h3.2
          unfold depsB
          cases ho : ops[j]? with
          | none => rw [ho] at h4; cases h4
          | some o =>
            rw [ho] at h4
            simp only [Option.map_some, Option.getD_some, Array.all_eq_true, Bool.or_eq_true, Bool.not_eq_true', decide_eq_true_eq] at h4 ⊢
            exact fun k hk => (h4 k hk).imp id (hlow _)
        have : j ∈ Region.ready .any ops listed := (ready_iff hs).2 ⟨by omega, hfj, hd⟩
        rw [h0] at this
        cases this
      · obtain ⟨h1, h2, h3⟩ := (ready_iff hs).1 hi
        have hist : i < st := by
          rcases Nat.lt_or_ge i st with h | h
          · exact h
          · have h4 := ht i (List.mem_range.2 h1)
            rw [Bool.and_eq_true, decide_eq_false (by omega : ¬ i < st), Bool.false_or, List.all_eq_true] at h4
            exact absurd (fun j hj => pre_listed hc _ i j (h4.1 j (List.mem_range.2 hj)) h3) hall
        have hstep := hsteps.at_ hist
        unfold StepJ at hstep
        cases ho : ops[i]? with
        | none => rw [Array.getElem?_eq_getElem h1] at ho; cases ho
        | some o =>
          rw [ho] at hstep
          refine wpOp_step ho fun K' hK => hstep (lst listed) a w hJ h2 h3 K' fun a' w' hJ' => hK a' w' ?_
          have hl := lst_set (listed := listed) (i := i) (by omega)
          refine ih _ a' w' (by simp [hs]) ?_ ?_ ?_ (by rw [hl]; exact hJ')
          · rw [hl]
            intro k hk
            have mono : ∀ k, lst listed k = true → (if k = i then true else lst listed k) = true := fun k hk => by
              split
              · rfl
              · exact hk
            dsimp only at hk
            split at hk
            · rename_i e
              subst e
              exact deps_mono mono h3
            · exact deps_mono mono (hc k hk)
          · rw [hl]
            intro k hk
            dsimp only
            rw [if_neg (by omega)]
            exact hno k hk
          · rw [hl, cntF_set h2, if_pos hist]
            omega
/-- A region that draws its order: each operation ahead of the tail from any state in which it may come. -/
theorem wp_region_upto {id : Nat} {a : Act} {w : World} (hm : P.follows .mixedOrders = true) (st : Nat) (J : (Nat → Bool) → Act → World → Prop) (hst : st ≤ ops.size) (ht : tailB ops st = true) (h0 : J (fun _ => false) a w.drew) (hsteps : StepsJ P ops Q J st)
    (hgo : ∀ f a w, (∀ j, j < st → f j = true) → J f a w → ∀ fuel, wpAny P .any ops Q (fuel + (ops.size - st)) (uptoA ops st) a w) : (Code.region id ops true).wp P Q a w := by
  have hl : lst (Array.replicate ops.size false) = fun _ => false := by
    funext j
    unfold lst
    rw [Array.getD_eq_getD_getElem?, Array.getElem?_replicate]
    split <;> rfl
  refine wp_region_any hm (wpAny_upto' hst ht hsteps hgo _ _ _ _ (by simp) ?_ ?_ (Nat.le_add_right _ _) (by rw [hl]; exact h0))
  · rw [hl]
    intro i h
    cases h
  · rw [hl]
    intro j _
    rfl
theorem wp_region_upto2 {id : Nat} {a : Act} {w : World} (hm : P.follows .mixedOrders = true) (st : Nat) (J : Act → (Nat → Bool) → Act → World → Prop) (hst : st ≤ ops.size) (ht : tailB ops st = true) (h0 : J a (fun _ => false) a w.drew) (hsteps : StepsJ P ops Q (J a) st)
    (hgo : ∀ f a' w', (∀ j, j < st → f j = true) → J a f a' w' → ∀ fuel, wpAny P .any ops Q (fuel + (ops.size - st)) (uptoA ops st) a' w') : (Code.region id ops true).wp P Q a w := wp_region_upto hm st (J a) hst ht h0 hsteps hgo
/-- What an operation waits for is listed. -/
theorem deps_at {f : Nat → Bool} {i k : Nat} {o : Oper} {e : Edge} (ho : ops[i]? = some o) (he : o.after[k]? = some e) (hb : Region.binds .any e = true) (hd : depsB ops f i = true) : f e.on = true := by
  unfold depsB at hd
  rw [ho] at hd
  simp only [Option.map_some, Option.getD_some, Array.all_eq_true, Bool.or_eq_true, Bool.not_eq_true'] at hd
  obtain ⟨hk, rfl⟩ := Array.getElem?_eq_some_iff.1 he
  rcases hd k hk with h | h
  · rw [hb] at h; cases h
  · exact h
/-- A test of one more. -/
theorem more_of {f : Nat → Bool} {i j : Nat} (hne : j ≠ i) (h : (if j = i then true else f j) = true) : f j = true := by rwa [if_neg hne] at h
/-- A test that isn't yet. -/
theorem less_of {f : Nat → Bool} {i j : Nat} (hne : j ≠ i) (h : (if j = i then true else f j) = false) : f j = false := by rwa [if_neg hne] at h
theorem keep_of {f : Nat → Bool} {i j : Nat} (h : f j = true) : (if j = i then true else f j) = true := by
  split
  · rfl
  · exact h
end
end Go.Proofs.Ytdgfofemogmmkaa
