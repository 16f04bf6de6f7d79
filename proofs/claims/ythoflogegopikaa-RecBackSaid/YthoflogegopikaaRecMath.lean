/- Layer 11: what the calls answer, in plain words, and what follows: records, notes and tables as lists. Nothing of the program. -/
import Derived.Test.YthoflogegopikaaNumW
import Derived.Test.YthoflogegopikaaDiskQ
namespace Go.Proofs.Ythoflogegopikaa
set_option linter.unusedVariables false

/-- A record: Pair, Born, Epoch, Lead, Phase, From, Quick, Alone. -/
structure Rc where
  p : Int
  b : Int
  e : Int
  l : Int
  h : Int
  f : Int
  q : Bool
  a : Bool
theorem Rc.eq_iff (r s : Rc) : r = s ↔ r.p = s.p ∧ r.b = s.b ∧ r.e = s.e ∧ r.l = s.l ∧ r.h = s.h ∧ r.f = s.f ∧ r.q = s.q ∧ r.a = s.a := by
  cases r; cases s
  simp
instance : DecidableEq Rc := fun r s => decidable_of_iff _ (Rc.eq_iff r s).symm
def zR : Rc := ⟨0, 0, 0, 0, 0, 0, false, false⟩
instance : Inhabited Rc := ⟨zR⟩
/-- What a record's numbers are by their types. -/
def isR (r : Rc) : Prop := (0 ≤ r.b ∧ r.b < 4294967296) ∧ (0 ≤ r.e ∧ r.e < 4294967296) ∧ (0 ≤ r.h ∧ r.h < 256)
/-- May a record be? -/
def mayR (r : Rc) : Prop := (0 ≤ r.p ∧ r.p < 3 ∧ 1 ≤ r.b ∧ 1 ≤ r.e ∧ 0 ≤ r.l ∧ r.l ≤ 1 ∧ 0 ≤ r.f ∧ r.f ≤ 1) ∧ (1 ≤ r.h ∧ r.h ≤ 3) ∧ (r.h = 1 ∨ r.f = r.l) ∧ (r.q = false ∨ (r.h = 1 ∧ r.f ≠ r.l))
instance (r : Rc) : Decidable (mayR r) := by unfold mayR; infer_instance
def rcE (r : Rc) : Int := if mayR r then 0 else 110
def flagR (r : Rc) : Int := (if r.q then 2 else 0) + (if r.a then 1 else 0)
def sz8R : List Int := [1, 1, 4, 4, 1, 1, 1, 1]
def numsR (r : Rc) : List Int := [1, r.p, r.b, r.e, r.l, r.h, r.f, flagR r]
/-- A record's note. -/
def recT (r : Rc) : Txt := rowTo (numsR r) sz8R 8
def ntB (r : Rc) : Txt := if mayR r then recT r else []
/-- The note that a pair's record is gone. -/
def goneT (p : Int) : Txt := [2, p]
def goE (p : Int) : Int := if 0 ≤ p ∧ p < 3 then 0 else 2
def goB (p : Int) : Txt := if goE p = 0 then goneT p else []
/-- What a text of 14 bytes tells. -/
def rawR (t : Txt) : Rc := ⟨t.getD 1 0, val ((t.drop 2).take 4), val ((t.drop 6).take 4), t.getD 10 0, t.getD 11 0, t.getD 12 0, decide (2 ≤ t.getD 13 0), decide (t.getD 13 0 % 2 = 1)⟩
/-- Is a text a record's note? -/
def isN (t : Txt) : Prop := t.length = 14 ∧ t.getD 0 0 = 1 ∧ t.getD 13 0 ≤ 3 ∧ mayR (rawR t)
instance (t : Txt) : Decidable (isN t) := by unfold isN; infer_instance
/-- Is a text the note that a pair's record is gone? -/
def isGo (t : Txt) : Prop := t.length = 2 ∧ t.getD 0 0 = 2 ∧ t.getD 1 0 < 3
instance (t : Txt) : Decidable (isGo t) := by unfold isGo; infer_instance
def mayTab : List Rc → Prop
  | [] => True
  | [r] => mayR r
  | r :: s :: l => mayR r ∧ r.p < s.p ∧ mayTab (s :: l)
instance decTab : (l : List Rc) → Decidable (mayTab l)
  | [] => isTrue trivial
  | [r] => by unfold mayTab; infer_instance
  | r :: s :: l => by
    unfold mayTab
    have := decTab (s :: l)
    infer_instance
def outR (t : List Rc) (p : Int) : List Rc := t.filter fun r => r.p != p
/-- A table with a record, by pairs. -/
def atR (t : List Rc) (r : Rc) (p : Int) : List Rc := if p = r.p then [r] else (t.find? fun s => s.p == p).toList
def withR (t : List Rc) (r : Rc) : List Rc := atR t r 0 ++ (atR t r 1 ++ atR t r 2)
/-- One note put into a table that may be. -/
def putN (t : List Rc) (b : Txt) : Option (List Rc) := if isGo b then some (outR t (b.getD 1 0)) else if isN b then some (withR t (rawR b)) else none
def putR (t : List Rc) (b : Txt) : Option (List Rc) := if mayTab t then putN t b else none
def tabTo (t : List Rc) : List Txt → Option (List Rc)
  | [] => some t
  | b :: l => (putR t b).bind fun x => tabTo x l
def tabR (l : List Txt) : Option (List Rc) := tabTo [] l
/-- A table's answer: its records, and its error. -/
def ansL : Option (List Rc) → List Rc
  | none => []
  | some t => t
def ansE : Option (List Rc) → Int
  | none => 110
  | some _ => 0
def rnE (t : List Rc) : Int := if mayTab t then 0 else 110
def rnL (t : List Rc) : List Txt := if mayTab t then t.map recT else []
def fdO (t : List Rc) (p : Int) : Option Rc := if mayTab t then t.find? (fun s => s.p == p) else none
def fdR (t : List Rc) (p : Int) : Rc := (fdO t p).getD zR
def fdB (t : List Rc) (p : Int) : Bool := (fdO t p).isSome

theorem okB_sz8R : okB sz8R = true := by decide
theorem at_sz8R : atTo sz8R 8 = 14 := by decide
theorem recT_eq (r : Rc) : recT r = [1, r.p % 256] ++ (digs 4 r.b ++ (digs 4 r.e ++ [r.l % 256, r.h % 256, r.f % 256, flagR r % 256])) := by
  have h : recT r = ((((((([] ++ digs 1 1) ++ digs 1 r.p) ++ digs 4 r.b) ++ digs 4 r.e) ++ digs 1 r.l) ++ digs 1 r.h) ++ digs 1 r.f) ++ digs 1 (flagR r) := rfl
  rw [h]
  simp [digs]
theorem recT_length (r : Rc) : (recT r).length = 14 := by rw [recT_eq]; simp [digs_length]
theorem recT_byte (r : Rc) : ∀ z ∈ recT r, isByte z := rowTo_byte _ _ _
theorem flagR_le (r : Rc) : 0 ≤ flagR r ∧ flagR r ≤ 3 := by unfold flagR; split <;> split <;> omega
theorem val_of4 {v : Int} (h : 0 ≤ v ∧ v < 4294967296) : val (digs 4 v) = v := val_digs _ _ h.1 (Int.ediv_eq_zero_of_lt h.1 (by rw [show (256 : Int) ^ 4 = 4294967296 by decide]; exact h.2))
theorem fits8R {r : Rc} (hi : isR r) (hm : mayR r) : fitsTo (numsR r) sz8R 8 = true := by
  obtain ⟨hb, he, hh⟩ := hi
  obtain ⟨⟨m1, m2, m3, m4, m5, m6, m7, m8⟩, _⟩ := hm
  have hfl := flagR_le r
  have d1 : r.p / 256 ^ 1 = 0 := Int.ediv_eq_zero_of_lt m1 (by omega)
  have d2 : r.b / 256 ^ 4 = 0 := Int.ediv_eq_zero_of_lt hb.1 (by rw [show (256 : Int) ^ 4 = 4294967296 by decide]; exact hb.2)
  have d3 : r.e / 256 ^ 4 = 0 := Int.ediv_eq_zero_of_lt he.1 (by rw [show (256 : Int) ^ 4 = 4294967296 by decide]; exact he.2)
  have d4 : r.l / 256 ^ 1 = 0 := Int.ediv_eq_zero_of_lt m5 (by omega)
  have d5 : r.h / 256 ^ 1 = 0 := Int.ediv_eq_zero_of_lt hh.1 (by omega)
  have d6 : r.f / 256 ^ 1 = 0 := Int.ediv_eq_zero_of_lt m7 (by omega)
  have d7 : flagR r / 256 ^ 1 = 0 := Int.ediv_eq_zero_of_lt hfl.1 (by omega)
  show ((((((((true && decide ((1 : Int) / 256 ^ 1 = 0)) && decide (r.p / 256 ^ 1 = 0)) && decide (r.b / 256 ^ 4 = 0)) && decide (r.e / 256 ^ 4 = 0)) && decide (r.l / 256 ^ 1 = 0)) && decide (r.h / 256 ^ 1 = 0)) && decide (r.f / 256 ^ 1 = 0)) && decide (flagR r / 256 ^ 1 = 0)) = true
  rw [d1, d2, d3, d4, d5, d6, d7]
  decide
/-- A note tells its record. -/
theorem raw_recT {r : Rc} (hi : isR r) (hm : mayR r) : rawR (recT r) = r ∧ isN (recT r) := by
  obtain ⟨hb, he, hh⟩ := hi
  have hm' := hm
  obtain ⟨⟨m1, m2, m3, m4, m5, m6, m7, m8⟩, _⟩ := hm
  have hfl := flagR_le r
  have l4 : ∀ v : Int, (digs 4 v).length = 4 := fun v => digs_length _ _
  have hT := recT_eq r
  obtain ⟨x, hx⟩ : ∃ x, x = digs 4 r.b := ⟨_, rfl⟩
  obtain ⟨y, hy⟩ : ∃ y, y = digs 4 r.e := ⟨_, rfl⟩
  have lx : x.length = 4 := by rw [hx]; exact l4 _
  have ly : y.length = 4 := by rw [hy]; exact l4 _
  have vx : val x = r.b := by rw [hx]; exact val_of4 hb
  have vy : val y = r.e := by rw [hy]; exact val_of4 he
  rw [← hx, ← hy] at hT
  match x, lx with
  | [x0, x1, x2, x3], _ =>
    match y, ly with
    | [y0, y1, y2, y3], _ =>
      have hr : rawR (recT r) = r := by
        rw [hT]
        rw [Rc.eq_iff]
        refine ⟨?_, vx, vy, ?_, ?_, ?_, ?_, ?_⟩
        · show r.p % 256 = r.p; omega
        · show r.l % 256 = r.l; omega
        · show r.h % 256 = r.h; omega
        · show r.f % 256 = r.f; omega
        · show decide (2 ≤ flagR r % 256) = r.q
          unfold flagR
          cases r.q <;> cases r.a <;> decide
        · show decide (flagR r % 256 % 2 = 1) = r.a
          unfold flagR
          cases r.q <;> cases r.a <;> decide
      refine ⟨hr, recT_length r, ?_, ?_, by rw [hr]; exact hm'⟩
      · rw [hT]; rfl
      · rw [hT]
        show flagR r % 256 ≤ 3
        omega
theorem recT_inj {r s : Rc} (hr : isR r) (hmr : mayR r) (hs : isR s) (hms : mayR s) (h : recT r = recT s) : r = s := by
  rw [← (raw_recT hr hmr).1, ← (raw_recT hs hms).1, h]
theorem not_go {b : Txt} (h : isN b) : ¬ isGo b := fun k => by have := h.1; have := k.1; omega
theorem raw_is {t : Txt} (ht : t.length = 14) (hb : ∀ z ∈ t, isByte z) : isR (rawR t) := by
  have h1 := val_bounds ((t.drop 2).take 4) fun z hz => hb z (List.mem_of_mem_drop (List.mem_of_mem_take hz))
  have h2 := val_bounds ((t.drop 6).take 4) fun z hz => hb z (List.mem_of_mem_drop (List.mem_of_mem_take hz))
  rw [List.length_take, List.length_drop, ht] at h1 h2
  have p1 : (256 : Int) ^ (min 4 (14 - 2)) = 4294967296 := by decide
  have p2 : (256 : Int) ^ (min 4 (14 - 6)) = 4294967296 := by decide
  rw [p1] at h1
  rw [p2] at h2
  have h3 : isByte (t.getD 11 0) := by
    rw [List.getD_eq_getElem?_getD, List.getElem?_eq_getElem (show 11 < t.length by omega)]
    exact hb _ (List.getElem_mem _)
  exact ⟨h1, h2, h3⟩

abbrev fR (t : List Rc) (p : Int) : Option Rc := t.find? fun s => s.p == p
theorem mayTab_iff (t : List Rc) : mayTab t ↔ (∀ r ∈ t, mayR r) ∧ t.Pairwise fun r s => r.p < s.p := by
  induction t with
  | nil => simp [mayTab]
  | cons r t ih =>
    cases t with
    | nil => simp [mayTab]
    | cons s l =>
      show (mayR r ∧ r.p < s.p ∧ mayTab (s :: l)) ↔ _
      rw [ih, List.pairwise_cons (a := r)]
      constructor
      · rintro ⟨h1, h2, h3, h4⟩
        refine ⟨fun x hx => ?_, fun x hx => ?_, h4⟩
        · rcases List.mem_cons.1 hx with rfl | hx
          · exact h1
          · exact h3 x hx
        · rcases List.mem_cons.1 hx with rfl | hx
          · exact h2
          · have := (List.pairwise_cons.1 h4).1 x hx
            omega
      · rintro ⟨h1, h2, h3⟩
        exact ⟨h1 r (List.mem_cons_self ..), h2 s (List.mem_cons_self ..), fun x hx => h1 x (List.mem_cons_of_mem _ hx), h3⟩
theorem fR_some {t : List Rc} {p : Int} {r : Rc} (h : fR t p = some r) : r ∈ t ∧ r.p = p := ⟨List.mem_of_find?_eq_some h, by simpa using List.find?_some h⟩
theorem tab_ext {t s : List Rc} (ht : t.Pairwise fun r s => r.p < s.p) (hs : s.Pairwise fun r s => r.p < s.p) (h : ∀ p, fR t p = fR s p) : t = s := by
  induction t generalizing s with
  | nil =>
    cases s with
    | nil => rfl
    | cons u s =>
      have := h u.p
      simp at this
  | cons r t ih =>
    cases s with
    | nil =>
      have := h r.p
      simp at this
    | cons u s =>
      obtain ⟨t1, t2⟩ := List.pairwise_cons.1 ht
      obtain ⟨s1, s2⟩ := List.pairwise_cons.1 hs
      have e1 : fR (r :: t) r.p = some r := by simp
      have e2 : fR (u :: s) u.p = some u := by simp
      have hp : r.p = u.p := by
        rw [h] at e1
        rw [← h] at e2
        rcases List.mem_cons.1 (fR_some e1).1 with k | k
        · rw [k]
        · rcases List.mem_cons.1 (fR_some e2).1 with k' | k'
          · rw [k']
          · have a := s1 _ k
            have b := t1 _ k'
            omega
      have hru : r = u := by
        have := h r.p
        rw [e1, hp, e2] at this
        injection this
      subst hru
      congr 1
      refine ih t2 s2 fun p => ?_
      by_cases hpp : p = r.p
      · have n1 : fR t p = none := List.find?_eq_none.2 fun x hx => by have := t1 x hx; simp; omega
        have n2 : fR s p = none := List.find?_eq_none.2 fun x hx => by have := s1 x hx; simp; omega
        rw [n1, n2]
      · have := h p
        simpa [Ne.symm hpp] using this
def ofF (g : Int → Option Rc) : List Rc := (g 0).toList ++ ((g 1).toList ++ (g 2).toList)
def good (g : Int → Option Rc) : Prop := ∀ p r, g p = some r → r.p = p ∧ mayR r
theorem ofF_may {g : Int → Option Rc} (hg : good g) : mayTab (ofF g) := by
  have h0 := hg 0
  have h1 := hg 1
  have h2 := hg 2
  unfold ofF
  cases e0 : g 0 <;> cases e1 : g 1 <;> cases e2 : g 2 <;> simp [e0, e1, e2] at h0 h1 h2 <;> simp [mayTab, h0, h1, h2]
theorem ofF_find {g : Int → Option Rc} (hg : good g) (p : Int) : fR (ofF g) p = g p := by
  have h0 := hg 0
  have h1 := hg 1
  have h2 := hg 2
  by_cases k : p = 0 ∨ p = 1 ∨ p = 2
  · unfold ofF fR
    rcases k with rfl | rfl | rfl <;> cases e0 : g 0 <;> cases e1 : g 1 <;> cases e2 : g 2 <;> simp [e0, e1, e2] at h0 h1 h2 <;> simp [h0, h1, h2]
  · have hn : g p = none := by
      cases e : g p with
      | none => rfl
      | some r =>
        obtain ⟨a, b⟩ := hg p r e
        obtain ⟨⟨b1, b2, _⟩, _⟩ := b
        omega
    rw [hn]
    refine List.find?_eq_none.2 fun x hx => ?_
    have hx' : x.p = 0 ∨ x.p = 1 ∨ x.p = 2 := by
      unfold ofF at hx
      rcases List.mem_append.1 hx with hx | hx
      · exact .inl (h0 x (by simpa using hx)).1
      · rcases List.mem_append.1 hx with hx | hx
        · exact .inr (.inl (h1 x (by simpa using hx)).1)
        · exact .inr (.inr (h2 x (by simpa using hx)).1)
    simp
    omega
theorem find_good {t : List Rc} (ht : mayTab t) : good (fR t) := fun p r h => ⟨(fR_some h).2, ((mayTab_iff t).1 ht).1 r (fR_some h).1⟩
theorem with_is (t : List Rc) (r : Rc) : withR t r = ofF fun p => if p = r.p then some r else fR t p := by
  have h : ∀ p, atR t r p = (if p = r.p then some r else fR t p).toList := fun p => by unfold atR; split <;> rfl
  unfold withR ofF
  rw [h, h, h]
theorem with_good {t : List Rc} (ht : mayTab t) {r : Rc} (hr : mayR r) : good fun p => if p = r.p then some r else fR t p := fun p s h => by
  dsimp only at h
  split at h
  · injection h with h
    subst h
    exact ⟨by omega, hr⟩
  · exact find_good ht p s h
theorem with_may {t : List Rc} (ht : mayTab t) {r : Rc} (hr : mayR r) : mayTab (withR t r) := by rw [with_is]; exact ofF_may (with_good ht hr)
theorem with_find {t : List Rc} (ht : mayTab t) {r : Rc} (hr : mayR r) (p : Int) : fR (withR t r) p = if p = r.p then some r else fR t p := by rw [with_is]; exact ofF_find (with_good ht hr) p
theorem out_may {t : List Rc} (ht : mayTab t) (p : Int) : mayTab (outR t p) := by
  rw [mayTab_iff] at ht ⊢
  exact ⟨fun r hr => ht.1 r ((List.mem_filter.1 hr).1), ht.2.filter _⟩
theorem out_find (t : List Rc) (p k : Int) : fR (outR t p) k = if k = p then none else fR t k := by
  unfold outR fR
  rw [List.find?_filter]
  split
  · rename_i h
    subst h
    refine List.find?_eq_none.2 fun x _ => ?_
    simp
  · rename_i h
    congr 1
    funext x
    by_cases hx : x.p = k
    · simp [hx, h]
    · simp [hx]
theorem with_snoc {t : List Rc} {r : Rc} (h : mayTab (t ++ [r])) : withR t r = t ++ [r] := by
  have h' := (mayTab_iff _).1 h
  obtain ⟨h1, h2⟩ := h'
  obtain ⟨p1, p2, p3⟩ := List.pairwise_append.1 h2
  have ht : mayTab t := (mayTab_iff _).2 ⟨fun x hx => h1 x (List.mem_append_left _ hx), p1⟩
  have hr : mayR r := h1 r (List.mem_append_right _ (List.mem_singleton.2 rfl))
  refine tab_ext ((mayTab_iff _).1 (with_may ht hr)).2 h2 fun p => ?_
  rw [with_find ht hr]
  unfold fR
  rw [List.find?_append]
  split
  · rename_i e
    subst e
    have n1 : t.find? (fun s => s.p == r.p) = none := List.find?_eq_none.2 fun x hx => by
      have := p3 x hx r (List.mem_singleton.2 rfl)
      simp
      omega
    rw [n1]
    simp
  · rename_i e
    have n2 : [r].find? (fun s => s.p == p) = none := by simp [Ne.symm e]
    rw [n2, Option.or_none]
theorem put_may {t x : List Rc} {b : Txt} (h : putR t b = some x) : mayTab t ∧ mayTab x := by
  unfold putR at h
  split at h
  · rename_i ht
    refine ⟨ht, ?_⟩
    unfold putN at h
    split at h
    · injection h with h
      subst h
      exact out_may ht _
    · split at h
      · rename_i hn
        injection h with h
        subst h
        exact with_may ht hn.2.2.2
      · cases h
  · cases h
theorem tabTo_app (t : List Rc) (l m : List Txt) : tabTo t (l ++ m) = (tabTo t l).bind fun x => tabTo x m := by
  induction l generalizing t with
  | nil => rfl
  | cons b l ih =>
    show (putR t b).bind _ = ((putR t b).bind _).bind _
    cases putR t b with
    | none => rfl
    | some x => exact ih x
/-- All records of a table are records by their types. -/
def allR (t : List Rc) : Prop := ∀ r ∈ t, isR r
theorem put_all {t x : List Rc} {b : Txt} (h : putR t b = some x) (ha : allR t) (hb : ∀ z ∈ b, isByte z) : allR x := by
  unfold putR at h
  split at h
  · unfold putN at h
    split at h
    · injection h with h
      subst h
      exact fun r hr => ha r ((List.mem_filter.1 hr).1)
    · split at h
      · rename_i hn
        injection h with h
        subst h
        intro s hs
        rw [with_is] at hs
        have hs' : ∃ p, (if p = (rawR b).p then some (rawR b) else fR t p) = some s := by
          unfold ofF at hs
          rcases List.mem_append.1 hs with hs | hs
          · exact ⟨0, by simpa using hs⟩
          · rcases List.mem_append.1 hs with hs | hs
            · exact ⟨1, by simpa using hs⟩
            · exact ⟨2, by simpa using hs⟩
        obtain ⟨p, hp⟩ := hs'
        split at hp
        · injection hp with hp
          subst hp
          exact raw_is hn.1 hb
        · exact ha s (fR_some hp).1
      · cases h
  · cases h
theorem tabTo_may {t x : List Rc} {l : List Txt} (ht : mayTab t) (h : tabTo t l = some x) : mayTab x := by
  induction l generalizing t with
  | nil => injection h with h; subst h; exact ht
  | cons b l ih =>
    have h' : (putR t b).bind (fun x => tabTo x l) = some x := h
    cases hp : putR t b with
    | none => rw [hp] at h'; cases h'
    | some y =>
      rw [hp] at h'
      exact ih (put_may hp).2 h'
theorem tabTo_all {t x : List Rc} {l : List Txt} (ha : allR t) (hb : ∀ b ∈ l, ∀ z ∈ b, isByte z) (h : tabTo t l = some x) : allR x := by
  induction l generalizing t with
  | nil => injection h with h; subst h; exact ha
  | cons b l ih =>
    have h' : (putR t b).bind (fun x => tabTo x l) = some x := h
    cases hp : putR t b with
    | none => rw [hp] at h'; cases h'
    | some y =>
      rw [hp] at h'
      exact ih (put_all hp ha (hb b (List.mem_cons_self ..))) (fun c hc => hb c (List.mem_cons_of_mem _ hc)) h'
/-- To put the note of a record into a table. -/
theorem put_rec {t : List Rc} (ht : mayTab t) {r : Rc} (hi : isR r) (hm : mayR r) : putR t (recT r) = some (withR t r) := by
  obtain ⟨h1, h2⟩ := raw_recT hi hm
  unfold putR putN
  rw [if_pos ht, if_neg (not_go h2), if_pos h2, h1]
theorem tab_notes (s : List Rc) : ∀ t : List Rc, mayTab (t ++ s) → allR s → tabTo t (s.map recT) = some (t ++ s) := by
  induction s with
  | nil => intro t _ _; rw [List.append_nil]; rfl
  | cons r s ih =>
    intro t h ha
    have e : t ++ r :: s = (t ++ [r]) ++ s := by simp
    rw [e] at h ⊢
    have hh := (mayTab_iff _).1 h
    have h1 : mayTab (t ++ [r]) := (mayTab_iff _).2 ⟨fun x hx => hh.1 x (List.mem_append_left _ hx), (List.pairwise_append.1 hh.2).1⟩
    have h2 := (mayTab_iff _).1 h1
    have h3 : mayTab t := (mayTab_iff _).2 ⟨fun x hx => h2.1 x (List.mem_append_left _ hx), (List.pairwise_append.1 h2.2).1⟩
    show (putR t (recT r)).bind (fun x => tabTo x (s.map recT)) = _
    rw [put_rec h3 (ha r (List.mem_cons_self ..)) (h2.1 r (List.mem_append_right _ (List.mem_singleton.2 rfl))), with_snoc h1]
    exact ih _ h fun x hx => ha x (List.mem_cons_of_mem _ hx)
/-- A table is that of its notes. -/
theorem tab_back {x : List Rc} (hx : mayTab x) (ha : allR x) : tabR (x.map recT) = some x := tab_notes x [] (by simpa using hx) ha
end Go.Proofs.Ythoflogegopikaa
