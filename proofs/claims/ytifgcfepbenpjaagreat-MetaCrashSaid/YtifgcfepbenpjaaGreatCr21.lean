/- Texts of layers 1 to 12, joined. -/
import Derived.Test.YtifgcfepbenpjaaGreatCr20
import Derived.Laws.StructEq
import Derived.Maps.AppendAt
import Derived.Deep.Slices
set_option maxRecDepth 100000
set_option maxHeartbeats 12800000
set_option linter.unusedVariables false
namespace Go.Proofs.YtifgcfepbenpjaaGreat
structure Rc where
 p : Int
 b : Int
 e : Int
 l : Int
 h : Int
 f : Int
 q : Bool
 a : Bool
theorem Rc.eq_iff (r s : Rc) : r = s ↔ r.p = s.p ∧ r.b = s.b ∧ r.e = s.e ∧ r.l = s.l ∧ r.h = s.h ∧ r.f = s.f ∧ r.q = s.q ∧ r.a = s.a := by
 cases r; cases s
 simp
instance : DecidableEq Rc := fun r s => decidable_of_iff _ (Rc.eq_iff r s).symm
def zR : Rc := ⟨0, 0, 0, 0, 0, 0, false, false⟩
instance : Inhabited Rc := ⟨zR⟩
def isR (r : Rc) : Prop := (0 ≤ r.b ∧ r.b < 4294967296) ∧ (0 ≤ r.e ∧ r.e < 4294967296) ∧ (0 ≤ r.h ∧ r.h < 256)
def mayR (r : Rc) : Prop := (0 ≤ r.p ∧ r.p < 3 ∧ 1 ≤ r.b ∧ 1 ≤ r.e ∧ 0 ≤ r.l ∧ r.l ≤ 1 ∧ 0 ≤ r.f ∧ r.f ≤ 1) ∧ (1 ≤ r.h ∧ r.h ≤ 3) ∧ (r.h = 1 ∨ r.f = r.l) ∧ (r.q = false ∨ (r.h = 1 ∧ r.f ≠ r.l))
instance (r : Rc) : Decidable (mayR r) := by unfold mayR; infer_instance
def rcE (r : Rc) : Int := if mayR r then 0 else 110
def flagR (r : Rc) : Int := (if r.q then 2 else 0) + (if r.a then 1 else 0)
def sz8R : List Int := [1, 1, 4, 4, 1, 1, 1, 1]
def numsR (r : Rc) : List Int := [1, r.p, r.b, r.e, r.l, r.h, r.f, flagR r]
def recT (r : Rc) : Txt := rowTo (numsR r) sz8R 8
def ntB (r : Rc) : Txt := if mayR r then recT r else []
def goneT (p : Int) : Txt := [2, p]
def goE (p : Int) : Int := if 0 ≤ p ∧ p < 3 then 0 else 2
def goB (p : Int) : Txt := if goE p = 0 then goneT p else []
def rawR (t : Txt) : Rc := ⟨t.getD 1 0, val ((t.drop 2).take 4), val ((t.drop 6).take 4), t.getD 10 0, t.getD 11 0, t.getD 12 0, decide (2 ≤ t.getD 13 0), decide (t.getD 13 0 % 2 = 1)⟩
def isN (t : Txt) : Prop := t.length = 14 ∧ t.getD 0 0 = 1 ∧ t.getD 13 0 ≤ 3 ∧ mayR (rawR t)
instance (t : Txt) : Decidable (isN t) := by unfold isN; infer_instance
def isGo (t : Txt) : Prop := t.length = 2 ∧ t.getD 0 0 = 2 ∧ t.getD 1 0 < 3
instance (t : Txt) : Decidable (isGo t) := by unfold isGo; infer_instance
def mayTab : List Rc → Prop
 | [] => True
 | [r] => mayR r
 | r :: s :: l => mayR r ∧ r.p < s.p ∧ mayTab (s :: l)
instance decTab : (l : List Rc) → Decidable (mayTab l)
 | [] => isTrue trivial
 | [r] => by unfold mayTab; infer_instance
 | r :: s :: l => by
  unfold mayTab
  have := decTab (s :: l)
  infer_instance
def outR (t : List Rc) (p : Int) : List Rc := t.filter fun r => r.p != p
def atR (t : List Rc) (r : Rc) (p : Int) : List Rc := if p = r.p then [r] else (t.find? fun s => s.p == p).toList
def withR (t : List Rc) (r : Rc) : List Rc := atR t r 0 ++ (atR t r 1 ++ atR t r 2)
def putN (t : List Rc) (b : Txt) : Option (List Rc) := if isGo b then some (outR t (b.getD 1 0)) else if isN b then some (withR t (rawR b)) else none
def putR (t : List Rc) (b : Txt) : Option (List Rc) := if mayTab t then putN t b else none
def tabTo (t : List Rc) : List Txt → Option (List Rc)
 | [] => some t
 | b :: l => (putR t b).bind fun x => tabTo x l
def tabR (l : List Txt) : Option (List Rc) := tabTo [] l
def ansL : Option (List Rc) → List Rc
 | none => []
 | some t => t
def ansE : Option (List Rc) → Int
 | none => 110
 | some _ => 0
def rnE (t : List Rc) : Int := if mayTab t then 0 else 110
def rnL (t : List Rc) : List Txt := if mayTab t then t.map recT else []
theorem okB_sz8R : okB sz8R = true := by decide
theorem at_sz8R : atTo sz8R 8 = 14 := by decide
theorem recT_eq (r : Rc) : recT r = [1, r.p % 256] ++ (digs 4 r.b ++ (digs 4 r.e ++ [r.l % 256, r.h % 256, r.f % 256, flagR r % 256])) := by
 have h : recT r = ((((((([] ++ digs 1 1) ++ digs 1 r.p) ++ digs 4 r.b) ++ digs 4 r.e) ++ digs 1 r.l) ++ digs 1 r.h) ++ digs 1 r.f) ++ digs 1 (flagR r) := rfl
 rw [h]
 simp [digs]
theorem recT_length (r : Rc) : (recT r).length = 14 := by rw [recT_eq]; simp [digs_length]
theorem recT_byte (r : Rc) : ∀ z ∈ recT r, isByte z := rowTo_byte _ _ _
theorem flagR_le (r : Rc) : 0 ≤ flagR r ∧ flagR r ≤ 3 := by unfold flagR; split <;> split <;> omega
theorem val_of4 {v : Int} (h : 0 ≤ v ∧ v < 4294967296) : val (digs 4 v) = v := val_digs _ _ h.1 (Int.ediv_eq_zero_of_lt h.1 (by rw [show (256 : Int) ^ 4 = 4294967296 by decide]; exact h.2))
theorem fits8R {r : Rc} (hi : isR r) (hm : mayR r) : fitsTo (numsR r) sz8R 8 = true := by
 obtain ⟨hb, he, hh⟩ := hi
 obtain ⟨⟨m1, m2, m3, m4, m5, m6, m7, m8⟩, _⟩ := hm
 have hfl := flagR_le r
 have d1 : r.p / 256 ^ 1 = 0 := Int.ediv_eq_zero_of_lt m1 (by omega)
 have d2 : r.b / 256 ^ 4 = 0 := Int.ediv_eq_zero_of_lt hb.1 (by rw [show (256 : Int) ^ 4 = 4294967296 by decide]; exact hb.2)
 have d3 : r.e / 256 ^ 4 = 0 := Int.ediv_eq_zero_of_lt he.1 (by rw [show (256 : Int) ^ 4 = 4294967296 by decide]; exact he.2)
 have d4 : r.l / 256 ^ 1 = 0 := Int.ediv_eq_zero_of_lt m5 (by omega)
 have d5 : r.h / 256 ^ 1 = 0 := Int.ediv_eq_zero_of_lt hh.1 (by omega)
 have d6 : r.f / 256 ^ 1 = 0 := Int.ediv_eq_zero_of_lt m7 (by omega)
 have d7 : flagR r / 256 ^ 1 = 0 := Int.ediv_eq_zero_of_lt hfl.1 (by omega)
 show ((((((((true && decide ((1 : Int) / 256 ^ 1 = 0)) && decide (r.p / 256 ^ 1 = 0)) && decide (r.b / 256 ^ 4 = 0)) && decide (r.e / 256 ^ 4 = 0)) && decide (r.l / 256 ^ 1 = 0)) && decide (r.h / 256 ^ 1 = 0)) && decide (r.f / 256 ^ 1 = 0)) && decide (flagR r / 256 ^ 1 = 0)) = true
 rw [d1, d2, d3, d4, d5, d6, d7]
 decide
theorem raw_recT {r : Rc} (hi : isR r) (hm : mayR r) : rawR (recT r) = r ∧ isN (recT r) := by
 obtain ⟨hb, he, hh⟩ := hi
 have hm' := hm
 obtain ⟨⟨m1, m2, m3, m4, m5, m6, m7, m8⟩, _⟩ := hm
 have hfl := flagR_le r
 have l4 : ∀ v : Int, (digs 4 v).length = 4 := fun v => digs_length _ _
 have hT := recT_eq r
 obtain ⟨x, hx⟩ : ∃ x, x = digs 4 r.b := ⟨_, rfl⟩
 obtain ⟨y, hy⟩ : ∃ y, y = digs 4 r.e := ⟨_, rfl⟩
 have lx : x.length = 4 := by rw [hx]; exact l4 _
 have ly : y.length = 4 := by rw [hy]; exact l4 _
 have vx : val x = r.b := by rw [hx]; exact val_of4 hb
 have vy : val y = r.e := by rw [hy]; exact val_of4 he
 rw [← hx, ← hy] at hT
 match x, lx with
 | [x0, x1, x2, x3], _ =>
  match y, ly with
  | [y0, y1, y2, y3], _ =>
   have hr : rawR (recT r) = r := by
    rw [hT]
    rw [Rc.eq_iff]
    refine ⟨?_, vx, vy, ?_, ?_, ?_, ?_, ?_⟩
    ·show r.p % 256 = r.p; omega
    ·show r.l % 256 = r.l; omega
    ·show r.h % 256 = r.h; omega
    ·show r.f % 256 = r.f; omega
    ·show decide (2 ≤ flagR r % 256) = r.q
     unfold flagR
     cases r.q <;> cases r.a <;> decide
    ·show decide (flagR r % 256 % 2 = 1) = r.a
     unfold flagR
     cases r.q <;> cases r.a <;> decide
   refine ⟨hr, recT_length r, ?_, ?_, by rw [hr]; exact hm'⟩
   ·rw [hT]; rfl
   ·rw [hT]
    show flagR r % 256 ≤ 3
    omega
theorem not_go {b : Txt} (h : isN b) : ¬ isGo b := fun k => by have := h.1; have := k.1; omega
theorem raw_is {t : Txt} (ht : t.length = 14) (hb : ∀ z ∈ t, isByte z) : isR (rawR t) := by
 have h1 := val_bounds ((t.drop 2).take 4) fun z hz => hb z (List.mem_of_mem_drop (List.mem_of_mem_take hz))
 have h2 := val_bounds ((t.drop 6).take 4) fun z hz => hb z (List.mem_of_mem_drop (List.mem_of_mem_take hz))
 rw [List.length_take, List.length_drop, ht] at h1 h2
 have p1 : (256 : Int) ^ (min 4 (14 - 2)) = 4294967296 := by decide
 have p2 : (256 : Int) ^ (min 4 (14 - 6)) = 4294967296 := by decide
 rw [p1] at h1
 rw [p2] at h2
 have h3 : isByte (t.getD 11 0) := by
  rw [gtD, geE (show 11 < t.length by omega)]
  exact hb _ (List.getElem_mem _)
 exact ⟨h1, h2, h3⟩
abbrev fR (t : List Rc) (p : Int) : Option Rc := t.find? fun s => s.p == p
theorem mayTab_iff (t : List Rc) : mayTab t ↔ (∀ r ∈ t, mayR r) ∧ t.Pairwise fun r s => r.p < s.p := by
 induction t with
 | nil => simp [mayTab]
 | cons r t ih =>
  cases t with
  | nil => simp [mayTab]
  | cons s l =>
   show (mayR r ∧ r.p < s.p ∧ mayTab (s :: l)) ↔ _
   rw [ih, List.pairwise_cons (a := r)]
   constructor
   ·rintro ⟨h1, h2, h3, h4⟩
    refine ⟨fun x hx => ?_, fun x hx => ?_, h4⟩
    ·rcases List.mem_cons.1 hx with rfl | hx
     ·exact h1
     ·exact h3 x hx
    ·rcases List.mem_cons.1 hx with rfl | hx
     ·exact h2
     ·have := (List.pairwise_cons.1 h4).1 x hx
      omega
   ·rintro ⟨h1, h2, h3⟩
    exact ⟨h1 r (List.mem_cons_self ..), h2 s (List.mem_cons_self ..), fun x hx => h1 x (List.mem_cons_of_mem _ hx), h3⟩
theorem fR_some {t : List Rc} {p : Int} {r : Rc} (h : fR t p = some r) : r ∈ t ∧ r.p = p := ⟨List.mem_of_find?_eq_some h, by simpa using List.find?_some h⟩
theorem tab_ext {t s : List Rc} (ht : t.Pairwise fun r s => r.p < s.p) (hs : s.Pairwise fun r s => r.p < s.p) (h : ∀ p, fR t p = fR s p) : t = s := by
 induction t generalizing s with
 | nil =>
  cases s with
  | nil => rfl
  | cons u s =>
   have := h u.p
   simp at this
 | cons r t ih =>
  cases s with
  | nil =>
   have := h r.p
   simp at this
  | cons u s =>
   obtain ⟨t1, t2⟩ := List.pairwise_cons.1 ht
   obtain ⟨s1, s2⟩ := List.pairwise_cons.1 hs
   have e1 : fR (r :: t) r.p = some r := by simp
   have e2 : fR (u :: s) u.p = some u := by simp
   have hp : r.p = u.p := by
    rw [h] at e1
    rw [← h] at e2
    rcases List.mem_cons.1 (fR_some e1).1 with k | k
    ·rw [k]
    ·rcases List.mem_cons.1 (fR_some e2).1 with k' | k'
     ·rw [k']
     ·have a := s1 _ k
      have b := t1 _ k'
      omega
   have hru : r = u := by
    have := h r.p
    rw [e1, hp, e2] at this
    injection this
   subst hru
   congr 1
   refine ih t2 s2 fun p => ?_
   by_cases hpp : p = r.p
   ·have n1 : fR t p = none := List.find?_eq_none.2 fun x hx => by have := t1 x hx; simp; omega
    have n2 : fR s p = none := List.find?_eq_none.2 fun x hx => by have := s1 x hx; simp; omega
    rw [n1, n2]
   ·have := h p
    simpa [Ne.symm hpp] using this
def ofF (g : Int → Option Rc) : List Rc := (g 0).toList ++ ((g 1).toList ++ (g 2).toList)
def good (g : Int → Option Rc) : Prop := ∀ p r, g p = some r → r.p = p ∧ mayR r
theorem ofF_may {g : Int → Option Rc} (hg : good g) : mayTab (ofF g) := by
 have h0 := hg 0
 have h1 := hg 1
 have h2 := hg 2
 unfold ofF
 cases e0 : g 0 <;> cases e1 : g 1 <;> cases e2 : g 2 <;> simp [e0, e1, e2] at h0 h1 h2 <;> simp [mayTab, h0, h1, h2]
theorem ofF_find {g : Int → Option Rc} (hg : good g) (p : Int) : fR (ofF g) p = g p := by
 have h0 := hg 0
 have h1 := hg 1
 have h2 := hg 2
 by_cases k : p = 0 ∨ p = 1 ∨ p = 2
 ·unfold ofF fR
  rcases k with rfl | rfl | rfl <;> cases e0 : g 0 <;> cases e1 : g 1 <;> cases e2 : g 2 <;> simp [e0, e1, e2] at h0 h1 h2 <;> simp [h0, h1, h2]
 ·have hn : g p = none := by
   cases e : g p with
   | none => rfl
   | some r =>
    obtain ⟨a, b⟩ := hg p r e
    obtain ⟨⟨b1, b2, _⟩, _⟩ := b
    omega
  rw [hn]
  refine List.find?_eq_none.2 fun x hx => ?_
  have hx' : x.p = 0 ∨ x.p = 1 ∨ x.p = 2 := by
   unfold ofF at hx
   rcases List.mem_append.1 hx with hx | hx
   ·exact .inl (h0 x (by simpa using hx)).1
   ·rcases List.mem_append.1 hx with hx | hx
    ·exact .inr (.inl (h1 x (by simpa using hx)).1)
    ·exact .inr (.inr (h2 x (by simpa using hx)).1)
  simp
  omega
theorem find_good {t : List Rc} (ht : mayTab t) : good (fR t) := fun p r h => ⟨(fR_some h).2, ((mayTab_iff t).1 ht).1 r (fR_some h).1⟩
theorem with_is (t : List Rc) (r : Rc) : withR t r = ofF fun p => if p = r.p then some r else fR t p := by
 have h : ∀ p, atR t r p = (if p = r.p then some r else fR t p).toList := fun p => by unfold atR; split <;> rfl
 unfold withR ofF
 rw [h, h, h]
theorem with_good {t : List Rc} (ht : mayTab t) {r : Rc} (hr : mayR r) : good fun p => if p = r.p then some r else fR t p := fun p s h => by
 dsimp only at h
 split at h
 ·injection h with h
  subst h
  exact ⟨by omega, hr⟩
 ·exact find_good ht p s h
theorem with_may {t : List Rc} (ht : mayTab t) {r : Rc} (hr : mayR r) : mayTab (withR t r) := by rw [with_is]; exact ofF_may (with_good ht hr)
theorem with_find {t : List Rc} (ht : mayTab t) {r : Rc} (hr : mayR r) (p : Int) : fR (withR t r) p = if p = r.p then some r else fR t p := by rw [with_is]; exact ofF_find (with_good ht hr) p
theorem out_may {t : List Rc} (ht : mayTab t) (p : Int) : mayTab (outR t p) := by
 rw [mayTab_iff] at ht ⊢
 exact ⟨fun r hr => ht.1 r ((List.mem_filter.1 hr).1), ht.2.filter _⟩
theorem out_find (t : List Rc) (p k : Int) : fR (outR t p) k = if k = p then none else fR t k := by
 unfold outR fR
 rw [List.find?_filter]
 split
 ·rename_i h
  subst h
  refine List.find?_eq_none.2 fun x _ => ?_
  simp
 ·rename_i h
  congr 1
  funext x
  by_cases hx : x.p = k
  ·simp [hx, h]
  ·simp [hx]
theorem with_snoc {t : List Rc} {r : Rc} (h : mayTab (t ++ [r])) : withR t r = t ++ [r] := by
 have h' := (mayTab_iff _).1 h
 obtain ⟨h1, h2⟩ := h'
 obtain ⟨p1, p2, p3⟩ := List.pairwise_append.1 h2
 have ht : mayTab t := (mayTab_iff _).2 ⟨fun x hx => h1 x (List.mem_append_left _ hx), p1⟩
 have hr : mayR r := h1 r (List.mem_append_right _ (List.mem_singleton.2 rfl))
 refine tab_ext ((mayTab_iff _).1 (with_may ht hr)).2 h2 fun p => ?_
 rw [with_find ht hr]
 unfold fR
 rw [List.find?_append]
 split
 ·rename_i e
  subst e
  have n1 : t.find? (fun s => s.p == r.p) = none := List.find?_eq_none.2 fun x hx => by
   have := p3 x hx r (List.mem_singleton.2 rfl)
   simp
   omega
  rw [n1]
  simp
 ·rename_i e
  have n2 : [r].find? (fun s => s.p == p) = none := by simp [Ne.symm e]
  rw [n2, Option.or_none]
theorem put_may {t x : List Rc} {b : Txt} (h : putR t b = some x) : mayTab t ∧ mayTab x := by
 unfold putR at h
 split at h
 ·rename_i ht
  refine ⟨ht, ?_⟩
  unfold putN at h
  split at h
  ·injection h with h
   subst h
   exact out_may ht _
  ·split at h
   ·rename_i hn
    injection h with h
    subst h
    exact with_may ht hn.2.2.2
   ·cases h
 ·cases h
theorem tabTo_app (t : List Rc) (l m : List Txt) : tabTo t (l ++ m) = (tabTo t l).bind fun x => tabTo x m := by
 induction l generalizing t with
 | nil => rfl
 | cons b l ih =>
  show (putR t b).bind _ = ((putR t b).bind _).bind _
  cases putR t b with
  | none => rfl
  | some x => exact ih x
def allR (t : List Rc) : Prop := ∀ r ∈ t, isR r
theorem put_all {t x : List Rc} {b : Txt} (h : putR t b = some x) (ha : allR t) (hb : ∀ z ∈ b, isByte z) : allR x := by
 unfold putR at h
 split at h
 ·unfold putN at h
  split at h
  ·injection h with h
   subst h
   exact fun r hr => ha r ((List.mem_filter.1 hr).1)
  ·split at h
   ·rename_i hn
    injection h with h
    subst h
    intro s hs
    rw [with_is] at hs
    have hs' : ∃ p, (if p = (rawR b).p then some (rawR b) else fR t p) = some s := by
     unfold ofF at hs
     rcases List.mem_append.1 hs with hs | hs
     ·exact ⟨0, by simpa using hs⟩
     ·rcases List.mem_append.1 hs with hs | hs
      ·exact ⟨1, by simpa using hs⟩
      ·exact ⟨2, by simpa using hs⟩
    obtain ⟨p, hp⟩ := hs'
    split at hp
    ·injection hp with hp
     subst hp
     exact raw_is hn.1 hb
    ·exact ha s (fR_some hp).1
   ·cases h
 ·cases h
theorem tabTo_may {t x : List Rc} {l : List Txt} (ht : mayTab t) (h : tabTo t l = some x) : mayTab x := by
 induction l generalizing t with
 | nil => injection h with h; subst h; exact ht
 | cons b l ih =>
  have h' : (putR t b).bind (fun x => tabTo x l) = some x := h
  cases hp : putR t b with
  | none => rw [hp] at h'; cases h'
  | some y =>
   rw [hp] at h'
   exact ih (put_may hp).2 h'
theorem tabTo_all {t x : List Rc} {l : List Txt} (ha : allR t) (hb : ∀ b ∈ l, ∀ z ∈ b, isByte z) (h : tabTo t l = some x) : allR x := by
 induction l generalizing t with
 | nil => injection h with h; subst h; exact ha
 | cons b l ih =>
  have h' : (putR t b).bind (fun x => tabTo x l) = some x := h
  cases hp : putR t b with
  | none => rw [hp] at h'; cases h'
  | some y =>
   rw [hp] at h'
   exact ih (put_all hp ha (hb b (List.mem_cons_self ..))) (fun c hc => hb c (List.mem_cons_of_mem _ hc)) h'
theorem put_rec {t : List Rc} (ht : mayTab t) {r : Rc} (hi : isR r) (hm : mayR r) : putR t (recT r) = some (withR t r) := by
 obtain ⟨h1, h2⟩ := raw_recT hi hm
 unfold putR putN
 rw [if_pos ht, if_neg (not_go h2), if_pos h2, h1]
theorem tab_notes (s : List Rc) : ∀ t : List Rc, mayTab (t ++ s) → allR s → tabTo t (s.map recT) = some (t ++ s) := by
 induction s with
 | nil => intro t _ _; rw [List.append_nil]; rfl
 | cons r s ih =>
  intro t h ha
  have e : t ++ r :: s = (t ++ [r]) ++ s := by simp
  rw [e] at h ⊢
  have hh := (mayTab_iff _).1 h
  have h1 : mayTab (t ++ [r]) := (mayTab_iff _).2 ⟨fun x hx => hh.1 x (List.mem_append_left _ hx), (List.pairwise_append.1 hh.2).1⟩
  have h2 := (mayTab_iff _).1 h1
  have h3 : mayTab t := (mayTab_iff _).2 ⟨fun x hx => h2.1 x (List.mem_append_left _ hx), (List.pairwise_append.1 h2.2).1⟩
  show (putR t (recT r)).bind (fun x => tabTo x (s.map recT)) = _
  rw [put_rec h3 (ha r (List.mem_cons_self ..)) (h2.1 r (List.mem_append_right _ (List.mem_singleton.2 rfl))), with_snoc h1]
  exact ih _ h fun x hx => ha x (List.mem_cons_of_mem _ hx)
theorem tab_back {x : List Rc} (hx : mayTab x) (ha : allR x) : tabR (x.map recT) = some x := tab_notes x [] (by simpa using hx) ha
end Go.Proofs.YtifgcfepbenpjaaGreat
namespace Go.Proofs.YtifgcfepbenpjaaGreat
structure Mt where
 s : Sup
 n : Int
 u : Int
 t : List Rc
def zM : Mt := ⟨(0, 0, 0), 0, 0, []⟩
def nextM (m : Mt) : Int := 65536 * m.s.1 + m.u + 1
def mayM (P T A M W Q : Int) (m : Mt) : Prop := mayC P T A M W Q ∧ arS m.s.2.1 ∧ (0 ≤ m.n ∧ m.n ≤ A) ∧ (0 ≤ m.u ∧ m.u ≤ 65535) ∧ mayTab m.t
instance (P T A M W Q : Int) (m : Mt) : Decidable (mayM P T A M W Q m) := by unfold mayM; infer_instance
def kmE (P T A M W Q : Int) (m : Mt) : Int := if mayM P T A M W Q m then 0 else 8
def opL (P T A M W Q : Int) (S : List Sec) (C : List Pnd) : List Txt := jN (jf S C A (srV P T A M W Q S C).2.1 (srV P T A M W Q S C).2.2) A.toNat
def moE (P T A M W Q : Int) (S : List Sec) (C : List Pnd) : Int := if srE P T A M W Q S C = 0 then ansE (tabR (opL P T A M W Q S C)) else srE P T A M W Q S C
def moV (P T A M W Q : Int) (S : List Sec) (C : List Pnd) : Mt := if moE P T A M W Q S C = 0 then ⟨srV P T A M W Q S C, ((opL P T A M W Q S C).length : Int), 0, ansL (tabR (opL P T A M W Q S C))⟩ else zM
abbrev Ac := Int × Int × Txt
def wrA (l : List Pnd) : List Ac := l.map fun p => (1, p.1, p.2)
def actsA (l : List Pnd) : List Ac := wrA l ++ [(2, 0, [])]
def bootS (m : Mt) : Sup := (m.s.1 + 1, m.s.2.1, m.s.2.2)
def anewS (m : Mt) : Sup := (m.s.1, 1 - m.s.2.1, nextM m)
def rowsT (g : Int) (t : List Rc) : List Txt := (List.range t.length).map fun k : Nat => jT g (k : Int) (recT (t.getD k zR))
def rowsP (A a g : Int) (t : List Rc) : List Pnd := writesP (2 + a * A) (rowsT g t) t.length
def begT (g : Int) (t : Txt) : Prop := t.getD 8 0 = 1 ∧ val (t.take 8) = g
def fineM (A : Int) (S : List Sec) (C : List Pnd) (m : Mt) : Prop := ∀ (a : Int) (k : Nat), arJ a → (k : Int) < A → ¬ (a = m.s.2.1 ∧ (k : Int) < m.n) → ∀ x, optAt S C (2 + a * A + (k : Int)) = some x → ¬ begT m.s.2.2 x ∧ ¬ begT (nextM m) x
theorem ans_zero {x : Option (List Rc)} (h : ansE x = 0) : ∃ t, x = some t := by
 cases x with
 | none => cases h
 | some t => exact ⟨t, rfl⟩
theorem beg_note {g n : Int} {t : Txt} (hg : isG g) (h : noteT g n t ≠ []) : begT g t := by
 unfold noteT at h
 split at h
 ·rename_i hc
  have e := hc.2
  have hl : t = digs 8 g ++ ([1, n % 256, (((t.drop 12).take (t.getD 10 0).toNat).length : Int) % 256, 0] ++ ((t.drop 12).take (t.getD 10 0).toNat ++ List.replicate (20 - ((t.drop 12).take (t.getD 10 0).toNat).length) 0)) := by
   conv => lhs; rw [← e]
   unfold jT
   rw [jrow_eq]
   simp
  have l8 : (digs 8 g).length = 8 := digs_length 8 g
  constructor
  ·rw [hl, gtD, List.getElem?_append_right (by omega), l8]
   rfl
  ·rw [hl, List.take_append_of_le_length (by omega), List.take_of_length_le (by omega)]
   exact val_digs 8 g hg.1 (Int.ediv_eq_zero_of_lt hg.1 (by rw [show (256 : Int) ^ 8 = 18446744073709551616 by decide]; exact hg.2))
 ·exact absurd rfl h
theorem jT_beg {g n : Int} {b : Txt} (hg : isG g) : begT g (jT g n b) := by
 have hl : jT g n b = digs 8 g ++ ([1, n % 256, (b.length : Int) % 256, 0] ++ (b ++ List.replicate (20 - b.length) 0)) := by
  unfold jT
  rw [jrow_eq]
  simp
 have l8 : (digs 8 g).length = 8 := digs_length 8 g
 constructor
 ·rw [hl, gtD, List.getElem?_append_right (by omega), l8]
  rfl
 ·rw [hl, List.take_append_of_le_length (by omega), List.take_of_length_le (by omega)]
  exact val_digs 8 g hg.1 (Int.ediv_eq_zero_of_lt hg.1 (by rw [show (256 : Int) ^ 8 = 18446744073709551616 by decide]; exact hg.2))
section
variable {P T A M W Q : Int} {S S' : List Sec} {C C' : List Pnd}
theorem sr_view (hm : mayT P T A M W Q S C) (hm' : mayT P T A M W Q S' C') (h0 : optAt S' C' 0 = optAt S C 0) (h1 : optAt S' C' 1 = optAt S C 1) : srE P T A M W Q S' C' = srE P T A M W Q S C ∧ srV P T A M W Q S' C' = srV P T A M W Q S C := by
 have e : optsOf S' C' ((0 : Nat) : Int) (2 * 1) = optsOf S C ((0 : Nat) : Int) (2 * 1) := by
  show [optAt S' C' 0, optAt S' C' 1] = [optAt S C 0, optAt S C 1]
  rw [h0, h1]
 have c := cr_same (S := S) (S' := S') (C := C) (C' := C') (a := 0) (m := 1) (cell_zero hm) (cell_zero hm') (by rw [e]) (by rw [e])
 rw [show ((0 : Nat) : Int) = 0 from rfl, show ((1 : Nat) : Int) = 1 from rfl] at c
 unfold srE srV
 rw [if_pos hm, if_pos hm, if_pos hm', if_pos hm']
 exact sm_like c.1 c.2.2
theorem jl_view {a g : Int} (h : ∀ k : Nat, (k : Int) < A → optAt S' C' (2 + a * A + (k : Int)) = optAt S C (2 + a * A + (k : Int))) : jN (jf S' C' A a g) A.toNat = jN (jf S C A a g) A.toNat :=
 jN_same fun j hj => by
  unfold jf
  rw [h j (by omega)]
def Tells (P T A M W Q : Int) (S : List Sec) (s : Sup) (t : List Rc) (n : Int) : Prop := moE P T A M W Q S [] = 0 ∧ (moV P T A M W Q S []).s = s ∧ (moV P T A M W Q S []).t = t ∧ (moV P T A M W Q S []).n = n
theorem tells_of {s : Sup} {l : List Txt} {t : List Rc} (h1 : srE P T A M W Q S [] = 0) (h2 : srV P T A M W Q S [] = s) (h3 : jN (jf S [] A s.2.1 s.2.2) A.toNat = l) (h4 : tabR l = some t) : Tells P T A M W Q S s t (l.length : Int) := by
 have e : opL P T A M W Q S [] = l := by unfold opL; rw [h2]; exact h3
 have e0 : moE P T A M W Q S [] = 0 := by unfold moE; rw [if_pos h1, e, h4]; rfl
 unfold Tells moV
 rw [if_pos e0, e, h4, h2]
 exact ⟨e0, rfl, rfl, rfl⟩
theorem tells_is {m : Mt} (h : moE P T A M W Q S [] = 0) (hm : m = moV P T A M W Q S []) :
  srE P T A M W Q S [] = 0 ∧ srV P T A M W Q S [] = m.s ∧ tabR (jN (jf S [] A m.s.2.1 m.s.2.2) A.toNat) = some m.t ∧ m.n = ((jN (jf S [] A m.s.2.1 m.s.2.2) A.toNat).length : Int) ∧ m.u = 0 := by
 have h0 : srE P T A M W Q S [] = 0 := by
  unfold moE at h
  split at h
  ·assumption
  ·exact h
 have e : moV P T A M W Q S [] = ⟨srV P T A M W Q S [], ((opL P T A M W Q S []).length : Int), 0, ansL (tabR (opL P T A M W Q S []))⟩ := if_pos h
 rw [e] at hm
 subst hm
 have h1 : ansE (tabR (opL P T A M W Q S [])) = 0 := by unfold moE at h; rw [if_pos h0] at h; exact h
 obtain ⟨t, ht⟩ := ans_zero h1
 refine ⟨h0, rfl, ?_, rfl, rfl⟩
 show tabR (opL P T A M W Q S []) = some (ansL (tabR (opL P T A M W Q S [])))
 rw [ht]
 rfl
theorem tells_out {s : Sup} {t : List Rc} {n : Int} (h : Tells P T A M W Q S s t n) : srE P T A M W Q S [] = 0 ∧ srV P T A M W Q S [] = s ∧ tabR (jN (jf S [] A s.2.1 s.2.2) A.toNat) = some t ∧ n = ((jN (jf S [] A s.2.1 s.2.2) A.toNat).length : Int) := by
 obtain ⟨h1, h2, h3, h4⟩ := h
 obtain ⟨o1, o2, o3, o4, _⟩ := tells_is h1 rfl
 subst h2; subst h3; subst h4
 exact ⟨o1, o2, o3, o4⟩
theorem tells_self {m : Mt} (h : moE P T A M W Q S [] = 0) (hm : m = moV P T A M W Q S []) : Tells P T A M W Q S m.s m.t m.n := by
 subst hm
 exact ⟨h, rfl, rfl, rfl⟩
theorem may_len (hm : mayT P T A M W Q S C) (h : mayD S' C' = true) (hl : S'.length = S.length) : mayT P T A M W Q S' C' := ⟨hm.1, h, by rw [hl]; exact hm.2.2⟩
theorem begL_eq {l l' : List Txt} {b : Txt} (h : begL l' l b) (hl : l'.length ≤ l.length + 1) : l' = l ++ [b] := by
 obtain ⟨h1, h2, h3⟩ := h
 have e : l' = l'.take l.length ++ l'.drop l.length := (List.take_append_drop _ _).symm
 rw [e, h2]
 congr 1
 have hd : (l'.drop l.length).length = 1 := by rw [List.length_drop]; omega
 match hq : l'.drop l.length, hd with
 | [c], _ =>
  have : (l'.drop l.length)[0]? = some c := by rw [hq]; rfl
  rw [List.getElem?_drop, Nat.add_zero, h3] at this
  rw [Option.some.inj this]
end
end Go.Proofs.YtifgcfepbenpjaaGreat
namespace Go.Proofs.YtifgcfepbenpjaaGreat
open Go.RowKit Go.OpenShut Go.ChangeShapes Go.WideShapes Go.Deep Go.Joins
abbrev recV (r : Rc) : Value := .agg #[.int .i64 r.p, .int .u32 r.b, .int .u32 r.e, .int .i64 r.l, .int .u8 r.h, .int .i64 r.f, .bool r.q, .bool r.a]
abbrev recL (r : Rc) : List Value := [.int .i64 r.p, .int .u32 r.b, .int .u32 r.e, .int .i64 r.l, .int .u8 r.h, .int .i64 r.f, .bool r.q, .bool r.a]
theorem eq_rec (r s : Rc) (w : World) : (Op.equalIn 10000 64 (recV r) (recV s)).run Tryz.prog w = .ok (decide (r = s)) w := by
 have u1 := Tryz.underlying26
 have u2 := Tryz.underlying3
 have u3 := Tryz.underlying5
 have u4 := Tryz.underlying4
 have hS : Tryz.prog.underlying 64 = some (.struct (Tryz.prog.fieldsOf 64)) := by kernel_rfl
 have hp : Tryz.prog.stoodInHeld 64 = false := by kernel_rfl
 have e : decide (r = s) = (r.p == s.p && r.b == s.b && r.e == s.e && r.l == s.l && r.h == s.h && r.f == s.f && r.q == s.q && r.a == s.a) := by
  rw [Bool.eq_iff_iff]
  simp [Rc.eq_iff, and_assoc]
 rw [e, show (10000 : Nat) = 9999 + 1 from rfl, run_equalIn_agg w 9999 64 _ _ hS hp]
 simp only [Program.fieldsOf, Tryz.underlying64]
 go_simp
 by_cases h1 : r.p = s.p <;> by_cases h2 : r.b = s.b <;> by_cases h3 : r.e = s.e <;> by_cases h4 : r.l = s.l <;> by_cases h5 : r.h = s.h <;> by_cases h6 : r.f = s.f <;> by_cases h7 : r.q = s.q <;> by_cases h8 : r.a = s.a <;> simp [h1, h2, h3, h4, h5, h6, h7, h8]
theorem rec_info : (Tryz.prog.info? 64).map (fun i => (i.zero, i.size, i.bytes)) = some (some (recV zR), 8, 48) := by kernel_rfl
def recsV (L : List Rc) : List Value := L.flatMap recL
theorem recsV_length (L : List Rc) : (recsV L).length = L.length * 8 := by
 induction L with
 | nil => rfl
 | cons r L ih => unfold recsV at ih ⊢; rw [List.flatMap_cons, List.length_append, ih]; simp; omega
theorem recsV_at {L : List Rc} {i j : Nat} (hi : i < L.length) (hj : j < 8) : (recsV L)[i * 8 + j]? = (recL (L.getD i zR))[j]? := by
 induction L generalizing i with
 | nil => exact absurd hi (Nat.not_lt_zero _)
 | cons r L ih =>
  have e : recsV (r :: L) = recL r ++ recsV L := rfl
  rw [e]
  cases i with
  | zero =>
   rw [Nat.zero_mul, Nat.zero_add, List.getElem?_append_left (by simpa using hj)]
   rfl
  | succ i =>
   rw [List.getElem?_append_right (by simp; omega), show (i + 1) * 8 + j - (recL r).length = i * 8 + j by simp; omega, ih (by simpa using hi)]
   rfl
theorem recsV_app (L M : List Rc) : recsV (L ++ M) = recsV L ++ recsV M := List.flatMap_append
theorem recsV_one (r : Rc) : recsV [r] = recL r := by simp [recsV]
theorem one_rec (r : Rc) : ∀ v ∈ recL r, v.oneCell' = true := by intro v hv; simp at hv; rcases hv with rfl | rfl | rfl | rfl | rfl | rfl | rfl | rfl <;> rfl
theorem one_recs (L : List Rc) : ∀ v ∈ recsV L, v.oneCell' = true := fun v hv => by
 obtain ⟨r, _, h⟩ := List.mem_flatMap.1 hv
 exact one_rec r v h
structure Recs (w : World) (A : Option Addr) (n c : Nat) (L : List Rc) : Prop where
 len : L.length = n
 cap : n ≤ c
 max : c ≤ maxLen
 is : allR L
 at_ : ∀ i, i < n → ∃ b o, A = some ⟨b, o, none⟩ ∧ b < w.heap.size ∧ ∀ j v, (recL (L.getD i zR))[j]? = some v → w.cell? ⟨b, o + i * 8 + j, none⟩ = some v
section
variable {w w' : World} {A : Option Addr} {n c : Nat} {L : List Rc}
theorem Recs.below (h : Recs w A n c L) (hb : Below w.heap.size w w') : Recs w' A n c L :=
 ⟨h.len, h.cap, h.max, h.is, fun i hi => by
  obtain ⟨b, o, e, hlt, hc⟩ := h.at_ i hi
  exact ⟨b, o, e, Nat.lt_of_lt_of_le hlt hb.size, fun j v hv => (hb.cell (p := ⟨b, _, none⟩) hlt).trans (hc j v hv)⟩⟩
theorem Recs.nil (w : World) : Recs w none 0 0 [] := ⟨rfl, Nat.le_refl _, by decide, (fun r hr => by cases hr), fun i hi => by omega⟩
theorem Recs.row (h : Recs w A n c L) {i : Nat} (hi : i < n) : ∃ b o, A = some ⟨b, o, none⟩ ∧ b < w.heap.size ∧ w.cell? ⟨b, o + i * 8, none⟩ = some (.int .i64 (L.getD i zR).p) ∧ w.cell? ⟨b, o + i * 8 + 1, none⟩ = some (.int .u32 (L.getD i zR).b) ∧ w.cell? ⟨b, o + i * 8 + 2, none⟩ = some (.int .u32 (L.getD i zR).e) ∧
  w.cell? ⟨b, o + i * 8 + 3, none⟩ = some (.int .i64 (L.getD i zR).l) ∧ w.cell? ⟨b, o + i * 8 + 4, none⟩ = some (.int .u8 (L.getD i zR).h) ∧ w.cell? ⟨b, o + i * 8 + 5, none⟩ = some (.int .i64 (L.getD i zR).f) ∧ w.cell? ⟨b, o + i * 8 + 6, none⟩ = some (.bool (L.getD i zR).q) ∧ w.cell? ⟨b, o + i * 8 + 7, none⟩ = some (.bool (L.getD i zR).a) := by
 obtain ⟨b, o, e, hlt, hc⟩ := h.at_ i hi
 exact ⟨b, o, e, hlt, hc 0 _ rfl, hc 1 _ rfl, hc 2 _ rfl, hc 3 _ rfl, hc 4 _ rfl, hc 5 _ rfl, hc 6 _ rfl, hc 7 _ rfl⟩
theorem Recs.is_at (h : Recs w A n c L) {i : Nat} (hi : i < n) : isR (L.getD i zR) := by
 have := h.len
 rw [gtD, geE (by omega)]
 exact h.is _ (List.getElem_mem _)
theorem Recs.seq (h : Recs w A n c L) : Seq w w.heap.size A (recsV L) := fun k v hv => by
 have hk : k < L.length * 8 := by
  rcases Nat.lt_or_ge k (recsV L).length with hk | hk
  ·rwa [recsV_length] at hk
  ·rw [List.getElem?_eq_none hk] at hv; cases hv
 have e : k = (k / 8) * 8 + k % 8 := by omega
 obtain ⟨b, o, ea, hlt, hc⟩ := h.at_ (k / 8) (by have := h.len; omega)
 have h2 := recsV_at (L := L) (i := k / 8) (j := k % 8) (by omega) (by omega)
 rw [← e] at h2
 have h3 := hc (k % 8) v (by rw [← h2]; exact hv)
 refine ⟨b, o, ea, hlt, ?_⟩
 rw [Nat.add_assoc, ← e] at h3
 exact h3
end
def OwnRecs (w : World) (base : Nat) (A : Option Addr) (n c : Nat) (L : List Rc) : Prop := w.ownsRow base 64 8 (.slice A n c) n (recsV L) ∧ L.length = n ∧ allR L
section
variable {w w' : World} {base base' : Nat} {A : Option Addr} {n c : Nat} {L : List Rc}
theorem Recs.of_own (h : OwnRecs w base A n c L) : Recs w A n c L := by
 obtain ⟨hown, hl, ha⟩ := h
 refine ⟨hl, ?_, ?_, ha, fun i hi => ?_⟩
 ·rcases hown.2 with ⟨e, h0⟩ | ⟨g, cap, cur, e, _, _, h1, h2, _⟩ <;> cases e
  ·exact Nat.le_refl _
  ·exact h1
 ·rcases hown.2 with ⟨e, h0⟩ | ⟨g, cap, cur, e, _, _, h1, h2, _⟩ <;> cases e
  ·decide
  ·exact h2
 ·have h0 : (recsV L)[i * 8 + 0]? = some (.int .i64 (L.getD i zR).p) := by rw [recsV_at (by omega) (by omega)]; rfl
  obtain ⟨b, e, hlt, _⟩ := owns_cell hown h0
  refine ⟨b, 0, e, hlt, fun j v hv => ?_⟩
  have hj : j < 8 := by
   rcases Nat.lt_or_ge j 8 with hj | hj
   ·exact hj
   ·rw [List.getElem?_eq_none (by simpa using hj)] at hv; cases hv
  have h1 : (recsV L)[i * 8 + j]? = some v := by rw [recsV_at (by omega) hj]; exact hv
  obtain ⟨b', e', _, hc⟩ := owns_cell hown h1
  rw [e] at e'
  cases e'
  rw [Nat.zero_add]
  exact hc
theorem OwnRecs.below (h : OwnRecs w base A n c L) (hb : Below w.heap.size w w') : OwnRecs w' base A n c L := ⟨owns_below h.1 hb, h.2.1, h.2.2⟩
theorem OwnRecs.lower (h : OwnRecs w base A n c L) (hb : base' ≤ base) : OwnRecs w base' A n c L := ⟨owns_base h.1 hb, h.2.1, h.2.2⟩
theorem OwnRecs.nil (w : World) (base : Nat) : OwnRecs w base none 0 0 [] := ⟨World.ownsRow_nil _ _ _ _, rfl, fun r hr => by cases hr⟩
theorem OwnRecs.keep (h : OwnRecs w base A n c L) (hk : ∀ (g : Nat) (cs : Array Value), base ≤ g → w.heap[g]? = some (.cells cs 64 (0, 0)) → w'.heap[g]? = w.heap[g]?) : OwnRecs w' base A n c L :=
 ⟨owns_keep h.1 fun g cs hg hc => hk g cs hg hc, h.2.1, h.2.2⟩
theorem OwnRecs.away (h : OwnRecs w base A n c L) {g : Nat} (hg : g < base) (i : Nat) (u : Value) : OwnRecs (w.setCell ⟨g, i, none⟩ u) base A n c L :=
 h.keep fun g' _ hb hc => (grownBy_set w g i u).block g' (Array.getElem?_eq_some_iff.1 hc).1 (fun e => by injection e with e; omega)
theorem run_recs (w0 w : World) (ty : TypeId) (A0 : Option Addr) (n0 c0 : Nat) (M : List Rc) (hown : OwnRecs w base A0 n0 c0 M) (r : Rc) (hr : isR r) (h63 : n0 + 1 ≤ 100000) (hbel : Below base w0 w) (hw0 : base ≤ w0.heap.size) :
  ∃ A' c' w', (Builtin.append_ #[30, 30] ty #[.slice A0 n0 c0, .slice (some ⟨w.heap.size, 0, none⟩) 1 1]).run Tryz.prog (w.alloc (.cells (recL r).toArray 64)) = .ok (.slice A' (n0 + 1) c') w' ∧ OwnRecs w' base A' (n0 + 1) c' (M ++ [r]) ∧ Below base w0 w' ∧ (w.alloc (.cells (recL r).toArray 64)).grownBy w' (Value.slice A0 n0 c0).ownBlock := by
 obtain ⟨i, hi, hz, hsize, hby⟩ := info_parts rec_info
 have hml : (100000 : Nat) ≤ maxLen := by decide
 have hbase : base ≤ w.heap.size := Nat.le_trans hw0 hbel.size
 have hlit := Blk.new w 64 (recL r)
 have hcs : ∀ j u, (recL r)[j]? = some u → (w.alloc (.cells (recL r).toArray 64)).cell? ((⟨w.heap.size, 0, none⟩ : Addr).add j) = some u := by
  intro j u hu
  have e2 : (⟨w.heap.size, 0, none⟩ : Addr).add j = ⟨w.heap.size, 0 + j, none⟩ := by unfold Addr.add; split <;> simp_all
  rw [e2, Nat.zero_add, hlit.cell j]
  exact hu
 obtain ⟨v', w', h, r2, r3, _, _⟩ := run_append_own_at (P := Tryz.prog) (w.alloc (.cells (recL r).toArray 64)) base 30 ty 64 i _ 8 48 Tryz.underlying30 hi hz hsize hby rfl (by omega) _ n0 (recsV M) (hown.1.alloc _) ⟨w.heap.size, 0, none⟩ 1 1 (recL r) rfl hcs (one_rec r) (by omega) (by omega) (by simp; omega)
 obtain ⟨g', c', rfl⟩ := ownsRow_some r2
 refine ⟨some ⟨g', 0, none⟩, c', w', h, ⟨by rw [recsV_app, recsV_one]; exact r2, by simp [hown.2.1], fun s hs => ?_⟩, (hbel.alloc hbase _).grown r3 (by simp; omega) (fun g e => (hown.1.lt g e).1), r3⟩
 rcases List.mem_append.1 hs with hs | hs
 ·exact hown.2.2 s hs
 ·rw [List.mem_singleton.1 hs]; exact hr
end
theorem wpList_recs (w0 w : World) {ops : Array Oper} {rest : List Oper} {o : Oper} {a : Act} {Q : Exit → Act → World → Prop} (hw : Region.wanted o (yielded ops a.tmps) = true) (s x : Operand)
  (ho : o.op = .call { callee := .builtin .append, args := #[s, x], argTypes := #[30, 30] }) (base : Nat) (A0 : Option Addr) (n c0 : Nat) (M : List Rc) (hs : a.eval s = .slice A0 n c0) (hown : OwnRecs w base A0 n c0 M)
  (r : Rc) (hr : isR r) (hx : a.eval x = .slice (some ⟨w.heap.size, 0, none⟩) 1 1) (h63 : n + 1 ≤ 100000) (hbel : Below base w0 w) (hw0 : base ≤ w0.heap.size)
  (h : ∀ A' c' w', OwnRecs w' base A' (n + 1) c' (M ++ [r]) → Below base w0 w' → wpList Tryz.prog ops Q rest (a.put o.dst (.slice A' (n + 1) c')) w') : wpList Tryz.prog ops Q (o :: rest) a (w.alloc (.cells (recL r).toArray 64)) := by
 refine wpList_want hw fun K hK => ?_
 obtain ⟨A', c', w', hrun, h2, h3, _⟩ := run_recs w0 w o.type A0 n c0 M hown r hr h63 hbel hw0
 unfold Oper.wp execOp
 simp only [ho, resolve, invoke, builtin, Sem.run_bind, Sem.run_pure, Result.andThen_ok, List.map_toArray, List.map_cons, List.map_nil, hs, hx, hrun]
 exact hK _ _ (h A' c' w' h2 h3)
end Go.Proofs.YtifgcfepbenpjaaGreat
namespace Go.Proofs.YtifgcfepbenpjaaGreat
open Go.RowKit
theorem wpList_dup_recs (w : World) {ops : Array Oper} {rest : List Oper} {o : Oper} {a : Act} {Q : Exit → Act → World → Prop} (hw : Region.wanted o (yielded ops a.tmps) = true) (s x : Operand)
  (ho : o.op = .call { callee := .builtin .append, args := #[s, x], argTypes := #[30, 30] }) (hs : a.eval s = .slice (some ⟨w.heap.size, 0, none⟩) 0 0)
  (A : Option Addr) (m c : Nat) (L : List Rc) (hx : a.eval x = .slice A m c) (hr : Recs w A m c L) (h63 : m ≤ 100000)
  (h : ∀ A' c' w', OwnRecs w' w.heap.size A' m c' L → Below w.heap.size w w' → wpList Tryz.prog ops Q rest (a.put o.dst (.slice A' m c')) w') : wpList Tryz.prog ops Q (o :: rest) a (w.alloc (.cells #[] 64)) := by
 refine wpList_want hw fun K hK => ?_
 obtain ⟨i, hi, hz, hsize, hby⟩ := info_parts rec_info
 have hml : (100000 : Nat) ≤ maxLen := by decide
 have hb1 : Below w.heap.size w (w.alloc (.cells #[] 64)) := (Below.refl _ _).alloc (Nat.le_refl _) _
 have hlit : (w.alloc (.cells #[] 64)).ownsRow w.heap.size 64 8 (.slice (some ⟨w.heap.size, 0, none⟩) 0 0) 0 [] := ⟨rfl, .inr ⟨w.heap.size, 0, #[], rfl, Nat.le_refl _, heap_alloc_new w _, Nat.le_refl _, by decide, rfl, rfl⟩⟩
 have key : ∃ A' c' w', (Builtin.append_ #[30, 30] o.type #[.slice (some ⟨w.heap.size, 0, none⟩) 0 0, .slice A m c]).run Tryz.prog (w.alloc (.cells #[] 64)) = .ok (.slice A' m c') w' ∧ OwnRecs w' w.heap.size A' m c' L ∧ Below w.heap.size w w' := by
  cases A with
  | none =>
   have hm0 : m = 0 := by
    rcases Nat.eq_zero_or_pos m with h0 | h0
    ·exact h0
    ·obtain ⟨_, _, e, _⟩ := hr.at_ 0 h0
     cases e
   subst hm0
   have hL : L = [] := List.eq_nil_of_length_eq_zero hr.len
   subst hL
   refine ⟨some ⟨w.heap.size, 0, none⟩, 0, _, ?_, ⟨hlit, rfl, fun r hr => by cases hr⟩, hb1⟩
   simp [Builtin.append_, run_underlying Tryz.underlying30, sizeOf, typeInfo, hi, Builtin.lenOf, Builtin.firstCells, storeCells]
  | some ad =>
   have hsq := (hr.below hb1).seq
   have hcs : ∀ j u, (recsV L)[j]? = some u → (w.alloc (.cells #[] 64)).cell? (ad.add j) = some u := by
    intro j u hu
    obtain ⟨b, o', e, _, hc⟩ := hsq j u hu
    have e := Option.some.inj e
    subst e
    have e2 : (⟨b, o', none⟩ : Addr).add j = ⟨b, o' + j, none⟩ := by unfold Addr.add; split <;> simp_all
    rw [e2]
    exact hc
   obtain ⟨v', w', hrun, h2, h3, _, h5⟩ := run_append_own_at (P := Tryz.prog) (w.alloc (.cells #[] 64)) w.heap.size 30 o.type 64 i _ 8 48 Tryz.underlying30 hi hz hsize hby rfl (by omega) _ 0 [] hlit ad m c (recsV L) (by rw [recsV_length, hr.len]) hcs (one_recs L) (by omega) (by omega) (by simp)
   rw [Nat.zero_add, List.nil_append] at h2
   have hv : ∃ A' c', v' = .slice A' m c' := by
    rcases h2.2 with ⟨rfl, rfl⟩ | ⟨g, cap, cur, rfl, _⟩
    ·exact ⟨_, _, rfl⟩
    ·exact ⟨_, _, rfl⟩
   obtain ⟨A', c', rfl⟩ := hv
   exact ⟨A', c', w', hrun, ⟨h2, hr.len, hr.is⟩, hb1.grown h3 hb1.size (fun g e => by have e : some w.heap.size = some g := e; injection e with e; omega)⟩
 obtain ⟨A', c', w', hrun, h2, h3⟩ := key
 unfold Oper.wp execOp
 simp only [ho, resolve, invoke, builtin, Sem.run_bind, Sem.run_pure, Result.andThen_ok, List.map_toArray, List.map_cons, List.map_nil, hs, hx, hrun]
 exact hK _ _ (h A' c' w' h2 h3)
end Go.Proofs.YtifgcfepbenpjaaGreat
namespace Go.Proofs.YtifgcfepbenpjaaGreat
instance (g : Int) (x : Txt) : Decidable (begT g x) := by unfold begT; infer_instance
def strB (A : Int) (S : List Sec) (C : List Pnd) (m : Mt) (a k : Int) : Bool :=
 match optAt S C (2 + a * A + k) with
 | some x => decide (begT m.s.2.2 x) || decide (begT (nextM m) x)
 | none => false
def okS (A : Int) (S : List Sec) (C : List Pnd) (m : Mt) (a k : Int) : Bool := decide (a = m.s.2.1 ∧ k < m.n) || !strB A S C m a k
def fineB (A : Int) (S : List Sec) (C : List Pnd) (m : Mt) : Bool := (List.range 2).all fun a => (List.range A.toNat).all fun k => okS A S C m (a : Int) (k : Int)
section
variable {A : Int} {S : List Sec} {C : List Pnd} {m : Mt}
theorem fineB_true (h : ∀ a k : Nat, a < 2 → (k : Int) < A → okS A S C m (a : Int) (k : Int) = true) : fineB A S C m = true := by
 unfold fineB
 rw [List.all_eq_true]
 intro a ha
 rw [List.all_eq_true]
 intro k hk
 have h1 := List.mem_range.1 ha
 have h2 := List.mem_range.1 hk
 exact h a k h1 (by omega)
theorem fineB_false {a k : Nat} (ha : a < 2) (hk : (k : Int) < A) (h : okS A S C m (a : Int) (k : Int) = false) : fineB A S C m = false := by
 cases hf : fineB A S C m with
 | false => rfl
 | true =>
  unfold fineB at hf
  rw [List.all_eq_true] at hf
  have h1 := hf a (List.mem_range.2 ha)
  rw [List.all_eq_true] at h1
  have h2 := h1 k (List.mem_range.2 (by omega))
  rw [h] at h2
  cases h2
theorem fineB_iff : fineB A S C m = true ↔ fineM A S C m := by
 constructor
 ·intro h a k ha hk ho x hx
  obtain ⟨a', rfl⟩ : ∃ y : Nat, a = (y : Int) := ⟨a.toNat, by have := ha.1; omega⟩
  have h2 : a' < 2 := by have := ha.2; omega
  have hok : okS A S C m (a' : Int) (k : Int) = true := by
   cases hc : okS A S C m (a' : Int) (k : Int) with
   | true => rfl
   | false =>
    rw [fineB_false h2 hk hc] at h
    cases h
  unfold okS strB at hok
  rw [hx, decide_eq_false ho] at hok
  simp at hok
  exact hok
 ·intro h
  refine fineB_true fun a k ha hk => ?_
  unfold okS strB
  by_cases ho : (a : Int) = m.s.2.1 ∧ (k : Int) < m.n
  ·rw [decide_eq_true ho]; rfl
  ·rw [decide_eq_false ho]
   cases hx : optAt S C (2 + (a : Int) * A + (k : Int)) with
   | none => rfl
   | some x =>
    have := h (a : Int) k ⟨by omega, by omega⟩ hk ho x hx
    simp [this.1, this.2]
end
end Go.Proofs.YtifgcfepbenpjaaGreat
