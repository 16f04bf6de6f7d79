/- Texts of layers 1 to 12, joined. -/
import Derived.Test.YtifgcfepbenpjaaGreatOa18
import Derived.BigQuiet
set_option maxRecDepth 100000
set_option maxHeartbeats 12800000
set_option linter.unusedVariables false
namespace Go.Proofs.YtifgcfepbenpjaaGreat
abbrev Sup := Int × Int × Int
def isS (s : Sup) : Prop := (0 ≤ s.1 ∧ s.1 < 4294967296) ∧ (0 ≤ s.2.2 ∧ s.2.2 < 18446744073709551616)
def arS (a : Int) : Prop := a = 0 ∨ a = 1
instance (a : Int) : Decidable (arS a) := by unfold arS; infer_instance
def sz3 : List Int := [4, 1, 8]
def suT (s : Sup) : Txt := rowTo [s.1, s.2.1, s.2.2] sz3 3
def suOk (t : Txt) : Prop := t.length = 13 ∧ t.getD 4 0 ≤ 1
instance (t : Txt) : Decidable (suOk t) := by unfold suOk; infer_instance
def suV (t : Txt) : Sup := (val (t.take 4), t.getD 4 0, val (t.drop 5))
def smE (S : List Sec) (C : List Pnd) : Int := if crE S C 0 1 = 0 then (if suOk (crB S C 0 1) then 0 else 90) else 0
def smV (S : List Sec) (C : List Pnd) : Sup := if crE S C 0 1 = 0 then (if suOk (crB S C 0 1) then suV (crB S C 0 1) else (0, 0, 0)) else (0, 0, 0)
def srE (P T A M W Q : Int) (S : List Sec) (C : List Pnd) : Int := if mayT P T A M W Q S C then smE S C else 8
def srV (P T A M W Q : Int) (S : List Sec) (C : List Pnd) : Sup := if mayT P T A M W Q S C then smV S C else (0, 0, 0)
def spE (P T A M W Q : Int) (S : List Sec) (C : List Pnd) (s : Sup) : Int := if mayT P T A M W Q S C then (if arS s.2.1 then cpE S C 0 1 (suT s) else 2) else 8
def spL (P T A M W Q : Int) (S : List Sec) (C : List Pnd) (s : Sup) : List Pnd := if spE P T A M W Q S C s = 0 then cpL S C 0 1 (suT s) else []
theorem okB_sz3 : okB sz3 = true := by decide
theorem at_sz3 : atTo sz3 3 = 13 := by decide
theorem suT_length (s : Sup) : (suT s).length = 13 := by unfold suT; rw [rowTo_length]; rfl
theorem suT_byte (s : Sup) : ∀ z ∈ suT s, isByte z := rowTo_byte _ _ _
theorem fits3 {s : Sup} (h : isS s) (ha : 0 ≤ s.2.1 ∧ s.2.1 < 256) : fitsTo [s.1, s.2.1, s.2.2] sz3 3 = true := by
 obtain ⟨hv, hg⟩ := h
 have h1 : s.1 / 256 ^ 4 = 0 := Int.ediv_eq_zero_of_lt hv.1 (by rw [show (256 : Int) ^ 4 = 4294967296 by decide]; exact hv.2)
 have h2 : s.2.1 / 256 ^ 1 = 0 := Int.ediv_eq_zero_of_lt ha.1 (by omega)
 have h3 : s.2.2 / 256 ^ 8 = 0 := Int.ediv_eq_zero_of_lt hg.1 (by rw [show (256 : Int) ^ 8 = 18446744073709551616 by decide]; exact hg.2)
 show (((true && decide (s.1 / 256 ^ 4 = 0)) && decide (s.2.1 / 256 ^ 1 = 0)) && decide (s.2.2 / 256 ^ 8 = 0)) = true
 rw [h1, h2, h3]
 decide
theorem suV_is {t : Txt} (ht : t.length = 13) (hb : ∀ z ∈ t, isByte z) : isS (suV t) ∧ isByte (suV t).2.1 := by
 have h4 := val_bounds (t.take 4) fun z hz => hb z (List.mem_of_mem_take hz)
 have h8 := val_bounds (t.drop 5) fun z hz => hb z (List.mem_of_mem_drop hz)
 rw [List.length_take, ht] at h4
 rw [List.length_drop, ht] at h8
 have p4 : (256 : Int) ^ (min 4 13) = 4294967296 := by decide
 have p8 : (256 : Int) ^ (13 - 5) = 18446744073709551616 := by decide
 rw [p4] at h4
 rw [p8] at h8
 exact ⟨⟨h4, h8⟩, byte_getD hb 4⟩
theorem held_few {l : List (Option Txt)} : ∀ (k : Nat) (ps : List Prt), heldTo l k = some ps → ps.length = k ∧ ∀ p ∈ ps, p.2.length ≤ 24 := by
 intro k
 induction k with
 | zero =>
  intro ps h
  rw [heldTo] at h
  injection h with h
  subst h
  exact ⟨rfl, fun p hp => absurd hp (by simp)⟩
 | succ k ih =>
  intro ps h
  rw [heldTo] at h
  rcases h1 : heldTo l k with _ | qs
  ·rw [h1] at h; cases h
  ·rw [h1] at h
   dsimp only at h
   obtain ⟨i1, i2⟩ := ih qs h1
   rcases h2 : partO k (l.getD k none) with _ | q
   ·rw [h2] at h; cases h
   ·rw [h2] at h
    dsimp only at h
    split at h
    ·injection h with h
     subst h
     refine ⟨by rw [List.length_append, i1]; rfl, fun p hp => ?_⟩
     rcases List.mem_append.1 hp with hp | hp
     ·exact i2 p hp
     ·rw [List.mem_singleton] at hp
      subst hp
      exact partO_small h2
    ·cases h
theorem slotB_few (l : List (Option Txt)) : (slotB l).length ≤ 24 * l.length := by
 unfold slotB
 rcases h : heldTo l l.length with _ | ps
 ·simp
 ·obtain ⟨h1, h2⟩ := held_few _ ps h
  have := joinB_length h2
  rwa [h1] at this
theorem crB_few (S : List Sec) (C : List Pnd) : (crB S C 0 1).length ≤ 24 := by
 unfold crB
 split
 ·unfold hB
  split
  ·exact Nat.le_trans (slotB_few _) (by rw [List.length_drop, optsOf_length]; decide)
  ·refine Nat.le_trans (slotB_few _) ?_
   rw [List.length_take]
   have h1 := Nat.min_le_left (Int.toNat 1) (optsOf S C 0 (2 * Int.toNat 1)).length
   have e : Int.toNat 1 = 1 := rfl
   omega
 ·simp
theorem nums3_eq (t : Txt) (ht : t.length = 13) : numsTo t sz3 3 = [(suV t).1, (suV t).2.1, (suV t).2.2] := by
 have h : numsTo t sz3 3 = (([] ++ [val ((t.drop 0).take 4)]) ++ [val ((t.drop 4).take 1)]) ++ [val ((t.drop 5).take 8)] := rfl
 rw [h, val_one (by omega), List.take_of_length_le (l := t.drop 5) (by rw [List.length_drop]; omega)]
 rfl
theorem smV_is {S : List Sec} {C : List Pnd} (hS : ∀ s ∈ S, ∀ z ∈ s.2, isByte z) (hC : ∀ p ∈ C, ∀ z ∈ p.2, isByte z) : isS (smV S C) := by
 have h0 : isS (0, 0, 0) := ⟨⟨by decide, by decide⟩, ⟨by decide, by decide⟩⟩
 unfold smV
 split
 ·split
  ·rename_i h; exact (suV_is h.1 (crB_byte hS hC 0 1)).1
  ·exact h0
 ·exact h0
theorem cell_zero {P T A M W Q : Int} {S : List Sec} {C : List Pnd} (h : mayT P T A M W Q S C) : cellE S C 0 1 = 0 := by
 obtain ⟨h1, h2, h3⟩ := h
 obtain ⟨b1, b2, b3, b4, b5, b6, b7⟩ := bounds_may h1
 have hle := fE_le h1
 obtain ⟨c1, c2, c3, c4, c5, c6, c7⟩ := h1
 have m1 := mul3 (a := P) (by omega) (by omega) T
 unfold cellE
 unfold fE at h3 hle
 rw [if_pos h2, if_pos (by omega)]
theorem crE_or {P T A M W Q : Int} {S : List Sec} {C : List Pnd} (h : mayT P T A M W Q S C) : crE S C 0 1 = 0 ∨ crE S C 0 1 = 6 := by
 unfold crE
 rw [if_pos (cell_zero h)]
 split
 ·exact .inr rfl
 ·exact .inl rfl
theorem spE_zero {P T A M W Q : Int} {S : List Sec} {C : List Pnd} {s : Sup} (h : spE P T A M W Q S C s = 0) : mayT P T A M W Q S C ∧ arS s.2.1 ∧ cpE S C 0 1 (suT s) = 0 := by
 unfold spE at h
 split at h
 ·rename_i h1
  split at h
  ·rename_i h2; exact ⟨h1, h2, h⟩
  ·cases h
 ·cases h
theorem spL_good {P T A M W Q : Int} {S : List Sec} {C : List Pnd} {s : Sup} (h : spE P T A M W Q S C s = 0) : (cpL S C 0 1 (suT s)).length = 1 ∧
  ∀ p ∈ cpL S C 0 1 (suT s), (0 ≤ p.1 ∧ p.1 < (S.length : Int) ∧ p.2.length = 32) ∧ ∀ z ∈ p.2, isByte z := by
 obtain ⟨_, _, h3⟩ := spE_zero h
 obtain ⟨k1, _, _, _, k5⟩ := cpL_good h3 (suT_byte s)
 exact ⟨k1, k5⟩
end Go.Proofs.YtifgcfepbenpjaaGreat
namespace Go.Proofs.YtifgcfepbenpjaaGreat
structure Rc where
 p : Int
 b : Int
 e : Int
 l : Int
 h : Int
 f : Int
 q : Bool
 a : Bool
theorem Rc.eq_iff (r s : Rc) : r = s ↔ r.p = s.p ∧ r.b = s.b ∧ r.e = s.e ∧ r.l = s.l ∧ r.h = s.h ∧ r.f = s.f ∧ r.q = s.q ∧ r.a = s.a := by
 cases r; cases s
 simp
instance : DecidableEq Rc := fun r s => decidable_of_iff _ (Rc.eq_iff r s).symm
def zR : Rc := ⟨0, 0, 0, 0, 0, 0, false, false⟩
instance : Inhabited Rc := ⟨zR⟩
def isR (r : Rc) : Prop := (0 ≤ r.b ∧ r.b < 4294967296) ∧ (0 ≤ r.e ∧ r.e < 4294967296) ∧ (0 ≤ r.h ∧ r.h < 256)
def mayR (r : Rc) : Prop := (0 ≤ r.p ∧ r.p < 3 ∧ 1 ≤ r.b ∧ 1 ≤ r.e ∧ 0 ≤ r.l ∧ r.l ≤ 1 ∧ 0 ≤ r.f ∧ r.f ≤ 1) ∧ (1 ≤ r.h ∧ r.h ≤ 3) ∧ (r.h = 1 ∨ r.f = r.l) ∧ (r.q = false ∨ (r.h = 1 ∧ r.f ≠ r.l))
instance (r : Rc) : Decidable (mayR r) := by unfold mayR; infer_instance
def rcE (r : Rc) : Int := if mayR r then 0 else 110
def flagR (r : Rc) : Int := (if r.q then 2 else 0) + (if r.a then 1 else 0)
def sz8R : List Int := [1, 1, 4, 4, 1, 1, 1, 1]
def numsR (r : Rc) : List Int := [1, r.p, r.b, r.e, r.l, r.h, r.f, flagR r]
def recT (r : Rc) : Txt := rowTo (numsR r) sz8R 8
def ntB (r : Rc) : Txt := if mayR r then recT r else []
def goneT (p : Int) : Txt := [2, p]
def goE (p : Int) : Int := if 0 ≤ p ∧ p < 3 then 0 else 2
def goB (p : Int) : Txt := if goE p = 0 then goneT p else []
def rawR (t : Txt) : Rc := ⟨t.getD 1 0, val ((t.drop 2).take 4), val ((t.drop 6).take 4), t.getD 10 0, t.getD 11 0, t.getD 12 0, decide (2 ≤ t.getD 13 0), decide (t.getD 13 0 % 2 = 1)⟩
def isN (t : Txt) : Prop := t.length = 14 ∧ t.getD 0 0 = 1 ∧ t.getD 13 0 ≤ 3 ∧ mayR (rawR t)
instance (t : Txt) : Decidable (isN t) := by unfold isN; infer_instance
def isGo (t : Txt) : Prop := t.length = 2 ∧ t.getD 0 0 = 2 ∧ t.getD 1 0 < 3
instance (t : Txt) : Decidable (isGo t) := by unfold isGo; infer_instance
def mayTab : List Rc → Prop
 | [] => True
 | [r] => mayR r
 | r :: s :: l => mayR r ∧ r.p < s.p ∧ mayTab (s :: l)
instance decTab : (l : List Rc) → Decidable (mayTab l)
 | [] => isTrue trivial
 | [r] => by unfold mayTab; infer_instance
 | r :: s :: l => by
  unfold mayTab
  have := decTab (s :: l)
  infer_instance
def outR (t : List Rc) (p : Int) : List Rc := t.filter fun r => r.p != p
def atR (t : List Rc) (r : Rc) (p : Int) : List Rc := if p = r.p then [r] else (t.find? fun s => s.p == p).toList
def withR (t : List Rc) (r : Rc) : List Rc := atR t r 0 ++ (atR t r 1 ++ atR t r 2)
def putN (t : List Rc) (b : Txt) : Option (List Rc) := if isGo b then some (outR t (b.getD 1 0)) else if isN b then some (withR t (rawR b)) else none
def putR (t : List Rc) (b : Txt) : Option (List Rc) := if mayTab t then putN t b else none
def tabTo (t : List Rc) : List Txt → Option (List Rc)
 | [] => some t
 | b :: l => (putR t b).bind fun x => tabTo x l
def tabR (l : List Txt) : Option (List Rc) := tabTo [] l
def ansL : Option (List Rc) → List Rc
 | none => []
 | some t => t
def ansE : Option (List Rc) → Int
 | none => 110
 | some _ => 0
def rnE (t : List Rc) : Int := if mayTab t then 0 else 110
def rnL (t : List Rc) : List Txt := if mayTab t then t.map recT else []
theorem okB_sz8R : okB sz8R = true := by decide
theorem at_sz8R : atTo sz8R 8 = 14 := by decide
theorem recT_eq (r : Rc) : recT r = [1, r.p % 256] ++ (digs 4 r.b ++ (digs 4 r.e ++ [r.l % 256, r.h % 256, r.f % 256, flagR r % 256])) := by
 have h : recT r = ((((((([] ++ digs 1 1) ++ digs 1 r.p) ++ digs 4 r.b) ++ digs 4 r.e) ++ digs 1 r.l) ++ digs 1 r.h) ++ digs 1 r.f) ++ digs 1 (flagR r) := rfl
 rw [h]
 simp [digs]
theorem recT_length (r : Rc) : (recT r).length = 14 := by rw [recT_eq]; simp [digs_length]
theorem recT_byte (r : Rc) : ∀ z ∈ recT r, isByte z := rowTo_byte _ _ _
theorem flagR_le (r : Rc) : 0 ≤ flagR r ∧ flagR r ≤ 3 := by unfold flagR; split <;> split <;> omega
theorem val_of4 {v : Int} (h : 0 ≤ v ∧ v < 4294967296) : val (digs 4 v) = v := val_digs _ _ h.1 (Int.ediv_eq_zero_of_lt h.1 (by rw [show (256 : Int) ^ 4 = 4294967296 by decide]; exact h.2))
theorem fits8R {r : Rc} (hi : isR r) (hm : mayR r) : fitsTo (numsR r) sz8R 8 = true := by
 obtain ⟨hb, he, hh⟩ := hi
 obtain ⟨⟨m1, m2, m3, m4, m5, m6, m7, m8⟩, _⟩ := hm
 have hfl := flagR_le r
 have d1 : r.p / 256 ^ 1 = 0 := Int.ediv_eq_zero_of_lt m1 (by omega)
 have d2 : r.b / 256 ^ 4 = 0 := Int.ediv_eq_zero_of_lt hb.1 (by rw [show (256 : Int) ^ 4 = 4294967296 by decide]; exact hb.2)
 have d3 : r.e / 256 ^ 4 = 0 := Int.ediv_eq_zero_of_lt he.1 (by rw [show (256 : Int) ^ 4 = 4294967296 by decide]; exact he.2)
 have d4 : r.l / 256 ^ 1 = 0 := Int.ediv_eq_zero_of_lt m5 (by omega)
 have d5 : r.h / 256 ^ 1 = 0 := Int.ediv_eq_zero_of_lt hh.1 (by omega)
 have d6 : r.f / 256 ^ 1 = 0 := Int.ediv_eq_zero_of_lt m7 (by omega)
 have d7 : flagR r / 256 ^ 1 = 0 := Int.ediv_eq_zero_of_lt hfl.1 (by omega)
 show ((((((((true && decide ((1 : Int) / 256 ^ 1 = 0)) && decide (r.p / 256 ^ 1 = 0)) && decide (r.b / 256 ^ 4 = 0)) && decide (r.e / 256 ^ 4 = 0)) && decide (r.l / 256 ^ 1 = 0)) && decide (r.h / 256 ^ 1 = 0)) && decide (r.f / 256 ^ 1 = 0)) && decide (flagR r / 256 ^ 1 = 0)) = true
 rw [d1, d2, d3, d4, d5, d6, d7]
 decide
theorem raw_recT {r : Rc} (hi : isR r) (hm : mayR r) : rawR (recT r) = r ∧ isN (recT r) := by
 obtain ⟨hb, he, hh⟩ := hi
 have hm' := hm
 obtain ⟨⟨m1, m2, m3, m4, m5, m6, m7, m8⟩, _⟩ := hm
 have hfl := flagR_le r
 have l4 : ∀ v : Int, (digs 4 v).length = 4 := fun v => digs_length _ _
 have hT := recT_eq r
 obtain ⟨x, hx⟩ : ∃ x, x = digs 4 r.b := ⟨_, rfl⟩
 obtain ⟨y, hy⟩ : ∃ y, y = digs 4 r.e := ⟨_, rfl⟩
 have lx : x.length = 4 := by rw [hx]; exact l4 _
 have ly : y.length = 4 := by rw [hy]; exact l4 _
 have vx : val x = r.b := by rw [hx]; exact val_of4 hb
 have vy : val y = r.e := by rw [hy]; exact val_of4 he
 rw [← hx, ← hy] at hT
 match x, lx with
 | [x0, x1, x2, x3], _ =>
  match y, ly with
  | [y0, y1, y2, y3], _ =>
   have hr : rawR (recT r) = r := by
    rw [hT]
    rw [Rc.eq_iff]
    refine ⟨?_, vx, vy, ?_, ?_, ?_, ?_, ?_⟩
    ·show r.p % 256 = r.p; omega
    ·show r.l % 256 = r.l; omega
    ·show r.h % 256 = r.h; omega
    ·show r.f % 256 = r.f; omega
    ·show decide (2 ≤ flagR r % 256) = r.q
     unfold flagR
     cases r.q <;> cases r.a <;> decide
    ·show decide (flagR r % 256 % 2 = 1) = r.a
     unfold flagR
     cases r.q <;> cases r.a <;> decide
   refine ⟨hr, recT_length r, ?_, ?_, by rw [hr]; exact hm'⟩
   ·rw [hT]; rfl
   ·rw [hT]
    show flagR r % 256 ≤ 3
    omega
theorem not_go {b : Txt} (h : isN b) : ¬ isGo b := fun k => by have := h.1; have := k.1; omega
theorem raw_is {t : Txt} (ht : t.length = 14) (hb : ∀ z ∈ t, isByte z) : isR (rawR t) := by
 have h1 := val_bounds ((t.drop 2).take 4) fun z hz => hb z (List.mem_of_mem_drop (List.mem_of_mem_take hz))
 have h2 := val_bounds ((t.drop 6).take 4) fun z hz => hb z (List.mem_of_mem_drop (List.mem_of_mem_take hz))
 rw [List.length_take, List.length_drop, ht] at h1 h2
 have p1 : (256 : Int) ^ (min 4 (14 - 2)) = 4294967296 := by decide
 have p2 : (256 : Int) ^ (min 4 (14 - 6)) = 4294967296 := by decide
 rw [p1] at h1
 rw [p2] at h2
 have h3 : isByte (t.getD 11 0) := by
  rw [gtD, geE (show 11 < t.length by omega)]
  exact hb _ (List.getElem_mem _)
 exact ⟨h1, h2, h3⟩
abbrev fR (t : List Rc) (p : Int) : Option Rc := t.find? fun s => s.p == p
theorem mayTab_iff (t : List Rc) : mayTab t ↔ (∀ r ∈ t, mayR r) ∧ t.Pairwise fun r s => r.p < s.p := by
 induction t with
 | nil => simp [mayTab]
 | cons r t ih =>
  cases t with
  | nil => simp [mayTab]
  | cons s l =>
   show (mayR r ∧ r.p < s.p ∧ mayTab (s :: l)) ↔ _
   rw [ih, List.pairwise_cons (a := r)]
   constructor
   ·rintro ⟨h1, h2, h3, h4⟩
    refine ⟨fun x hx => ?_, fun x hx => ?_, h4⟩
    ·rcases List.mem_cons.1 hx with rfl | hx
     ·exact h1
     ·exact h3 x hx
    ·rcases List.mem_cons.1 hx with rfl | hx
     ·exact h2
     ·have := (List.pairwise_cons.1 h4).1 x hx
      omega
   ·rintro ⟨h1, h2, h3⟩
    exact ⟨h1 r (List.mem_cons_self ..), h2 s (List.mem_cons_self ..), fun x hx => h1 x (List.mem_cons_of_mem _ hx), h3⟩
theorem fR_some {t : List Rc} {p : Int} {r : Rc} (h : fR t p = some r) : r ∈ t ∧ r.p = p := ⟨List.mem_of_find?_eq_some h, by simpa using List.find?_some h⟩
theorem tab_ext {t s : List Rc} (ht : t.Pairwise fun r s => r.p < s.p) (hs : s.Pairwise fun r s => r.p < s.p) (h : ∀ p, fR t p = fR s p) : t = s := by
 induction t generalizing s with
 | nil =>
  cases s with
  | nil => rfl
  | cons u s =>
   have := h u.p
   simp at this
 | cons r t ih =>
  cases s with
  | nil =>
   have := h r.p
   simp at this
  | cons u s =>
   obtain ⟨t1, t2⟩ := List.pairwise_cons.1 ht
   obtain ⟨s1, s2⟩ := List.pairwise_cons.1 hs
   have e1 : fR (r :: t) r.p = some r := by simp
   have e2 : fR (u :: s) u.p = some u := by simp
   have hp : r.p = u.p := by
    rw [h] at e1
    rw [← h] at e2
    rcases List.mem_cons.1 (fR_some e1).1 with k | k
    ·rw [k]
    ·rcases List.mem_cons.1 (fR_some e2).1 with k' | k'
     ·rw [k']
     ·have a := s1 _ k
      have b := t1 _ k'
      omega
   have hru : r = u := by
    have := h r.p
    rw [e1, hp, e2] at this
    injection this
   subst hru
   congr 1
   refine ih t2 s2 fun p => ?_
   by_cases hpp : p = r.p
   ·have n1 : fR t p = none := List.find?_eq_none.2 fun x hx => by have := t1 x hx; simp; omega
    have n2 : fR s p = none := List.find?_eq_none.2 fun x hx => by have := s1 x hx; simp; omega
    rw [n1, n2]
   ·have := h p
    simpa [Ne.symm hpp] using this
def ofF (g : Int → Option Rc) : List Rc := (g 0).toList ++ ((g 1).toList ++ (g 2).toList)
def good (g : Int → Option Rc) : Prop := ∀ p r, g p = some r → r.p = p ∧ mayR r
theorem ofF_may {g : Int → Option Rc} (hg : good g) : mayTab (ofF g) := by
 have h0 := hg 0
 have h1 := hg 1
 have h2 := hg 2
 unfold ofF
 cases e0 : g 0 <;> cases e1 : g 1 <;> cases e2 : g 2 <;> simp [e0, e1, e2] at h0 h1 h2 <;> simp [mayTab, h0, h1, h2]
theorem ofF_find {g : Int → Option Rc} (hg : good g) (p : Int) : fR (ofF g) p = g p := by
 have h0 := hg 0
 have h1 := hg 1
 have h2 := hg 2
 by_cases k : p = 0 ∨ p = 1 ∨ p = 2
 ·unfold ofF fR
  rcases k with rfl | rfl | rfl <;> cases e0 : g 0 <;> cases e1 : g 1 <;> cases e2 : g 2 <;> simp [e0, e1, e2] at h0 h1 h2 <;> simp [h0, h1, h2]
 ·have hn : g p = none := by
   cases e : g p with
   | none => rfl
   | some r =>
    obtain ⟨a, b⟩ := hg p r e
    obtain ⟨⟨b1, b2, _⟩, _⟩ := b
    omega
  rw [hn]
  refine List.find?_eq_none.2 fun x hx => ?_
  have hx' : x.p = 0 ∨ x.p = 1 ∨ x.p = 2 := by
   unfold ofF at hx
   rcases List.mem_append.1 hx with hx | hx
   ·exact .inl (h0 x (by simpa using hx)).1
   ·rcases List.mem_append.1 hx with hx | hx
    ·exact .inr (.inl (h1 x (by simpa using hx)).1)
    ·exact .inr (.inr (h2 x (by simpa using hx)).1)
  simp
  omega
theorem find_good {t : List Rc} (ht : mayTab t) : good (fR t) := fun p r h => ⟨(fR_some h).2, ((mayTab_iff t).1 ht).1 r (fR_some h).1⟩
theorem with_is (t : List Rc) (r : Rc) : withR t r = ofF fun p => if p = r.p then some r else fR t p := by
 have h : ∀ p, atR t r p = (if p = r.p then some r else fR t p).toList := fun p => by unfold atR; split <;> rfl
 unfold withR ofF
 rw [h, h, h]
theorem with_good {t : List Rc} (ht : mayTab t) {r : Rc} (hr : mayR r) : good fun p => if p = r.p then some r else fR t p := fun p s h => by
 dsimp only at h
 split at h
 ·injection h with h
  subst h
  exact ⟨by omega, hr⟩
 ·exact find_good ht p s h
theorem with_may {t : List Rc} (ht : mayTab t) {r : Rc} (hr : mayR r) : mayTab (withR t r) := by rw [with_is]; exact ofF_may (with_good ht hr)
theorem with_find {t : List Rc} (ht : mayTab t) {r : Rc} (hr : mayR r) (p : Int) : fR (withR t r) p = if p = r.p then some r else fR t p := by rw [with_is]; exact ofF_find (with_good ht hr) p
theorem out_may {t : List Rc} (ht : mayTab t) (p : Int) : mayTab (outR t p) := by
 rw [mayTab_iff] at ht ⊢
 exact ⟨fun r hr => ht.1 r ((List.mem_filter.1 hr).1), ht.2.filter _⟩
theorem out_find (t : List Rc) (p k : Int) : fR (outR t p) k = if k = p then none else fR t k := by
 unfold outR fR
 rw [List.find?_filter]
 split
 ·rename_i h
  subst h
  refine List.find?_eq_none.2 fun x _ => ?_
  simp
 ·rename_i h
  congr 1
  funext x
  by_cases hx : x.p = k
  ·simp [hx, h]
  ·simp [hx]
theorem with_snoc {t : List Rc} {r : Rc} (h : mayTab (t ++ [r])) : withR t r = t ++ [r] := by
 have h' := (mayTab_iff _).1 h
 obtain ⟨h1, h2⟩ := h'
 obtain ⟨p1, p2, p3⟩ := List.pairwise_append.1 h2
 have ht : mayTab t := (mayTab_iff _).2 ⟨fun x hx => h1 x (List.mem_append_left _ hx), p1⟩
 have hr : mayR r := h1 r (List.mem_append_right _ (List.mem_singleton.2 rfl))
 refine tab_ext ((mayTab_iff _).1 (with_may ht hr)).2 h2 fun p => ?_
 rw [with_find ht hr]
 unfold fR
 rw [List.find?_append]
 split
 ·rename_i e
  subst e
  have n1 : t.find? (fun s => s.p == r.p) = none := List.find?_eq_none.2 fun x hx => by
   have := p3 x hx r (List.mem_singleton.2 rfl)
   simp
   omega
  rw [n1]
  simp
 ·rename_i e
  have n2 : [r].find? (fun s => s.p == p) = none := by simp [Ne.symm e]
  rw [n2, Option.or_none]
theorem put_may {t x : List Rc} {b : Txt} (h : putR t b = some x) : mayTab t ∧ mayTab x := by
 unfold putR at h
 split at h
 ·rename_i ht
  refine ⟨ht, ?_⟩
  unfold putN at h
  split at h
  ·injection h with h
   subst h
   exact out_may ht _
  ·split at h
   ·rename_i hn
    injection h with h
    subst h
    exact with_may ht hn.2.2.2
   ·cases h
 ·cases h
theorem tabTo_app (t : List Rc) (l m : List Txt) : tabTo t (l ++ m) = (tabTo t l).bind fun x => tabTo x m := by
 induction l generalizing t with
 | nil => rfl
 | cons b l ih =>
  show (putR t b).bind _ = ((putR t b).bind _).bind _
  cases putR t b with
  | none => rfl
  | some x => exact ih x
def allR (t : List Rc) : Prop := ∀ r ∈ t, isR r
theorem tabTo_may {t x : List Rc} {l : List Txt} (ht : mayTab t) (h : tabTo t l = some x) : mayTab x := by
 induction l generalizing t with
 | nil => injection h with h; subst h; exact ht
 | cons b l ih =>
  have h' : (putR t b).bind (fun x => tabTo x l) = some x := h
  cases hp : putR t b with
  | none => rw [hp] at h'; cases h'
  | some y =>
   rw [hp] at h'
   exact ih (put_may hp).2 h'
end Go.Proofs.YtifgcfepbenpjaaGreat
namespace Go.Proofs.YtifgcfepbenpjaaGreat
structure Mt where
 s : Sup
 n : Int
 u : Int
 t : List Rc
def zM : Mt := ⟨(0, 0, 0), 0, 0, []⟩
def mayM (P T A M W Q : Int) (m : Mt) : Prop := mayC P T A M W Q ∧ arS m.s.2.1 ∧ (0 ≤ m.n ∧ m.n ≤ A) ∧ (0 ≤ m.u ∧ m.u ≤ 65535) ∧ mayTab m.t
instance (P T A M W Q : Int) (m : Mt) : Decidable (mayM P T A M W Q m) := by unfold mayM; infer_instance
def kmE (P T A M W Q : Int) (m : Mt) : Int := if mayM P T A M W Q m then 0 else 8
def opL (P T A M W Q : Int) (S : List Sec) (C : List Pnd) : List Txt := jN (jf S C A (srV P T A M W Q S C).2.1 (srV P T A M W Q S C).2.2) A.toNat
def moE (P T A M W Q : Int) (S : List Sec) (C : List Pnd) : Int := if srE P T A M W Q S C = 0 then ansE (tabR (opL P T A M W Q S C)) else srE P T A M W Q S C
def moV (P T A M W Q : Int) (S : List Sec) (C : List Pnd) : Mt := if moE P T A M W Q S C = 0 then ⟨srV P T A M W Q S C, ((opL P T A M W Q S C).length : Int), 0, ansL (tabR (opL P T A M W Q S C))⟩ else zM
abbrev Ac := Int × Int × Txt
def wrA (l : List Pnd) : List Ac := l.map fun p => (1, p.1, p.2)
def actsA (l : List Pnd) : List Ac := wrA l ++ [(2, 0, [])]
def bootS (m : Mt) : Sup := (m.s.1 + 1, m.s.2.1, m.s.2.2)
section
variable {P T A M W Q : Int} {S S' : List Sec} {C C' : List Pnd}
end
end Go.Proofs.YtifgcfepbenpjaaGreat
namespace Go.Proofs.YtifgcfepbenpjaaGreat
open Go.RowKit Go.OpenShut Go.ChangeShapes Go.WideShapes Go.Deep
def OwnTxs (w : World) (base : Nat) (A : Option Addr) (n c : Nat) (zss : List Txt) : Prop :=
 ∃ vs : List Value, w.ownsRow base 42 1 (.slice A n c) n vs ∧ zss.length = n ∧ (∀ zs ∈ zss, ∀ z ∈ zs, isByte z) ∧
  ∀ i, i < n → ∃ Ai ni ci, vs[i]? = some (.slice Ai ni ci) ∧ OwnTxt w base Ai ni ci (zss.getD i [])
theorem OwnTxs.nil (w : World) (base : Nat) : OwnTxs w base none 0 0 [] := ⟨[], World.ownsRow_nil _ _ _ _, rfl, by simp, fun i hi => absurd hi (Nat.not_lt_zero _)⟩
theorem OwnTxs.below {w w' : World} {base : Nat} {A : Option Addr} {n c : Nat} {zss : List Txt} (h : OwnTxs w base A n c zss) (hb : Below w.heap.size w w') : OwnTxs w' base A n c zss := by
 obtain ⟨vs, h1, h2, h3, h4⟩ := h
 exact ⟨vs, owns_below h1 hb, h2, h3, fun i hi => by obtain ⟨a, b, c, e, o⟩ := h4 i hi; exact ⟨a, b, c, e, o.below hb⟩⟩
theorem OwnTxs.lower {w : World} {base base' : Nat} {A : Option Addr} {n c : Nat} {zss : List Txt} (h : OwnTxs w base A n c zss) (hb : base' ≤ base) : OwnTxs w base' A n c zss := by
 obtain ⟨vs, h1, h2, h3, h4⟩ := h
 exact ⟨vs, owns_base h1 hb, h2, h3, fun i hi => by obtain ⟨a, b, c, e, o⟩ := h4 i hi; exact ⟨a, b, c, e, o.lower hb⟩⟩
theorem OwnTxs.texts {w : World} {base : Nat} {A : Option Addr} {n c : Nat} {zss : List Txt} (h : OwnTxs w base A n c zss) : Texts w A n c zss := by
 obtain ⟨vs, hown, hl, hb, hin⟩ := h
 refine ⟨hl, ?_, ?_, hb, fun i hi => ?_⟩
 ·rcases hown.2 with ⟨e, h0⟩ | ⟨g, cap, cur, e, _, _, h1, h2, _⟩ <;> cases e
  ·exact Nat.le_refl _
  ·exact h1
 ·rcases hown.2 with ⟨e, h0⟩ | ⟨g, cap, cur, e, _, _, h1, h2, _⟩ <;> cases e
  ·decide
  ·exact h2
 ·obtain ⟨Ai, ni, ci, hv, ho⟩ := hin i hi
  obtain ⟨b, e, hlt, hcc⟩ := owns_cell hown hv
  exact ⟨b, 0, Ai, ni, ci, e, hlt, by rw [Nat.zero_add]; exact hcc, ho.arg⟩
theorem OwnTxs.snoc {w w' : World} {base : Nat} {A A' Ai : Option Addr} {n c c' ni ci : Nat} {zss : List Txt} {zs : Txt} {vs : List Value} (hown0 : w.ownsRow base 42 1 (.slice A n c) n vs) (hl : zss.length = n) (hby : ∀ zs ∈ zss, ∀ z ∈ zs, isByte z)
  (hin : ∀ i, i < n → ∃ Ai ni ci, vs[i]? = some (.slice Ai ni ci) ∧ OwnTxt w base Ai ni ci (zss.getD i [])) (hz : ∀ z ∈ zs, isByte z)
  (ho : OwnTxt w base Ai ni ci zs) (hg : w.grownBy w' (Value.slice A n c).ownBlock)
  (hown : w'.ownsRow base 42 1 (.slice A' (n + 1) c') (n + 1) (vs ++ [.slice Ai ni ci])) : OwnTxs w' base A' (n + 1) c' (zss ++ [zs]) := by
 have hvl : vs.length = n := by have := hown0.1; omega
 have hkeep : ∀ {A' : Option Addr} {n' c' : Nat} {xs : List Int}, OwnTxt w base A' n' c' xs → OwnTxt w' base A' n' c' xs := fun hx =>
  hx.keep fun g' _ hu => hg.block g' (by obtain ⟨cs, hc⟩ := hu; exact (Array.getElem?_eq_some_iff.1 hc).1) (fun e => u8_row (by decide) hu hown0 e.symm)
 refine ⟨_, hown, by simp [hl], ?_, fun j hj => ?_⟩
 ·intro y hy z hzz
  rcases List.mem_append.1 hy with hy | hy
  ·exact hby y hy z hzz
  ·rw [List.mem_singleton] at hy
   subst hy
   exact hz z hzz
 ·by_cases e : j = n
  ·subst e
   refine ⟨Ai, ni, ci, by rw [List.getElem?_append_right (by omega)]; simp [hvl], ?_⟩
   have e2 : (zss ++ [zs]).getD j [] = zs := by simp [List.getD_eq_getElem?_getD, hl]
   rw [e2]
   exact hkeep ho
  ·obtain ⟨Aj, nj, cj, hv, hoj⟩ := hin j (by omega)
   refine ⟨Aj, nj, cj, by rw [List.getElem?_append_left (by omega)]; exact hv, ?_⟩
   have e2 : (zss ++ [zs]).getD j [] = zss.getD j [] := by simp [List.getD_eq_getElem?_getD, List.getElem?_append_left (show j < zss.length by omega)]
   rw [e2]
   exact hkeep hoj
theorem txts_info : (Tryz.prog.info? 42).map (fun i => (i.zero, i.size, i.bytes)) = some (some (.slice none 0 0), 1, 24) := by kernel_rfl
theorem run_txs {P : Program} (w0 w : World) (t ty : TypeId) (i : TypeInfo) (z : Value) (ht : P.underlying t = some (.slice 42)) (hi : P.info? 42 = some i) (hz : i.zero = some z)
  (hsize : i.size = 1) (hby : i.bytes = 24) (hzs : z.cells.size = 1) (base : Nat) (A0 : Option Addr) (n c0 : Nat) (zss : List Txt) (hown : OwnTxs w base A0 n c0 zss)
  (Ai : Option Addr) (ni ci : Nat) (zs : Txt) (hb : ∀ z ∈ zs, isByte z) (hoi : OwnTxt w base Ai ni ci zs)
  (h63 : n + 1 ≤ maxLen) (hbytes : (n + 1) * 24 ≤ 140737488355328) (hbel : Below base w0 w) (hw0 : base ≤ w0.heap.size) :
  ∃ A' c' w', (Builtin.append_ #[t, t] ty #[.slice A0 n c0, .slice (some ⟨w.heap.size, 0, none⟩) 1 1]).run P (w.alloc (.cells #[.slice Ai ni ci] 42)) = .ok (.slice A' (n + 1) c') w' ∧ OwnTxs w' base A' (n + 1) c' (zss ++ [zs]) ∧ Below base w0 w' := by
 obtain ⟨vs, hv, hl, hby2, hin⟩ := hown
 have hbase : base ≤ w.heap.size := Nat.le_trans hw0 hbel.size
 have hseq : Seq (w.alloc (.cells #[.slice Ai ni ci] 42)) (w.heap.size + 1) (some ⟨w.heap.size, 0, none⟩) [.slice Ai ni ci] := by
  have h := (Blk.new w 42 [.slice Ai ni ci]).seq 0 1
  exact h
 obtain ⟨v', w', hrun, hown', hg, _⟩ := run_app (P := P) (w.alloc (.cells #[.slice Ai ni ci] 42)) base t ty 42 i z 24 ht hi hz hsize hby hzs _ n vs (hv.allocated _) _ _ 1 1 [.slice Ai ni ci] rfl hseq (by simp [Value.oneCell']) h63 hbytes (by simp; omega)
 obtain ⟨A', c', rfl⟩ := owns_slice hown'
 have hfin : OwnTxs w' base A' (n + 1) c' (zss ++ [zs]) := OwnTxs.snoc (hv.allocated _) hl hby2 (fun i hi => by
  obtain ⟨Aj, nj, cj, e, hj⟩ := hin i hi
  exact ⟨Aj, nj, cj, e, hj.allocated _⟩) hb (hoi.allocated _) hg hown'
 exact ⟨A', c', w', hrun, hfin, (hbel.alloc hbase _).grown hg (by simp; omega) (fun g e => (hv.lt g e).1)⟩
theorem wpList_txs {P : Program} (w0 w : World) {ops : Array Oper} {rest : List Oper} {o : Oper} {a : Act} {Q : Exit → Act → World → Prop} (hw : Region.wanted o (yielded ops a.tmps) = true) (s x : Operand) (t : TypeId)
  (ho : o.op = .call { callee := .builtin .append, args := #[s, x], argTypes := #[t, t] }) (i : TypeInfo) (z : Value) (ht : P.underlying t = some (.slice 42)) (hi : P.info? 42 = some i) (hz : i.zero = some z)
  (hsize : i.size = 1) (hby : i.bytes = 24) (hzs : z.cells.size = 1) (base : Nat) (A0 : Option Addr) (n c0 : Nat) (zss : List Txt) (hs : a.eval s = .slice A0 n c0) (hown : OwnTxs w base A0 n c0 zss)
  (Ai : Option Addr) (ni ci : Nat) (zs : Txt) (hb : ∀ z ∈ zs, isByte z) (hoi : OwnTxt w base Ai ni ci zs) (hx : a.eval x = .slice (some ⟨w.heap.size, 0, none⟩) 1 1)
  (h63 : n + 1 ≤ maxLen) (hbytes : (n + 1) * 24 ≤ 140737488355328) (hbel : Below base w0 w) (hw0 : base ≤ w0.heap.size)
  (h : ∀ A' c' w', OwnTxs w' base A' (n + 1) c' (zss ++ [zs]) → Below base w0 w' → wpList P ops Q rest (a.put o.dst (.slice A' (n + 1) c')) w') : wpList P ops Q (o :: rest) a (w.alloc (.cells #[.slice Ai ni ci] 42)) := by
 refine wpList_want hw fun K hK => ?_
 obtain ⟨A', c', w', hrun, h2, h3⟩ := run_txs (P := P) w0 w t o.type i z ht hi hz hsize hby hzs base A0 n c0 zss hown Ai ni ci zs hb hoi h63 hbytes hbel hw0
 unfold Oper.wp execOp
 simp only [ho, resolve, invoke, builtin, Sem.run_bind, Sem.run_pure, Result.andThen_ok, List.map_toArray, List.map_cons, List.map_nil, hs, hx, hrun]
 exact hK _ _ (h A' c' w' h2 h3)
end Go.Proofs.YtifgcfepbenpjaaGreat
namespace Go.Proofs.YtifgcfepbenpjaaGreat
section
variable {P T A M W Q : Int} {S S' : List Sec} {C C' : List Pnd}
end
section
variable {P T A M W Q : Int} {S : List Sec} {m : Mt} {b : Txt}
end
end Go.Proofs.YtifgcfepbenpjaaGreat
