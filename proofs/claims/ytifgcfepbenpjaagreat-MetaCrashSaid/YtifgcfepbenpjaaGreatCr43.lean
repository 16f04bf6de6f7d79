/- Texts of layers 1 to 12, joined. -/
import Derived.Test.YtifgcfepbenpjaaGreatCr41
import Derived.Test.YtifgcfepbenpjaaGreatCr42
import Derived.Lib.SliceRun
set_option maxRecDepth 100000
set_option maxHeartbeats 12800000
set_option linter.unusedVariables false
namespace Go.Proofs.YtifgcfepbenpjaaGreat
open Go.RowKit
def bootE (P T A M W Q : Int) (S : List Sec) (C : List Pnd) (m : Mt) : Int := if boE P T A M W Q S C m = 0 then (if m.s.1 = 4294967295 then 9 else spE P T A M W Q S C (bootS m)) else 8
def bootM (P T A M W Q : Int) (S : List Sec) (C : List Pnd) (m : Mt) : Mt := if bootE P T A M W Q S C m = 0 then ⟨bootS m, m.n, 0, m.t⟩ else zM
def bootA (P T A M W Q : Int) (S : List Sec) (C : List Pnd) (m : Mt) : List Ac := if bootE P T A M W Q S C m = 0 then actsA (spL P T A M W Q S C (bootS m)) else []
end Go.Proofs.YtifgcfepbenpjaaGreat
namespace Go.Proofs.YtifgcfepbenpjaaGreat
theorem fate_byte {S : List Sec} {p : Pnd} (hS : ∀ x ∈ S, ∀ z ∈ x.2, isByte z) (hp : ∀ z ∈ p.2, isByte z) (f : Int) : ∀ x ∈ byFate S p f, ∀ z ∈ x.2, isByte z := by
 have hput : ∀ (q : Sec), (∀ z ∈ q.2, isByte z) → ∀ x ∈ S.set p.1.toNat q, ∀ z ∈ x.2, isByte z := fun q hq x hx => by
  rcases List.mem_or_eq_of_mem_set hx with h | h
  ·exact hS x h
  ·subst h; exact hq
 unfold byFate
 split
 ·exact hput _ hp
 ·split
  ·refine hput _ fun z hz => ?_
   have e := List.eq_of_mem_replicate (n := 32) (a := (0 : Int)) hz
   subst e
   unfold isByte
   omega
  ·exact hS
theorem behind_byte {S : List Sec} {C : List Pnd} (hS : ∀ x ∈ S, ∀ z ∈ x.2, isByte z) (hC : ∀ p ∈ C, ∀ z ∈ p.2, isByte z) (F : List Int) (k : Nat) : ∀ x ∈ behindK S C F k, ∀ z ∈ x.2, isByte z := by
 induction k with
 | zero => exact hS
 | succ k ih =>
  refine fate_byte ih ?_ _
  intro z hz
  by_cases h : k < C.length
  ·exact hC _ (List.getElem_mem h) z (by rw [gtD, geE h] at hz; exact hz)
  ·rw [gtD, List.getElem?_eq_none (by omega)] at hz; cases hz
theorem cr_byte {S : List Sec} {C : List Pnd} (hS : ∀ x ∈ S, ∀ z ∈ x.2, isByte z) (hC : ∀ p ∈ C, ∀ z ∈ p.2, isByte z) (F : List Int) : ∀ x ∈ crS S C F, ∀ z ∈ x.2, isByte z := by
 unfold crS
 split
 ·exact behind_byte hS hC F _
 ·intro x hx; cases hx
theorem writes_byte {base : Int} {l : List Txt} {k : Nat} (hl : ∀ t ∈ l, ∀ z ∈ t, isByte z) : ∀ p ∈ writesP base l k, ∀ z ∈ p.2, isByte z := by
 intro p hp
 rw [writesP_eq] at hp
 obtain ⟨i, hi, rfl⟩ := List.mem_map.1 hp
 intro z hz
 by_cases h : i < l.length
 ·refine hl _ (List.getElem_mem h) z ?_
  simpa [List.getD_eq_getElem?_getD, List.getElem?_eq_getElem h] using hz
 ·simp [List.getD_eq_getElem?_getD, List.getElem?_eq_none (show l.length ≤ i by omega)] at hz
section
variable {P T A M W Q : Int} {S S' : List Sec}
theorem cr_see {base : Int} {l : List Txt} {k : Nat} (hm : mayD S [] = true) (hmay : mayD S (writesP base l k) = true) (F : List Int) (y : Int) :
  optAt (crS S (writesP base l k) F) [] y = optAt S [] y ∨ (base ≤ y ∧ y < base + (k : Int) ∧ (optAt (crS S (writesP base l k) F) [] y = some (l.getD (y - base).toNat []) ∨ optAt (crS S (writesP base l k) F) [] y = none)) := by
 obtain ⟨hcm, hcl⟩ := cr_may hmay F
 by_cases hi : 0 ≤ y ∧ y < (S.length : Int)
 ·have c := optAt_crash (C := []) (base := base) (l := l) (k := k) hm (by rw [List.nil_append]; exact hmay) F hi.1 hi.2 rfl
  rw [List.nil_append] at c
  exact c
 ·left
  rw [opt_out hcm (by rw [hcl]; exact hi), opt_out hm hi]
theorem at_inj {a a' : Int} {k k' : Nat} (ha : arJ a) (ha' : arJ a') (hk : (k : Int) < A) (hk' : (k' : Int) < A) (h : 2 + a * A + (k : Int) = 2 + a' * A + (k' : Int)) : a = a' ∧ k = k' := by
 unfold arJ at ha ha'
 rcases (show a = 0 ∨ a = 1 by omega) with r | r <;> subst r <;> rcases (show a' = 0 ∨ a' = 1 by omega) with r | r <;> subst r <;> omega
theorem count_le {l : List (Option Txt)} {V : Int} (h0 : 0 ≤ V) : ∀ n, (∀ j, j < n → ∀ x, l.getD j none = some x → verOf x ≤ V) → countTo l n ≤ V := by
 intro n
 induction n with
 | zero => intro _; exact h0
 | succ n ih =>
  intro h
  have i := ih fun j hj => h j (by omega)
  have hn := h n (by omega)
  unfold countTo
  split
  ·exact i
  ·rename_i T hT
   have := hn T hT
   omega
theorem count_nonneg (l : List (Option Txt)) : ∀ n, 0 ≤ countTo l n := by
 intro n
 induction n with
 | zero => exact Int.le_refl 0
 | succ n ih =>
  unfold countTo
  split
  ·exact ih
  ·omega
structure Runs12 (P T A M W Q : Int) (S : List Sec) (s : Sup) (t : List Rc) (n B V : Int) : Prop where
 may : mayT P T A M W Q S []
 tells : Tells P T A M W Q S s t n
 tab : mayTab t
 area : arS s.2.1
 gen : 0 ≤ s.2.2 ∧ s.2.2 ≤ B
 top : ∀ (a : Int) (k : Nat), arJ a → (k : Int) < A → ∀ x, optAt S [] (2 + a * A + (k : Int)) = some x → x.getD 8 0 = 1 → val (x.take 8) ≤ B
 out : ∀ (a : Int) (k : Nat), arJ a → (k : Int) < A → ¬ (a = s.2.1 ∧ (k : Int) < n) → ∀ x, optAt S [] (2 + a * A + (k : Int)) = some x → ¬ begT s.2.2 x
 ver : 0 ≤ V ∧ ∀ j : Nat, j < 2 → ∀ x, optAt S [] (j : Int) = some x → verOf x ≤ V
 byte : ∀ x ∈ S, ∀ z ∈ x.2, isByte z
theorem Runs12.mono {s : Sup} {t : List Rc} {n B V B' V' : Int} (R : Runs12 P T A M W Q S s t n B V) (hB : B ≤ B') (hV : V ≤ V') : Runs12 P T A M W Q S s t n B' V' :=
 ⟨R.may, R.tells, R.tab, R.area, ⟨R.gen.1, by have := R.gen.2; omega⟩, fun a k ha hk x hx h => by have := R.top a k ha hk x hx h; omega, R.out, ⟨by have := R.ver.1; omega, fun j hj x hx => by have := R.ver.2 j hj x hx; omega⟩, R.byte⟩
theorem Runs12.fine {m : Mt} {B V : Int} (R : Runs12 P T A M W Q S m.s m.t m.n B V) (hB : B ≤ 65536 * m.s.1 + m.u) : fineM A S [] m := fun a k ha hk ho x hx =>
 ⟨R.out a k ha hk ho x hx, fun h => by
  have := R.top a k ha hk x hx h.1
  rw [h.2] at this
  unfold nextM at this
  omega⟩
theorem Runs12.sp {s : Sup} {t : List Rc} {n B V : Int} (R : Runs12 P T A M W Q S s t n B V) (hV : V < 4294967295) {s' : Sup} (ha : arS s'.2.1) : spE P T A M W Q S [] s' = 0 ∧ (∃ base v, (base = 0 ∨ base = 1) ∧ spL P T A M W Q S [] s' = writesP base [partT v 0 (chunk (suT s') 0)] 1 ∧ 0 ≤ v ∧ v ≤ V + 1) := by
 have hc := count_le (l := optsOf S [] 0 (2 * (1 : Int).toNat)) R.ver.1 (2 * (1 : Int).toNat) (fun j hj x hx => by
  have hj2 : j < 2 := hj
  rw [optsOf_get (n := 2 * (1 : Int).toNat) S [] 0 hj, Int.zero_add] at hx
  exact R.ver.2 j hj2 x hx)
 have h0 := count_nonneg (optsOf S [] 0 (2 * (1 : Int).toNat)) (2 * (1 : Int).toNat)
 have hp : cpE S [] 0 1 (suT s') = 0 := by
  unfold cpE
  rw [if_pos (cell_zero R.may), if_neg (by rw [suT_length]; decide), busy_nil, if_neg (by decide), if_neg (by omega)]
 have hs : spE P T A M W Q S [] s' = 0 := by
  unfold spE
  rw [if_pos R.may, if_pos ha, hp]
 refine ⟨hs, ?_⟩
 have e : spL P T A M W Q S [] s' = cpL S [] 0 1 (suT s') := if_pos hs
 obtain ⟨c, hcE⟩ : ∃ c, c = countTo (optsOf S [] 0 (2 * (1 : Int).toNat)) (2 * (1 : Int).toNat) := ⟨_, rfl⟩
 have hL : cpL S [] 0 1 (suT s') = writesP (0 + hF 1 (optsOf S [] 0 (2 * (1 : Int).toNat)) * 1) [partT (c + 1) 0 (chunk (suT s') 0)] 1 := by
  unfold cpL
  rw [if_pos hp]
  unfold cpT
  rw [hcE]
  rfl
 rw [← hcE] at hc h0
 refine ⟨0 + hF 1 (optsOf S [] 0 (2 * (1 : Int).toNat)) * 1, c + 1, ?_, e.trans hL, by omega, by omega⟩
 rcases hF_two 1 (optsOf S [] 0 (2 * (1 : Int).toNat)) with h | h <;> rw [h] <;> simp
theorem Runs12.sup {s : Sup} {t : List Rc} {n B V : Int} (R : Runs12 P T A M W Q S s t n B V) (hV : V < 4294967295) {s' : Sup} (ha : arS s'.2.1) (hs : isS s') (F : List Int) :
  mayD S (spL P T A M W Q S [] s') = true ∧ mayT P T A M W Q (crS S (spL P T A M W Q S [] s') F) [] ∧
  (∀ y, 2 ≤ y → optAt (crS S (spL P T A M W Q S [] s') F) [] y = optAt S [] y) ∧
  (∀ j : Nat, j < 2 → ∀ x, optAt (crS S (spL P T A M W Q S [] s') F) [] (j : Int) = some x → verOf x ≤ V + 1) ∧
  (∀ x ∈ crS S (spL P T A M W Q S [] s') F, ∀ z ∈ x.2, isByte z) ∧
  ((srE P T A M W Q (crS S (spL P T A M W Q S [] s') F) [] = srE P T A M W Q S [] ∧ srV P T A M W Q (crS S (spL P T A M W Q S [] s') F) [] = srV P T A M W Q S []) ∨
   (srE P T A M W Q (crS S (spL P T A M W Q S [] s') F) [] = 0 ∧ srV P T A M W Q (crS S (spL P T A M W Q S [] s') F) [] = s')) ∧
  srE P T A M W Q (flS S (spL P T A M W Q S [] s')) [] = 0 ∧ srV P T A M W Q (flS S (spL P T A M W Q S [] s')) [] = s' := by
 obtain ⟨hz, base, v, hb, hL, hv0, hv1⟩ := R.sp hV ha
 have e : spL P T A M W Q S [] s' = cpL S [] 0 1 (suT s') := if_pos hz
 have ST := sup_tells hz hs R.byte (fun p hp => by cases hp) (by simp) F
 rw [List.nil_append, ← e] at ST
 obtain ⟨hmay, _, t1, t2⟩ := ST
 obtain ⟨c1, c2⟩ := cr_may hmay F
 refine ⟨hmay, may_len R.may c1 c2, fun y hy => su_away hz hmay F hy, fun j hj x hx => ?_, ?_, t1, t2⟩
 ·rw [hL] at hx hmay
  rcases cr_see R.may.2.1 hmay F (j : Int) with k | ⟨k1, k2, k | k⟩
  ·rw [k] at hx
   have := R.ver.2 j hj x hx
   omega
  ·rw [k] at hx
   have hx := Option.some.inj hx
   rw [show ((j : Int) - base).toNat = 0 by omega] at hx
   subst hx
   show verOf (partT v 0 (chunk (suT s') 0)) ≤ V + 1
   rw [ver_part 0 _ ⟨hv0, by omega⟩]
   exact hv1
  ·rw [k] at hx; cases hx
 ·refine cr_byte R.byte ?_ F
  rw [hL]
  refine writes_byte fun t ht => ?_
  obtain rfl : t = partT v 0 (chunk (suT s') 0) := by simpa using ht
  exact partT_byte _ _ fun z hz => suT_byte s' z (List.mem_of_mem_drop (List.mem_of_mem_take hz))
theorem Runs12.boot {s : Sup} {t : List Rc} {n B V : Int} (R : Runs12 P T A M W Q S s t n B V) (hV : V < 4294967295) {v : Int} (hs : isS (v, s.2.1, s.2.2)) (F : List Int) :
  (Runs12 P T A M W Q (crS S (spL P T A M W Q S [] (v, s.2.1, s.2.2)) F) s t n B (V + 1) ∨ Runs12 P T A M W Q (crS S (spL P T A M W Q S [] (v, s.2.1, s.2.2)) F) (v, s.2.1, s.2.2) t n B (V + 1)) ∧
  Runs12 P T A M W Q (flS S (spL P T A M W Q S [] (v, s.2.1, s.2.2))) (v, s.2.1, s.2.2) t n B (V + 1) := by
 obtain ⟨o1, o2, o3, o4⟩ := tells_out R.tells
 have ha := arJ_of R.area
 have hA : (3 : Int) ≤ A := by have := R.may.1; unfold mayC at this; omega
 have h2 := (area_off ha hA).2.2
 have key : ∀ F s1, srE P T A M W Q (crS S (spL P T A M W Q S [] (v, s.2.1, s.2.2)) F) [] = 0 → srV P T A M W Q (crS S (spL P T A M W Q S [] (v, s.2.1, s.2.2)) F) [] = s1 → s1.2 = s.2 → Runs12 P T A M W Q (crS S (spL P T A M W Q S [] (v, s.2.1, s.2.2)) F) s1 t n B (V + 1) := fun F s1 k1 k2 k3 => by
  obtain ⟨hmay, hm', off, hver, hby, _, _⟩ := R.sup hV (s' := (v, s.2.1, s.2.2)) R.area hs F
  have hat : ∀ (a : Int) (k : Nat), arJ a → 2 ≤ 2 + a * A + (k : Int) := fun a k h => by have := (area_off h hA).2.2; omega
  refine ⟨hm', ?_, R.tab, by rw [k3]; exact R.area, by rw [k3]; exact R.gen, fun a k h hk x hx => by rw [off _ (hat a k h)] at hx; exact R.top a k h hk x hx, fun a k h hk ho x hx => ?_, ⟨by have := R.ver.1; omega, hver⟩, hby⟩
  ·have T := tells_of k1 k2 (l := jN (jf S [] A s.2.1 s.2.2) A.toNat) (by rw [k3]; exact jl_view fun j hj => off _ (by omega)) o3
   rw [← o4] at T
   exact T
  ·rw [off _ (hat a k h)] at hx
   rw [k3] at ho ⊢
   exact R.out a k h hk ho x hx
 refine ⟨?_, ?_⟩
 ·obtain ⟨_, _, _, _, _, t1, _⟩ := R.sup hV (s' := (v, s.2.1, s.2.2)) R.area hs F
  rcases t1 with ⟨k1, k2⟩ | ⟨k1, k2⟩
  ·exact .inl (key F s (k1.trans o1) (k2.trans o2) rfl)
  ·exact .inr (key F _ k1 k2 rfl)
 ·obtain ⟨_, _, _, _, _, _, t2⟩ := R.sup hV (s' := (v, s.2.1, s.2.2)) R.area hs F
  exact key _ _ t2.1 t2.2 rfl
end
section
variable {P T A M W Q : Int} {S : List Sec} {m : Mt} {b : Txt} {t' : List Rc} {B V : Int}
theorem Runs12.one (R : Runs12 P T A M W Q S m.s m.t m.n B V) (hk : mayM P T A M W Q m) (hB : B ≤ 65536 * m.s.1 + m.u) (hg : isG m.s.2.2) (hp : putR m.t b = some t') (hn : m.n < A) (hby : ∀ z ∈ b, isByte z) (F : List Int) :
  mayD S [(2 + m.s.2.1 * A + m.n, jT m.s.2.2 m.n b)] = true ∧
  (Runs12 P T A M W Q (crS S [(2 + m.s.2.1 * A + m.n, jT m.s.2.2 m.n b)] F) m.s m.t m.n B V ∨ Runs12 P T A M W Q (crS S [(2 + m.s.2.1 * A + m.n, jT m.s.2.2 m.n b)] F) m.s t' (m.n + 1) B V) ∧
  Runs12 P T A M W Q (flS S [(2 + m.s.2.1 * A + m.n, jT m.s.2.2 m.n b)]) m.s t' (m.n + 1) B V := by
 obtain ⟨hmay, j1, j2⟩ := met_one R.may R.tells hk hg (R.fine hB) hp hn F
 have ha := arJ_of R.area
 obtain ⟨b1, b2⟩ := note_len hp
 have hn0 := hk.2.2.1.1
 have hA : (3 : Int) ≤ A := by have := R.may.1; unfold mayC at this; omega
 have hA32 : A ≤ 32 := by have := R.may.1; unfold mayC at this; omega
 obtain ⟨n, hN⟩ : ∃ n : Nat, m.n = (n : Int) := ⟨m.n.toNat, by omega⟩
 have h2 := (area_off ha hA).2.2
 have hx2 : 2 ≤ 2 + m.s.2.1 * A + m.n := by omega
 have common : ∀ F, mayT P T A M W Q (crS S [(2 + m.s.2.1 * A + m.n, jT m.s.2.2 m.n b)] F) [] ∧
   (∀ (a : Int) (k : Nat), arJ a → (k : Int) < A → ∀ x, optAt (crS S [(2 + m.s.2.1 * A + m.n, jT m.s.2.2 m.n b)] F) [] (2 + a * A + (k : Int)) = some x → x.getD 8 0 = 1 → val (x.take 8) ≤ B) ∧
   (∀ j : Nat, j < 2 → ∀ x, optAt (crS S [(2 + m.s.2.1 * A + m.n, jT m.s.2.2 m.n b)] F) [] (j : Int) = some x → verOf x ≤ V) ∧
   (∀ x ∈ crS S [(2 + m.s.2.1 * A + m.n, jT m.s.2.2 m.n b)] F, ∀ z ∈ x.2, isByte z) ∧
   (∀ (a : Int) (k : Nat), arJ a → (k : Int) < A → ¬ (a = m.s.2.1 ∧ (k : Int) < m.n + 1) → ∀ x, optAt (crS S [(2 + m.s.2.1 * A + m.n, jT m.s.2.2 m.n b)] F) [] (2 + a * A + (k : Int)) = some x → ¬ begT m.s.2.2 x) := fun F => by
  obtain ⟨c1, c2⟩ := cr_may hmay F
  obtain ⟨off, here⟩ := crash_one R.may.2.1 hmay F
  refine ⟨may_len R.may c1 c2, fun a k h hk x hx h8 => ?_, fun j hj x hx => ?_, ?_, fun a k h hk ho x hx => ?_⟩
  ·by_cases e : 2 + a * A + (k : Int) = 2 + m.s.2.1 * A + m.n
   ·rw [e] at hx
    rcases here with q | q | q
    ·rw [q, ← e] at hx
     exact R.top a k h hk x hx h8
    ·rw [q] at hx
     have hx := Option.some.inj hx
     subst hx
     rw [(jT_beg hg).2]
     exact R.gen.2
    ·rw [q] at hx; cases hx
   ·rw [off _ e] at hx
    exact R.top a k h hk x hx h8
  ·rw [off _ (by omega)] at hx
   exact R.ver.2 j hj x hx
  ·refine cr_byte R.byte (fun p hp => ?_) F
   obtain rfl : p = (2 + m.s.2.1 * A + m.n, jT m.s.2.2 m.n b) := by simpa using hp
   exact jT_byte _ _ hby
  ·have e : 2 + a * A + (k : Int) ≠ 2 + m.s.2.1 * A + m.n := fun e => by
    rw [hN] at e
    obtain ⟨e1, e2⟩ := at_inj h ha hk (by omega) e
    exact ho ⟨e1, by omega⟩
   rw [off _ e] at hx
   exact R.out a k h hk (fun q => ho ⟨q.1, by omega⟩) x hx
 refine ⟨hmay, ?_, ?_⟩
 ·obtain ⟨k1, k2, k3, k4, k5⟩ := common F
  rcases j1 with j | j
  ·left
   refine ⟨k1, j, R.tab, R.area, R.gen, k2, fun a k h hk ho x hx => ?_, ⟨R.ver.1, k3⟩, k4⟩
   by_cases e : a = m.s.2.1 ∧ k = n
   ·obtain ⟨rfl, rfl⟩ := e
    obtain ⟨off, here⟩ := crash_one R.may.2.1 hmay F
    rw [← hN] at hx
    rcases here with q | q | q
    ·rw [q, hN] at hx
     exact R.out _ _ h hk ho x hx
    ·exfalso
     obtain ⟨_, _, _, o4⟩ := tells_out j
     rw [jN_length] at o4
     rcases jM_end (jf (crS S [(2 + m.s.2.1 * A + m.n, jT m.s.2.2 m.n b)] F) [] A m.s.2.1 m.s.2.2) A.toNat with r | r
     ·omega
     ·rw [show jM (jf (crS S [(2 + m.s.2.1 * A + m.n, jT m.s.2.2 m.n b)] F) [] A m.s.2.1 m.s.2.2) A.toNat = k by omega] at r
      unfold jf at r
      rw [← hN, q] at r
      have : noteT m.s.2.2 m.n (jT m.s.2.2 m.n b) = [] := r
      rw [noteT_new hg (by omega) b1 b2] at this
      rw [this] at b1
      cases b1
    ·rw [q] at hx; cases hx
   ·exact k5 a k h hk (fun q => ho ⟨q.1, by
     by_cases r : (k : Int) < m.n
     ·exact r
     ·exact absurd ⟨q.1, by omega⟩ e⟩) x hx
  ·right
   exact ⟨k1, j, (put_may hp).2, R.area, R.gen, k2, k5, ⟨R.ver.1, k3⟩, k4⟩
 ·obtain ⟨k1, k2, k3, k4, k5⟩ := common (List.replicate 1 1)
  exact ⟨k1, j2, (put_may hp).2, R.area, R.gen, k2, k5, ⟨R.ver.1, k3⟩, k4⟩
theorem Runs12.anew (R : Runs12 P T A M W Q S m.s m.t m.n B V) (hk : mayM P T A M W Q m) (hB : B ≤ 65536 * m.s.1 + m.u) (hs : isS (anewS m)) (hp : putR m.t b = some t') (hall : allR t') (hV : V < 4294967295) :
  (∀ k, k ≤ t'.length → mayD S (writesP (2 + (1 - m.s.2.1) * A) (rowsT (nextM m) t') k) = true ∧ ∀ F, Runs12 P T A M W Q (crS S (writesP (2 + (1 - m.s.2.1) * A) (rowsT (nextM m) t') k) F) m.s m.t m.n (nextM m) V) ∧
  Runs12 P T A M W Q (flS S (rowsP A (1 - m.s.2.1) (nextM m) t')) m.s m.t m.n (nextM m) V ∧
  spE P T A M W Q S [] (anewS m) = 0 ∧
  spL P T A M W Q (flS S (rowsP A (1 - m.s.2.1) (nextM m) t')) [] (anewS m) = spL P T A M W Q S [] (anewS m) ∧
  mayD (flS S (rowsP A (1 - m.s.2.1) (nextM m) t')) (spL P T A M W Q S [] (anewS m)) = true ∧
  (∀ F, Runs12 P T A M W Q (crS (flS S (rowsP A (1 - m.s.2.1) (nextM m) t')) (spL P T A M W Q S [] (anewS m)) F) m.s m.t m.n (nextM m) (V + 1) ∨ Runs12 P T A M W Q (crS (flS S (rowsP A (1 - m.s.2.1) (nextM m) t')) (spL P T A M W Q S [] (anewS m)) F) (anewS m) t' (t'.length : Int) (nextM m) (V + 1)) ∧
  Runs12 P T A M W Q (flS (flS S (rowsP A (1 - m.s.2.1) (nextM m) t')) (spL P T A M W Q S [] (anewS m))) (anewS m) t' (t'.length : Int) (nextM m) (V + 1) := by
 have harea' : arS (anewS m).2.1 := by have := R.area; unfold arS at this ⊢; show 1 - m.s.2.1 = 0 ∨ 1 - m.s.2.1 = 1; omega
 have hsp := (R.sp hV harea').1
 have ha := arJ_of R.area
 have ha' : arJ (1 - m.s.2.1) := arJ_of harea'
 have hA : (3 : Int) ≤ A := by have := R.may.1; unfold mayC at this; omega
 have h3 := three_of12 (put_may hp).2
 have hg' : isG (nextM m) := hs.2
 have hlt : B < nextM m := by unfold nextM; omega
 have hrb : ∀ t ∈ rowsT (nextM m) t', ∀ z ∈ t, isByte z := fun t ht => by
  unfold rowsT at ht
  obtain ⟨i, hi, rfl⟩ := List.mem_map.1 ht
  exact jT_byte _ _ (recT_byte _)
 have hby : ∀ k F, ∀ x ∈ crS S (writesP (2 + (1 - m.s.2.1) * A) (rowsT (nextM m) t') k) F, ∀ z ∈ x.2, isByte z := fun k F => cr_byte R.byte (writes_byte hrb) F
 obtain ⟨p1, ⟨p2, p3⟩, p4, p5, p6, p7⟩ := met_anew R.may R.tells hk hs (R.fine hB) hp hall hsp (hby _ _)
 have newx : ∀ k F, k ≤ t'.length → ∀ y x, optAt (crS S (writesP (2 + (1 - m.s.2.1) * A) (rowsT (nextM m) t') k) F) [] y = some x → optAt S [] y = some x ∨ (∃ j : Nat, j < t'.length ∧ y = 2 + (1 - m.s.2.1) * A + (j : Int) ∧ begT (nextM m) x) := fun k F hkl y x hx => by
  rcases cr_see R.may.2.1 (p1 k hkl).1 F y with c | ⟨c1, c2, c | c⟩
  ·left; rw [← c]; exact hx
  ·right
   rw [c] at hx
   have hx := Option.some.inj hx
   refine ⟨(y - (2 + (1 - m.s.2.1) * A)).toNat, by omega, by omega, ?_⟩
   rw [← hx, rowsT_at _ _ (by omega)]
   exact jT_beg hg'
  ·rw [c] at hx; cases hx
 have part : ∀ k F, k ≤ t'.length → Runs12 P T A M W Q (crS S (writesP (2 + (1 - m.s.2.1) * A) (rowsT (nextM m) t') k) F) m.s m.t m.n (nextM m) V := fun k F hkl => by
  obtain ⟨hmay, T⟩ := p1 k hkl
  obtain ⟨c1, c2⟩ := cr_may hmay F
  refine ⟨may_len R.may c1 c2, T F, R.tab, R.area, ⟨R.gen.1, by have := R.gen.2; omega⟩, fun a i h hi x hx h8 => ?_, fun a i h hi ho x hx => ?_, ⟨R.ver.1, fun j hj x hx => ?_⟩, hby k F⟩
  ·rcases newx k F hkl _ x hx with c | ⟨_, _, _, c⟩
   ·have := R.top a i h hi x c h8; omega
   ·rw [c.2]; exact Int.le_refl _
  ·rcases newx k F hkl _ x hx with c | ⟨_, _, _, c⟩
   ·exact R.out a i h hi ho x c
   ·intro q
    have := R.gen.2
    have e := c.2.symm.trans q.2
    omega
  ·rcases newx k F hkl _ x hx with c | ⟨i, _, c, _⟩
   ·exact R.ver.2 j hj x c
   ·have := (area_off ha hA).2.1
    omega
 have R1 := part t'.length (List.replicate (writesP (2 + (1 - m.s.2.1) * A) (rowsT (nextM m) t') t'.length).length 1) (Nat.le_refl _)
 have new1 := newx t'.length (List.replicate (writesP (2 + (1 - m.s.2.1) * A) (rowsT (nextM m) t') t'.length).length 1) (Nat.le_refl _)
 change Runs12 P T A M W Q (flS S (rowsP A (1 - m.s.2.1) (nextM m) t')) m.s m.t m.n (nextM m) V at R1
 change ∀ y x, optAt (flS S (rowsP A (1 - m.s.2.1) (nextM m) t')) [] y = some x → optAt S [] y = some x ∨ (∃ j : Nat, j < t'.length ∧ y = 2 + (1 - m.s.2.1) * A + (j : Int) ∧ begT (nextM m) x) at new1
 have behind : ∀ F, (∀ s1 t1 n1, Tells P T A M W Q (crS (flS S (rowsP A (1 - m.s.2.1) (nextM m) t')) (spL P T A M W Q S [] (anewS m)) F) s1 t1 n1 → ((s1 = m.s ∧ t1 = m.t ∧ n1 = m.n) ∨ (s1 = anewS m ∧ t1 = t' ∧ n1 = (t'.length : Int))) → Runs12 P T A M W Q (crS (flS S (rowsP A (1 - m.s.2.1) (nextM m) t')) (spL P T A M W Q S [] (anewS m)) F) s1 t1 n1 (nextM m) (V + 1)) := fun F s1 t1 n1 hT hw => by
  obtain ⟨_, hm', off, hver, hb', _, _⟩ := R1.sup hV (s' := anewS m) harea' hs F
  rw [p4] at hm' off hver hb'
  have hat : ∀ (a : Int) (k : Nat), arJ a → 2 ≤ 2 + a * A + (k : Int) := fun a k h => by have := (area_off h hA).2.2; omega
  have top : ∀ (a : Int) (k : Nat), arJ a → (k : Int) < A → ∀ x, optAt (crS (flS S (rowsP A (1 - m.s.2.1) (nextM m) t')) (spL P T A M W Q S [] (anewS m)) F) [] (2 + a * A + (k : Int)) = some x → x.getD 8 0 = 1 → val (x.take 8) ≤ nextM m := fun a k h hk x hx h8 => by
   rw [off _ (hat a k h)] at hx
   exact R1.top a k h hk x hx h8
  rcases hw with ⟨rfl, rfl, rfl⟩ | ⟨rfl, rfl, rfl⟩
  ·exact ⟨hm', hT, R.tab, R.area, ⟨R.gen.1, by have := R.gen.2; omega⟩, top, fun a k h hk ho x hx => by rw [off _ (hat a k h)] at hx; exact R1.out a k h hk ho x hx, ⟨by have := R.ver.1; omega, hver⟩, hb'⟩
  ·refine ⟨hm', hT, (put_may hp).2, harea', ⟨hg'.1, Int.le_refl _⟩, top, fun a k h hk ho x hx => ?_, ⟨by have := R.ver.1; omega, hver⟩, hb'⟩
   rw [off _ (hat a k h)] at hx
   rcases new1 _ x hx with c | ⟨j, hj, c, _⟩
   ·intro q
    have := R.top a k h hk x c q.1
    have e : val (x.take 8) = nextM m := q.2
    omega
   ·obtain ⟨e1, e2⟩ := at_inj h ha' hk (show (j : Int) < A by omega) c
    exact absurd ⟨e1, by omega⟩ ho
 refine ⟨fun k hk => ⟨(p1 k hk).1, fun F => part k F hk⟩, R1, hsp, p4, p5, fun F => ?_, ?_⟩
 ·rcases p6 F with T | T
  ·exact .inl (behind F _ _ _ T (.inl ⟨rfl, rfl, rfl⟩))
  ·exact .inr (behind F _ _ _ T (.inr ⟨rfl, rfl, rfl⟩))
 ·exact behind _ _ _ _ p7 (.inr ⟨rfl, rfl, rfl⟩)
end
def dnA : List Ac → Nat → List Sec → List Pnd → Option (List Sec × List Pnd)
 | _, 0, S, C => some (S, C)
 | [], _ + 1, S, C => some (S, C)
 | a :: l, k + 1, S, C => if a.1 = 1 then (if wrE S C a.2.1 a.2.2 = 0 then dnA l k S (C ++ [(a.2.1, a.2.2)]) else none) else if a.1 = 2 then (if mayD S C = true then dnA l k (flS S C) [] else none) else none
theorem dnA_nil (k : Nat) (S : List Sec) (C : List Pnd) : dnA [] k S C = some (S, C) := by cases k <;> rfl
theorem wr_zero {S : List Sec} {C L : List Pnd} {p : Pnd} (h : mayD S (C ++ p :: L) = true) : wrE S C p.1 p.2 = 0 := by
 have h' := (mayD_iff _ _).1 h
 obtain ⟨⟨h1, h2, h3⟩, h4, h5⟩ := h'
 have hC : mayD S C = true := (mayD_iff _ _).2 ⟨⟨h1, h2, by rw [List.length_append, List.length_cons] at h3; omega⟩, h4, fun q hq => h5 q (List.mem_append_left _ hq)⟩
 obtain ⟨q1, q2, q3⟩ := h5 p (List.mem_append_right _ (List.mem_cons_self ..))
 have ha : askE S C p.1 = 0 := by
  unfold askE
  rw [if_pos hC, if_neg (by omega)]
 rw [List.length_append, List.length_cons] at h3
 unfold wrE
 rw [if_pos ha, if_pos q3, if_neg (by omega)]
theorem dnA_writes : ∀ (L : List Pnd) (r : List Ac) (S : List Sec) (C : List Pnd), mayD S (C ++ L) = true → ∀ k, dnA (wrA L ++ r) k S C = if k ≤ L.length then some (S, C ++ L.take k) else dnA r (k - L.length) S (C ++ L) := by
 intro L
 induction L with
 | nil =>
  intro r S C h k
  show dnA r k S C = _
  cases k with
  | zero => rw [if_pos (Nat.zero_le _)]; simp [dnA]
  | succ k => rw [if_neg (by simp), List.append_nil]; rfl
 | cons p L ih =>
  intro r S C h k
  cases k with
  | zero => rw [if_pos (Nat.zero_le _)]; simp [dnA]
  | succ k =>
   have e : dnA (wrA (p :: L) ++ r) (k + 1) S C = if wrE S C p.1 p.2 = 0 then dnA (wrA L ++ r) k S (C ++ [(p.1, p.2)]) else none := rfl
   rw [e, if_pos (wr_zero h), ih r S (C ++ [(p.1, p.2)]) (by rw [List.append_assoc]; exact h) k]
   by_cases hk : k ≤ L.length
   ·rw [if_pos hk, if_pos (by simpa using hk), List.append_assoc]; rfl
   ·rw [if_neg hk, if_neg (by simpa using hk), List.append_assoc]
    simp
theorem dnA_acts {L : List Pnd} (r : List Ac) {S : List Sec} (h : mayD S L = true) (k : Nat) : dnA (actsA L ++ r) k S [] = if k ≤ L.length then some (S, L.take k) else dnA r (k - (L.length + 1)) (flS S L) [] := by
 unfold actsA
 rw [List.append_assoc, dnA_writes L ([(2, 0, [])] ++ r) S [] h k]
 by_cases hk : k ≤ L.length
 ·rw [if_pos hk, if_pos hk]; rfl
 ·rw [if_neg hk, if_neg hk]
  obtain ⟨j, hj⟩ : ∃ j, k - L.length = j + 1 := ⟨k - L.length - 1, by omega⟩
  rw [hj, show k - (L.length + 1) = j by omega]
  show (if (2 : Int) = 1 then _ else if (2 : Int) = 2 then (if mayD S L = true then dnA r j (flS S L) [] else none) else none) = _
  rw [if_neg (by decide), if_pos rfl, if_pos h]
theorem actsA_length (L : List Pnd) : (actsA L).length = L.length + 1 := by simp [actsA, wrA]
theorem writesP_take (base : Int) (l : List Txt) {n k : Nat} (h : k ≤ n) : (writesP base l n).take k = writesP base l k := by
 rw [writesP_eq, writesP_eq, ← List.map_take, List.take_range, Nat.min_eq_left h]
theorem writesP_len (base : Int) (l : List Txt) (n : Nat) : (writesP base l n).length = n := by rw [writesP_eq]; simp
theorem may_sub {S : List Sec} {L : List Pnd} (h : mayD S L = true) (k : Nat) : mayD S (L.take k) = true := by
 obtain ⟨⟨h1, h2, h3⟩, h4, h5⟩ := (mayD_iff _ _).1 h
 exact (mayD_iff _ _).2 ⟨⟨h1, h2, by rw [List.length_take]; omega⟩, h4, fun q hq => h5 q (List.mem_of_mem_take hq)⟩
section
variable {P T A M W Q : Int} {S : List Sec} {m : Mt} {b : Txt} {t' : List Rc} {B V : Int}
def cmM (A : Int) (m : Mt) (t' : List Rc) : Mt := if m.n < A then ⟨m.s, m.n + 1, m.u, t'⟩ else ⟨anewS m, (t'.length : Int), m.u + 1, t'⟩
def cmA (P T A M W Q : Int) (S : List Sec) (C : List Pnd) (m : Mt) (b : Txt) (t' : List Rc) : List Ac := if m.n < A then actsA [(2 + m.s.2.1 * A + m.n, jT m.s.2.2 m.n b)] else actsA (rowsP A (1 - m.s.2.1) (nextM m) t') ++ actsA (spL P T A M W Q S C (anewS m))
theorem Runs12.commit (R : Runs12 P T A M W Q S m.s m.t m.n B V) (hk : mayM P T A M W Q m) (hB : B ≤ 65536 * m.s.1 + m.u) (hg : isG m.s.2.2) (hs : isS (anewS m)) (hp : putR m.t b = some t') (hall : allR t') (hby : ∀ z ∈ b, isByte z) (hV : V < 4294967295) (many : Nat) :
  ∃ S' C', dnA (cmA P T A M W Q S [] m b t') many S [] = some (S', C') ∧ mayD S' C' = true ∧
   (∀ F, Runs12 P T A M W Q (crS S' C' F) m.s m.t m.n (nextM m) (V + 1) ∨ Runs12 P T A M W Q (crS S' C' F) (cmM A m t').s t' (cmM A m t').n (nextM m) (V + 1)) ∧
   ((cmA P T A M W Q S [] m b t').length ≤ many → C' = [] ∧ Runs12 P T A M W Q S' (cmM A m t').s t' (cmM A m t').n (65536 * (cmM A m t').s.1 + (cmM A m t').u) (V + 1)) := by
 have hlt : B ≤ nextM m := by unfold nextM; omega
 have same : ∀ {S' s t n B V}, Runs12 P T A M W Q S' s t n B V → ∀ F, crS S' [] F = S' := fun R' F => cr_none R'.may.2.1 F
 unfold cmM cmA
 by_cases hn : m.n < A
 ·rw [if_pos hn, if_pos hn]
  have hmay := (R.one hk hB hg hp hn hby []).1
  have e := dnA_acts [] hmay many
  rw [List.append_nil] at e
  rw [e, actsA_length, show [(2 + m.s.2.1 * A + m.n, jT m.s.2.2 m.n b)].length = 1 from rfl]
  by_cases hm : many ≤ 1
  ·rw [if_pos hm]
   refine ⟨_, _, rfl, may_sub hmay many, fun F => ?_, fun h => absurd h (by omega)⟩
   rcases (show many = 0 ∨ many = 1 by omega) with rfl | rfl
   ·left
    rw [List.take_zero, same R F]
    exact R.mono hlt (by omega)
   ·rcases (R.one hk hB hg hp hn hby F).2.1 with r | r
    ·exact .inl (r.mono hlt (by omega))
    ·exact .inr (r.mono hlt (by omega))
  ·rw [if_neg hm, dnA_nil]
   have r := (R.one hk hB hg hp hn hby []).2.2
   exact ⟨_, _, rfl, r.may.2.1, fun F => .inr (by rw [same r F]; exact r.mono hlt (by omega)), fun _ => ⟨rfl, r.mono hB (by omega)⟩⟩
 ·rw [if_neg hn, if_neg hn]
  obtain ⟨p1, r1, _, p4, p5, p6, p7⟩ := R.anew hk hB hs hp hall hV
  have hLen : (spL P T A M W Q S [] (anewS m)).length = 1 := by
   have ha : arS (anewS m).2.1 := by have := R.area; unfold arS at this ⊢; show 1 - m.s.2.1 = 0 ∨ 1 - m.s.2.1 = 1; omega
   obtain ⟨_, base, v, _, hL, _⟩ := R.sp hV ha
   rw [hL, writesP_len]
  have hb2 : nextM m ≤ 65536 * (anewS m).1 + (m.u + 1) := by unfold nextM anewS; dsimp only; omega
  have hlr : (rowsP A (1 - m.s.2.1) (nextM m) t').length = t'.length := writesP_len _ _ _
  have hmay := (p1 t'.length (Nat.le_refl _)).1
  rw [dnA_acts _ (show mayD S (rowsP A (1 - m.s.2.1) (nextM m) t') = true from hmay) many, hlr]
  by_cases h1 : many ≤ t'.length
  ·rw [if_pos h1]
   refine ⟨_, _, rfl, may_sub hmay many, fun F => ?_, fun h => absurd h (by rw [List.length_append, actsA_length, actsA_length, hlr]; omega)⟩
   left
   unfold rowsP
   rw [writesP_take _ _ h1]
   exact ((p1 many h1).2 F).mono (Int.le_refl _) (by omega)
  ·rw [if_neg h1]
   have e := dnA_acts [] p5 (many - (t'.length + 1))
   rw [List.append_nil] at e
   rw [e, hLen]
   by_cases h2 : many - (t'.length + 1) ≤ 1
   ·rw [if_pos h2]
    refine ⟨_, _, rfl, may_sub p5 _, fun F => ?_, fun h => absurd h (by rw [List.length_append, actsA_length, actsA_length, hlr, hLen]; omega)⟩
    rcases (show many - (t'.length + 1) = 0 ∨ many - (t'.length + 1) = 1 by omega) with q | q <;> rw [q]
    ·left
     rw [List.take_zero, same r1 F]
     exact r1.mono (Int.le_refl _) (by omega)
    ·rw [List.take_of_length_le (by omega)]
     exact p6 F
   ·rw [if_neg h2, dnA_nil]
    exact ⟨_, _, rfl, p7.may.2.1, fun F => .inr (by rw [same p7 F]; exact p7), fun _ => ⟨rfl, p7.mono hb2 (Int.le_refl _)⟩⟩
theorem Runs12.boots {s : Sup} {t : List Rc} {n : Int} (R : Runs12 P T A M W Q S s t n B V) (hV : V < 4294967295) {v : Int} (hs : isS (v, s.2.1, s.2.2)) (many : Nat) :
  spE P T A M W Q S [] (v, s.2.1, s.2.2) = 0 ∧ ∃ S' C', dnA (actsA (spL P T A M W Q S [] (v, s.2.1, s.2.2))) many S [] = some (S', C') ∧ mayD S' C' = true ∧
   (∀ F, Runs12 P T A M W Q (crS S' C' F) s t n B (V + 1) ∨ Runs12 P T A M W Q (crS S' C' F) (v, s.2.1, s.2.2) t n B (V + 1)) ∧
   ((actsA (spL P T A M W Q S [] (v, s.2.1, s.2.2))).length ≤ many → C' = [] ∧ Runs12 P T A M W Q S' (v, s.2.1, s.2.2) t n B (V + 1)) := by
 obtain ⟨hz, base, w, _, hL, _⟩ := R.sp hV (s' := (v, s.2.1, s.2.2)) R.area
 have hLen : (spL P T A M W Q S [] (v, s.2.1, s.2.2)).length = 1 := by rw [hL, writesP_len]
 have hmay := (R.sup hV (s' := (v, s.2.1, s.2.2)) R.area hs []).1
 have same : ∀ {S' s t n B V}, Runs12 P T A M W Q S' s t n B V → ∀ F, crS S' [] F = S' := fun R' F => cr_none R'.may.2.1 F
 refine ⟨hz, ?_⟩
 have e := dnA_acts [] hmay many
 rw [List.append_nil] at e
 rw [e, actsA_length, hLen]
 by_cases h2 : many ≤ 1
 ·rw [if_pos h2]
  refine ⟨_, _, rfl, may_sub hmay _, fun F => ?_, fun h => absurd h (by omega)⟩
  rcases (show many = 0 ∨ many = 1 by omega) with q | q <;> rw [q]
  ·left
   rw [List.take_zero, same R F]
   exact R.mono (Int.le_refl _) (by omega)
  ·rw [List.take_of_length_le (by omega)]
   exact (R.boot hV hs F).1
 ·rw [if_neg h2, dnA_nil]
  have r := (R.boot hV hs []).2
  exact ⟨_, _, rfl, r.may.2.1, fun F => .inr (by rw [same r F]; exact r), fun _ => ⟨rfl, r⟩⟩
end
theorem met_commit {P T A M W Q : Int} {S : List Sec} {m : Mt} {b : Txt} {t' : List Rc} (hm : mayT P T A M W Q S []) (hT : Tells P T A M W Q S m.s m.t m.n) (hk : mayM P T A M W Q m) (hg : isG m.s.2.2) (hs : isS (anewS m)) (hf : fineM A S [] m) (hp : putR m.t b = some t') (hall : allR t') (hS : ∀ x ∈ S, ∀ z ∈ x.2, isByte z)
  (hsp : ¬ m.n < A → spE P T A M W Q S [] (anewS m) = 0) (many : Nat) :
  ∃ S' C', dnA (cmA P T A M W Q S [] m b t') many S [] = some (S', C') ∧ mayD S' C' = true ∧
   (∀ F, Tells P T A M W Q (crS S' C' F) m.s m.t m.n ∨ Tells P T A M W Q (crS S' C' F) (cmM A m t').s t' (cmM A m t').n) ∧
   ((cmA P T A M W Q S [] m b t').length ≤ many → C' = [] ∧ ∀ F, Tells P T A M W Q (crS S' C' F) (cmM A m t').s t' (cmM A m t').n) := by
 unfold cmM cmA
 by_cases hn : m.n < A
 ·rw [if_pos hn, if_pos hn]
  obtain ⟨hmay, _, j2⟩ := met_one hm hT hk hg hf hp hn []
  have hfl : mayD (flS S [(2 + m.s.2.1 * A + m.n, jT m.s.2.2 m.n b)]) [] = true := (cr_may hmay _).1
  have e := dnA_acts [] hmay many
  rw [List.append_nil] at e
  rw [e, actsA_length, show [(2 + m.s.2.1 * A + m.n, jT m.s.2.2 m.n b)].length = 1 from rfl]
  by_cases h1 : many ≤ 1
  ·rw [if_pos h1]
   refine ⟨_, _, rfl, may_sub hmay many, fun F => ?_, fun h => absurd h (by omega)⟩
   rcases (show many = 0 ∨ many = 1 by omega) with rfl | rfl
   ·left
    rw [List.take_zero, cr_none hm.2.1]
    exact hT
   ·exact (met_one hm hT hk hg hf hp hn F).2.1
  ·rw [if_neg h1, dnA_nil]
   exact ⟨_, _, rfl, hfl, fun F => .inr (by rw [cr_none hfl]; exact j2), fun _ => ⟨rfl, fun F => by rw [cr_none hfl]; exact j2⟩⟩
 ·rw [if_neg hn, if_neg hn]
  have hrb : ∀ t ∈ rowsT (nextM m) t', ∀ z ∈ t, isByte z := fun t ht => by
   unfold rowsT at ht
   obtain ⟨i, hi, rfl⟩ := List.mem_map.1 ht
   exact jT_byte _ _ (recT_byte _)
  obtain ⟨p1, ⟨p2, p3⟩, p4, p5, p6, p7⟩ := met_anew hm hT hk hs hf hp hall (hsp hn) (cr_byte hS (writes_byte hrb) _)
  obtain ⟨L, hL⟩ : ∃ L, L = spL P T A M W Q S [] (anewS m) := ⟨_, rfl⟩
  rw [← hL] at p4 p5 p6 p7 ⊢
  have hfl : mayD (flS (flS S (rowsP A (1 - m.s.2.1) (nextM m) t')) L) [] = true := (cr_may p5 _).1
  have hlr : (rowsP A (1 - m.s.2.1) (nextM m) t').length = t'.length := writesP_len _ _ _
  have hmay := (p1 t'.length (Nat.le_refl _)).1
  have hLen : L.length = 1 := by
   obtain ⟨_, _, hc⟩ := spE_zero (hsp hn)
   rw [hL, show spL P T A M W Q S [] (anewS m) = cpL S [] 0 1 (suT (anewS m)) from if_pos (hsp hn)]
   unfold cpL
   rw [if_pos hc]
   exact writesP_len _ _ _
  rw [dnA_acts _ (show mayD S (rowsP A (1 - m.s.2.1) (nextM m) t') = true from hmay) many, hlr]
  by_cases h1 : many ≤ t'.length
  ·rw [if_pos h1]
   refine ⟨_, _, rfl, may_sub hmay many, fun F => ?_, fun h => absurd h (by rw [List.length_append, actsA_length, actsA_length, hlr]; omega)⟩
   left
   unfold rowsP
   rw [writesP_take _ _ h1]
   exact (p1 many h1).2 F
  ·rw [if_neg h1]
   have e := dnA_acts [] p5 (many - (t'.length + 1))
   rw [List.append_nil] at e
   rw [e, hLen]
   by_cases h2 : many - (t'.length + 1) ≤ 1
   ·rw [if_pos h2]
    refine ⟨_, _, rfl, may_sub p5 _, fun F => ?_, fun h => absurd h (by rw [List.length_append, actsA_length, actsA_length, hlr, hLen]; omega)⟩
    rcases (show many - (t'.length + 1) = 0 ∨ many - (t'.length + 1) = 1 by omega) with q | q <;> rw [q]
    ·left
     rw [List.take_zero, cr_none p2.2.1]
     exact p3
    ·rw [List.take_of_length_le (by omega)]
     exact p6 F
   ·rw [if_neg h2, dnA_nil]
    exact ⟨_, _, rfl, hfl, fun F => .inr (by rw [cr_none hfl]; exact p7), fun _ => ⟨rfl, fun F => by rw [cr_none hfl]; exact p7⟩⟩
theorem opt_blank {N : Nat} (h : mayD (List.replicate N (false, noughts)) [] = true) {y : Int} {x : Txt} (hx : optAt (List.replicate N (false, noughts)) [] y = some x) : x = noughts := by
 by_cases hi : 0 ≤ y ∧ y < ((List.replicate N ((false, noughts) : Sec)).length : Int)
 ·rw [optAt_may h hi.1 hi.2] at hx
  have e : secAt (List.replicate N (false, noughts)) y = (false, noughts) := by
   unfold secAt
   rw [List.length_replicate] at hi
   rw [gtD, List.getElem?_replicate, if_pos (by omega)]
   rfl
  rw [e] at hx
  exact (Option.some.inj hx).symm
 ·rw [opt_out h hi] at hx
  cases hx
theorem opt_blank' {N : Nat} (h : mayD (List.replicate N (false, noughts)) [] = true) {y : Int} (h0 : 0 ≤ y) (h1 : y < (N : Int)) : optAt (List.replicate N (false, noughts)) [] y = some noughts := by
 rw [optAt_may h h0 (by rw [List.length_replicate]; exact h1)]
 have e : secAt (List.replicate N (false, noughts)) y = (false, noughts) := by
  unfold secAt
  rw [gtD, List.getElem?_replicate, if_pos (by omega)]
  rfl
 rw [e]
 rfl
theorem Runs12.blank {P T A M W Q : Int} {N : Nat} (hm : mayT P T A M W Q (List.replicate N (false, noughts)) []) : Runs12 P T A M W Q (List.replicate N (false, noughts)) (0, 0, 0) [] 0 0 0 := by
 have hA : (3 : Int) ≤ A := by have := hm.1; unfold mayC at this; omega
 have hN : (2 : Int) ≤ (N : Int) := by
  have := (at_area hm (a := 0) (by unfold arJ; omega) (n := 0) (by omega)).2
  rw [List.length_replicate] at this
  omega
 have e : optsOf (List.replicate N (false, noughts)) [] 0 (2 * (1 : Int).toNat) = [some noughts, some noughts] := by
  show [optAt _ [] 0, optAt _ [] 1] = _
  rw [opt_blank' hm.2.1 (by omega) (by omega), opt_blank' hm.2.1 (by omega) (by omega)]
 have hc : crE (List.replicate N (false, noughts)) [] 0 1 = 6 := by
  unfold crE
  rw [if_pos (cell_zero hm), e]
  decide
 have h1 : srE P T A M W Q (List.replicate N (false, noughts)) [] = 0 := by
  unfold srE smE
  rw [if_pos hm, hc]
  rfl
 have h2 : srV P T A M W Q (List.replicate N (false, noughts)) [] = (0, 0, 0) := by
  unfold srV smV
  rw [if_pos hm, hc]
  rfl
 have hj : jN (jf (List.replicate N (false, noughts)) [] A 0 0) A.toNat = [] := by
  have : jM (jf (List.replicate N (false, noughts)) [] A 0 0) A.toNat = 0 := jM_is (Nat.zero_le _) (fun j h => absurd h (Nat.not_lt_zero _)) (.inr (by
   unfold jf
   obtain ⟨a0, a1⟩ := at_area hm (a := 0) (by unfold arJ; omega) (n := 0) (by omega)
   rw [opt_blank' hm.2.1 a0 (by rw [List.length_replicate] at a1; exact a1)]
   decide))
  unfold jN
  rw [this]
  rfl
 have TL := tells_of h1 h2 hj (t := []) rfl
 refine ⟨hm, TL, trivial, .inl rfl, ⟨Int.le_refl _, Int.le_refl _⟩, fun a k _ _ x hx h8 => ?_, fun a k _ _ _ x hx h8 => ?_, ⟨Int.le_refl _, fun j _ x hx => ?_⟩, fun x hx z hz => ?_⟩
 ·rw [opt_blank hm.2.1 hx] at h8
  exact absurd h8 (by decide)
 ·have := h8.1
  rw [opt_blank hm.2.1 hx] at this
  exact absurd this (by decide)
 ·rw [opt_blank hm.2.1 hx]
  decide
 ·rw [List.eq_of_mem_replicate hx] at hz
  rw [List.eq_of_mem_replicate (n := 32) (a := (0 : Int)) hz]
  unfold isByte
  omega
end Go.Proofs.YtifgcfepbenpjaaGreat
namespace Go.Proofs.YtifgcfepbenpjaaGreat
open Go.RowKit
theorem GathOut.set {a w : World} {G H : Nat} {l : List Ac} {t : TypeId} {cs : List Value} (h : GathOut a G l w) (hb : Blk w H t cs) (h1 : t ≠ 75) (h2 : t ≠ 38) (h3 : t ≠ 5) (hG : G < H) (ha : a.heap.size ≤ H) (i : Nat) (u : Value) : GathOut a G l (w.setCell ⟨H, i, none⟩ u) := by
 obtain ⟨⟨A, n, c, k1, k2⟩, hB, hT⟩ := h
 refine ⟨⟨A, n, c, k1.away (by omega) i u, k2.keep fun g e cs' he _ hc => Below.heap_setCell w _ u g fun e2 => ?_⟩, hB.setCell (p := ⟨H, i, none⟩) (Nat.le_of_lt hG) u, ?_⟩
 ·have e3 : g = H := e2
  subst e3
  unfold Blk at hb
  rw [hb] at hc
  simp at hc
  rcases he with rfl | rfl
  ·exact h1 hc.2
  ·exact h3 hc.2
 ·exact ⟨Nat.le_trans hT.1 (by simp [World.setCell]), fun g hg q1 q2 => (Below.heap_setCell w _ u g (fun e => by have e' : g = H := e; omega)).trans (hT.2 g hg q1 q2)⟩
theorem GathOut.sixM {wa w : World} {G H : Nat} {l : List Ac} {v' a' g' n' u' : Int} {B' : Option Addr} {k' c' : Nat} (h : GathOut wa G l w) (hb : Blk w H 32 (metL v' a' g' n' u' B' k' c')) (hG : G < H) (ha : wa.heap.size ≤ H) (v a g n u : Int) (B : Option Addr) (k c : Nat) : GathOut wa G l ((((((w.setCell ⟨H, 0, none⟩ (.int .u32 v)).setCell ⟨H, 1, none⟩ (.int .i64 a)).setCell ⟨H, 2, none⟩ (.int .u64 g)).setCell ⟨H, 3, none⟩ (.int .i64 n)).setCell ⟨H, 4, none⟩ (.int .i64 u)).setCell ⟨H, 5, none⟩ (.slice B k c)) := by
 have q1 := h.set hb (by decide) (by decide) (by decide) hG ha 0 (.int .u32 v)
 have b1 := hb.set 0 (.int .u32 v)
 have q2 := q1.set b1 (by decide) (by decide) (by decide) hG ha 1 (.int .i64 a)
 have b2 := b1.set 1 (.int .i64 a)
 have q3 := q2.set b2 (by decide) (by decide) (by decide) hG ha 2 (.int .u64 g)
 have b3 := b2.set 2 (.int .u64 g)
 have q4 := q3.set b3 (by decide) (by decide) (by decide) hG ha 3 (.int .i64 n)
 have b4 := b3.set 3 (.int .i64 n)
 have q5 := q4.set b4 (by decide) (by decide) (by decide) hG ha 4 (.int .i64 u)
 have b5 := b4.set 4 (.int .i64 u)
 exact q5.set b5 (by decide) (by decide) (by decide) hG ha 5 (.slice B k c)
theorem OwnRecs.boxM {w : World} {base H : Nat} {A : Option Addr} {n c : Nat} {L : List Rc} {cs : List Value} (h : OwnRecs w base A n c L) (hb : Blk w H 32 cs) (i : Nat) (u : Value) : OwnRecs (w.setCell ⟨H, i, none⟩ u) base A n c L :=
 h.keep fun g cs' _ hc => Below.heap_setCell w _ u g fun e2 => by
  have e3 : g = H := e2
  subst e3
  unfold Blk at hb
  rw [hb] at hc
  simp at hc
theorem OwnRecs.boxSix {w : World} {base H : Nat} {A : Option Addr} {m d : Nat} {L : List Rc} {v' a' g' n' u' : Int} {B' : Option Addr} {k' c' : Nat} (h : OwnRecs w base A m d L) (hb : Blk w H 32 (metL v' a' g' n' u' B' k' c')) (v a g n u : Int) (B : Option Addr) (k c : Nat) : OwnRecs ((((((w.setCell ⟨H, 0, none⟩ (.int .u32 v)).setCell ⟨H, 1, none⟩ (.int .i64 a)).setCell ⟨H, 2, none⟩ (.int .u64 g)).setCell ⟨H, 3, none⟩ (.int .i64 n)).setCell ⟨H, 4, none⟩ (.int .i64 u)).setCell ⟨H, 5, none⟩ (.slice B k c)) base A m d L :=
 (((((h.boxM hb 0 _).boxM (hb.set 0 _) 1 _).boxM ((hb.set 0 _).set 1 _) 2 _).boxM (((hb.set 0 _).set 1 _).set 2 _) 3 _).boxM ((((hb.set 0 _).set 1 _).set 2 _).set 3 _) 4 _).boxM (((((hb.set 0 _).set 1 _).set 2 _).set 3 _).set 4 _) 5 _
def StepOut (w : World) (G base : Nat) (m : Mt) (l' : List Ac) (E : Int) (e : Ending) (w' : World) : Prop := ∃ A' c' l2, e = .returned (.tuple #[metV m.s.1 m.s.2.1 m.s.2.2 m.n m.u A' m.t.length c', .int .i64 E]) ∧ OwnRecs w' base A' m.t.length c' m.t ∧ GathOut w G l2 w' ∧ (E = 0 → l2 = l')
theorem pclone12_any (B : Option Addr) (k c : Nat) (t : List Rc) (w : World) (ht : Recs w B k c t) (hk : k ≤ 1000) :
  Calls Tryz.prog 78 #[.slice B k c] w fun e w' => ∃ A' c', e = .returned (.slice A' k c') ∧ OwnRecs w' w.heap.size A' k c' t ∧ Below w.heap.size w w' := by
 have hnil := Lib.run_eql_slice_nil (P := Tryz.prog) w 30 64 B k c 0 0 Tryz.underlying30
 cases B with
 | none =>
  have hk0 : k = 0 := by
   rcases Nat.eq_zero_or_pos k with h0 | h0
   ·exact h0
   ·obtain ⟨_, _, e, _⟩ := ht.row h0
    cases e
  subst hk0
  have ht0 : t = [] := List.eq_nil_of_length_eq_zero ht.len
  subst ht0
  clear ht
  go_enter Tryz.func78, Tryz.ntmps78
  go_wp2
  go_ret
  exact ⟨none, 0, rfl, OwnRecs.nil _ _, Below.refl _ _⟩
 | some ad =>
  have HT := Lh ht
  have HK := Lh (show k ≤ 100000 by omega)
  clear ht
  go_enter Tryz.func78, Tryz.ntmps78
  go_wp2_with (at_builtin; refine wpList_dup_recs w rfl (.tmp 5) (.tmp 6) rfl rfl (some ad) k c t rfl HT.out HK.out ?_; intro A' c' w2 hO hb2; have O := Lh hO; have B2 := Lh hb2; clear hO hb2)
  go_ret
  exact ⟨A', c', rfl, O.out, B2.out⟩
theorem pboot_any (G : Nat) (l : List Ac) (P T A M W Q : Int) (D : Option Addr) (nd d : Nat) (D' : Option Addr) (nd' d' : Nat) (S : List Sec) (C : List Pnd) (v a g n u : Int) (B : Option Addr) (k c : Nat) (t : List Rc) (w0 w : World) (hc : Gath w G l) (hq : Dsk w0 D nd d D' nd' d' S C) (hs : SmallD S C) (hwG : w0.heap.size ≤ G) (hb0 : Below w0.heap.size w0 w) (hi : isS (v, a, g)) (ht : Recs w0 B k c t) (hk : k ≤ 1000) (hl : l.length ≤ 100) :
  Calls Tryz.prog 39 #[ldV P T A M W Q D nd d D' nd' d' v a g n u B k c, colF G] w (StepOut w G w.heap.size (if (if v = 4294967295 then 9 else spE P T A M W Q S C (v + 1, a, g)) = 0 then ⟨(v + 1, a, g), n, 0, t⟩ else zM) (l ++ actsA (spL P T A M W Q S C (v + 1, a, g))) (if v = 4294967295 then 9 else spE P T A M W Q S C (v + 1, a, g))) := by
 have hlen := ht.len
 obtain ⟨x, hb1⟩ := led_box w P T A M W Q D nd d D' nd' d' v a g n u B k c
 obtain ⟨z, h2⟩ := met_box (w.alloc (.cells #[.int .i64 P, .int .i64 T, .int .i64 A, .int .i64 M, .int .i64 W, .int .i64 Q, .slice D nd d, .slice D' nd' d', .int .u32 v, .int .i64 a, .int .u64 g, .int .i64 n, .int .i64 u, .slice B k c] 90)) 0 0 0 0 0 none 0 0
 rw [World.size_alloc] at z
 replace x := x.below h2 x.lt
 replace hb1 := hb1.trans (h2.mono hb1.size)
 obtain ⟨w1, hw1⟩ : ∃ y, y = ((w.alloc (.cells #[.int .i64 P, .int .i64 T, .int .i64 A, .int .i64 M, .int .i64 W, .int .i64 Q, .slice D nd d, .slice D' nd' d', .int .u32 v, .int .i64 a, .int .u64 g, .int .i64 n, .int .i64 u, .slice B k c] 90)).alloc (.cells #[.int .u32 0, .int .i64 0, .int .u64 0, .int .i64 0, .int .i64 0, .slice none 0 0] 32)) := ⟨_, rfl⟩
 rw [← hw1] at x z hb1
 have hs1 : w1.heap.size = w.heap.size + 2 := by rw [hw1, World.size_alloc, World.size_alloc]
 have X := Lh x
 have Z := Lh z
 have CO := Lh (GathOut.of hc hb1)
 have B0 := Lh (hb0.trans (hb1.mono hb0.size))
 have HGL := Lh (show G < w.heap.size from hc.lt)
 obtain ⟨c0, c1, c2, c3, c4, c5, c6, c7, d0, d1, d2, d3, d4, d5⟩ := x.led
 obtain ⟨y, hk1⟩ := met_box w1 v a g n u B k c
 obtain ⟨y0, y1, y2, y3, y4, y5⟩ := y.met
 have fy := y.free
 clear x z hc hb0 y hk1 h2 hb1
 unfold StepOut
 by_cases hv : v = 4294967295
 ·rw [if_pos hv, if_neg (by decide)]
  subst hv
  dsimp only [zM, List.length_nil]
  have HS1 := Lh hs1
  clear hi hq hs ht hk hlen hl hs1
  go_enter Tryz.func39, Tryz.ntmps39
  go_upto_region 1 with fail
  rw [← hw1]
  clear hw1
  go_upto_region 2 with fail
  obtain ⟨w2, hw2⟩ : ∃ x : World, x = w1.alloc (.cells #[.int .u32 4294967295, .int .i64 a, .int .u64 g, .int .i64 n, .int .i64 u, .slice B k c] 32) := ⟨_, rfl⟩
  have hk1 : Below w1.heap.size w1 w2 := by rw [hw2]; exact (Below.refl _ _).alloc (Nat.le_refl _) _
  rw [← hw2] at y0 y1 y2 y3 y4 y5 fy ⊢
  have CO := Lh (CO.out.more hk1)
  have Z := Lh (Z.out.below hk1 Z.out.lt)
  clear hw2 hk1 c0 c1 c2 c3 c4 c5 c6 c7 d0 d1 d2 d3 d4 d5
  have fz := Z.out.free
  obtain ⟨e0, e1, e2, e3, e4, e5⟩ := Z.out.met
  go_wp2
  obtain ⟨z0, z1, z2, z3, z4, z5⟩ := (Z.out.sixM 0 0 0 0 0 none 0 0).met
  refine bodyPost_ret (v := .tuple #[metV 0 0 0 0 0 none 0 0, .int .i64 9]) ?_ rfl ⟨none, 0, l, rfl, OwnRecs.nil _ _, CO.out.sixM Z.out (by have := HGL.out; omega) (by have := HS1.out; omega) 0 0 0 0 0 none 0 0, fun h => by cases h⟩
  clear y0 y1 y2 y3 y4 y5 fy fz e0 e1 e2 e3 e4 e5
  simp [results, Tryz.f39, go_sem, z0, z1, z2, z3, z4, z5]
 ·rw [if_neg hv]
  have hv1 : v + 1 < 4294967296 := by have := hi.1.2; dsimp only at this; omega
  have hv0 : 0 ≤ v := hi.1.1
  have WS := Lh (fun wx hx hy => pwsuper_any G l P T A M W Q D nd d D' nd' d' S C v a g n u B k c (v + 1) a g w0 wx hx hq hs hy ⟨⟨by dsimp only; omega, hv1⟩, hi.2⟩ (by omega))
  have CL := Lh (fun wx hx => pclone12_any B k c t wx hx hk)
  have HT := Lh ht
  obtain ⟨E, hE⟩ : ∃ y, y = spE P T A M W Q S C (v + 1, a, g) := ⟨_, rfl⟩
  obtain ⟨ps, hps⟩ : ∃ y, y = spL P T A M W Q S C (v + 1, a, g) := ⟨_, rfl⟩
  rw [← hE, ← hps] at WS ⊢
  obtain ⟨v', rfl⟩ : ∃ x : Nat, v = (x : Int) := ⟨v.toNat, by omega⟩
  have hv' : v' + 1 < 4294967296 := by omega
  have HS1 := Lh hs1
  clear hi hq hs ht hk hv0 hv1 hE hps hl hs1
  by_cases h0 : E = 0
  ·subst h0
   rw [if_pos rfl] at WS ⊢
   dsimp only
   rw [hlen]
   clear hlen
   go_enter Tryz.func39, Tryz.ntmps39
   go_upto_region 1 with fail
   rw [← hw1]
   clear hw1
   go_upto_region 6 with fail
   obtain ⟨w2, hw2⟩ : ∃ x : World, x = w1.alloc (.cells #[.int .u32 ((v' : Int) + 1), .int .i64 a, .int .u64 g, .int .i64 n, .int .i64 0, .slice B k c] 32) := ⟨_, rfl⟩
   obtain ⟨y, hk1⟩ := met_box w1 ((v' : Int) + 1) a g n 0 B k c
   rw [← hw2] at y hk1 ⊢
   have Y := Lh y
   have X := Lh (X.out.below hk1 X.out.lt)
   have Z := Lh (Z.out.below hk1 Z.out.lt)
   have CO := Lh (CO.out.more hk1)
   have B0 := Lh (B0.out.trans (hk1.mono B0.out.size))
   clear y hk1 hw2 y0 y1 y2 y3 y4 y5 fy c0 c1 c2 c3 c4 c5 c6 c7 d0 d1 d2 d3 d4 d5
   obtain ⟨c0, c1, c2, c3, c4, c5, c6, c7, d0, d1, d2, d3, d4, d5⟩ := X.out.led
   obtain ⟨y0, y1, y2, y3, y4, y5⟩ := Y.out.met
   go_wp2_with fail
   refine (WS.out _ CO.out.1 B0.out).mono ?_
   rintro e w3 ⟨rfl, ho⟩
   have X := Lh (ho.2.2.blk X.out (by decide) (by decide))
   have Y := Lh (ho.2.2.blk Y.out (by decide) (by decide))
   have Z := Lh (ho.2.2.blk Z.out (by decide) (by decide))
   have CO := Lh (CO.out.trans ho)
   have B0 := Lh (B0.out.trans (ho.2.1.mono hwG))
   clear ho WS y0 y1 y2 y3 y4 y5 c0 c1 c2 c3 c4 c5 c6 c7 d0 d1 d2 d3 d4 d5
   obtain ⟨y0, y1, y2, y3, y4, y5⟩ := Y.out.met
   go_wp2_with fail
   refine (CL.out _ (HT.out.below B0.out)).mono ?_
   rintro e w4 ⟨A4, c4, rfl, hown, hb⟩
   have YL := Lh (show w1.heap.size < w3.heap.size from Y.out.lt)
   have Y := Lh (Y.out.below hb Y.out.lt)
   have Z := Lh (Z.out.below hb Z.out.lt)
   have CO := Lh (CO.out.more hb)
   have OR := Lh hown
   clear hown hb CL y0 y1 y2 y3 y4 y5
   obtain ⟨y0, y1, y2, y3, y4, y5⟩ := Y.out.met
   have fy := Y.out.free
   go_upto_region 10 with fail
   obtain ⟨w5, hw5⟩ : ∃ x : World, x = w4.setCell ⟨w1.heap.size, 5, none⟩ (.slice A4 k c4) := ⟨_, rfl⟩
   have hHG := HGL.out
   have hHS := HS1.out
   have Z2 := Z.out.away (g' := w1.heap.size) (by omega) 5 (.slice A4 k c4)
   have Y2 := Y.out.set 5 (.slice A4 k c4)
   have CO := Lh (CO.out.set Y.out (by decide) (by decide) (by decide) (by omega) (by omega) 5 (.slice A4 k c4))
   have OR := Lh (OR.out.boxM Y.out 5 (.slice A4 k c4))
   rw [← hw5] at Z2 Y2 CO OR ⊢
   replace Y2 : Blk w5 w1.heap.size 32 (metL ((v' : Int) + 1) a g n 0 A4 k c4) := Y2
   clear Y y0 y1 y2 y3 y4 y5 fy hw5 hHS
   have Z := Lh Z2
   obtain ⟨y0, y1, y2, y3, y4, y5⟩ := Y2.met
   have fz := Z.out.free
   obtain ⟨e0, e1, e2, e3, e4, e5⟩ := Z.out.met
   clear Y2 Z2
   go_wp2
   obtain ⟨z0, z1, z2, z3, z4, z5⟩ := (Z.out.sixM ((v' : Int) + 1) a g n 0 A4 k c4).met
   refine bodyPost_ret (v := .tuple #[metV ((v' : Int) + 1) a g n 0 A4 k c4, .int .i64 0]) ?_ rfl ⟨A4, c4, _, rfl, (OR.out.boxSix Z.out _ _ _ _ _ _ _ _).lower (by have := YL.out; have := HS1.out; omega), CO.out.sixM Z.out (by omega) (by omega) _ _ _ _ _ _ _ _, fun _ => rfl⟩
   clear y0 y1 y2 y3 y4 y5 fz e0 e1 e2 e3 e4 e5
   simp [results, Tryz.f39, go_sem, z0, z1, z2, z3, z4, z5]
  ·rw [if_neg h0] at WS ⊢
   have hz : (E != 0) = true := by simpa using h0
   dsimp only [zM, List.length_nil]
   go_enter Tryz.func39, Tryz.ntmps39
   go_upto_region 1 with fail
   rw [← hw1]
   clear hw1
   go_upto_region 6 with fail
   obtain ⟨w2, hw2⟩ : ∃ x : World, x = w1.alloc (.cells #[.int .u32 ((v' : Int) + 1), .int .i64 a, .int .u64 g, .int .i64 n, .int .i64 0, .slice B k c] 32) := ⟨_, rfl⟩
   obtain ⟨y, hk1⟩ := met_box w1 ((v' : Int) + 1) a g n 0 B k c
   rw [← hw2] at y hk1 ⊢
   have Y := Lh y
   have X := Lh (X.out.below hk1 X.out.lt)
   have Z := Lh (Z.out.below hk1 Z.out.lt)
   have CO := Lh (CO.out.more hk1)
   have B0 := Lh (B0.out.trans (hk1.mono B0.out.size))
   clear y hk1 hw2 y0 y1 y2 y3 y4 y5 fy c0 c1 c2 c3 c4 c5 c6 c7 d0 d1 d2 d3 d4 d5
   obtain ⟨c0, c1, c2, c3, c4, c5, c6, c7, d0, d1, d2, d3, d4, d5⟩ := X.out.led
   obtain ⟨y0, y1, y2, y3, y4, y5⟩ := Y.out.met
   go_wp2_with fail
   refine (WS.out _ CO.out.1 B0.out).mono ?_
   rintro e w3 ⟨rfl, ho⟩
   have X := Lh (ho.2.2.blk X.out (by decide) (by decide))
   have Y := Lh (ho.2.2.blk Y.out (by decide) (by decide))
   have Z := Lh (ho.2.2.blk Z.out (by decide) (by decide))
   have CO := Lh (CO.out.trans ho)
   have HE := Lh h0
   clear ho WS h0 y0 y1 y2 y3 y4 y5 c0 c1 c2 c3 c4 c5 c6 c7 d0 d1 d2 d3 d4 d5
   have fz := Z.out.free
   obtain ⟨e0, e1, e2, e3, e4, e5⟩ := Z.out.met
   go_wp2
   have hHG := HGL.out
   obtain ⟨z0, z1, z2, z3, z4, z5⟩ := (Z.out.sixM 0 0 0 0 0 none 0 0).met
   refine bodyPost_ret (v := .tuple #[metV 0 0 0 0 0 none 0 0, .int .i64 E]) ?_ rfl ⟨none, 0, _, rfl, OwnRecs.nil _ _, CO.out.sixM Z.out (by omega) (by omega) _ _ _ _ _ _ _ _, fun h => absurd h HE.out⟩
   clear fz e0 e1 e2 e3 e4 e5
   simp [results, Tryz.f39, go_sem, z0, z1, z2, z3, z4, z5]
end Go.Proofs.YtifgcfepbenpjaaGreat
