/- Layer 7: the walk of PlaceBack. -/
import Derived.Test.YtghdcajojbbllaaPlBk
import Derived.Laws.BitsAllLaws
namespace Go.Proofs.Ytghdcajojbbllaa
open Go.RowKit
set_option linter.unusedVariables false

set_option maxRecDepth 100000 in
set_option maxHeartbeats 12800000 in
theorem walk_PlaceBack (P T A M W Q : Int) (a1 a2 a3 : Int) (w : World) (w0a : (Lit.int .i64 P).wf = true) (w0b : (Lit.int .i64 T).wf = true) (w0c : (Lit.int .i64 A).wf = true) (w0d : (Lit.int .i64 M).wf = true) (w0e : (Lit.int .i64 W).wf = true) (w0f : (Lit.int .i64 Q).wf = true) (w1 : (Lit.int .i64 a1).wf = true) (w2 : (Lit.int .i64 a2).wf = true) (w3 : (Lit.int .u8 a3).wf = true) :
    Calls Try.prog 12 #[cfgV P T A M W Q, .int .i64 a1, .int .i64 a2, .int .u8 a3] w fun e w' => e = .returned (.bool true) ∧ Below w.heap.size w w' := by
  have hby := wf_byte w3
  have hm0 : 0 ≤ a3 % 4 ∧ a3 % 4 < 4 := by omega
  clear w0a w0b w0c w0d w0e w0f
  clear w1 w2 w3
  obtain ⟨x0, hbel⟩ := box_cfg w P T A M W Q
  obtain ⟨c0, c1, c2, c3, c4, c5⟩ := x0.cfg
  have X := Lib.hid x0
  have BEL := Lib.hid hbel
  clear x0 hbel
  have AL := Lib.hid alive_place
  have K1 := Lib.hid (fun w' : World => parea_any P T A M W Q a1 a2 w')
  have K2 := Lib.hid (fun w' : World => ppage_any P T A M W Q a1 a2 w')
  have K3 := Lib.hid (fun w' : World => ptrack_any P T A M W Q a1 a2 w')
  have W1 := Lib.hid (fun w' : World => pwhat_any P T A M W Q (areN P T A M W Q a1 a2) w')
  have W2 := Lib.hid (fun w' : World => pwhat_any P T A M W Q (pgeN P T A M W Q a1 a2) w')
  have W3 := Lib.hid (fun w' : World => pwhat_any P T A M W Q (traN P T A M W Q a1 a2 + a3 % 4) w')
  have hA := fun h => are_back (P := P) (T := T) (A := A) (M := M) (W := W) (Q := Q) (a := a1) (n := a2) h
  have hG := fun h => pge_back (P := P) (T := T) (A := A) (M := M) (W := W) (Q := Q) (a := a1) (n := a2) h
  have hT := fun h => tra_back (P := P) (T := T) (A := A) (M := M) (W := W) (Q := Q) (a := a1) (n := a2) h (a3 % 4) hm0.1 hm0.2
  have ht4 : a3.tmod 4 = a3 % 4 := Int.tmod_eq_emod_of_nonneg hby.1
  have hw4 : IntKind.i64.wrap (a3 % 4) = a3 % 4 := wrap_sm (by omega) (by omega)
  have hw5 : IntKind.u8.wrap (a3 % 4) = a3 % 4 := by simp [IntKind.wrap_u8]; omega
  obtain ⟨an, han⟩ : ∃ x, x = areN P T A M W Q a1 a2 := ⟨_, rfl⟩
  obtain ⟨ae, hae⟩ : ∃ x, x = areE P T A M W Q a1 a2 := ⟨_, rfl⟩
  obtain ⟨gn, hgn⟩ : ∃ x, x = pgeN P T A M W Q a1 a2 := ⟨_, rfl⟩
  obtain ⟨ge, hge⟩ : ∃ x, x = pgeE P T A M W Q a1 a2 := ⟨_, rfl⟩
  obtain ⟨tn, htn⟩ : ∃ x, x = traN P T A M W Q a1 a2 := ⟨_, rfl⟩
  obtain ⟨te, hte⟩ : ∃ x, x = traE P T A M W Q a1 a2 := ⟨_, rfl⟩
  obtain ⟨m, hm⟩ : ∃ x, x = a3 % 4 := ⟨_, rfl⟩
  rw [← han, ← hae] at K1 hA
  rw [← hgn, ← hge] at K2 hG
  rw [← htn, ← hte] at K3 hT
  rw [← hm] at hT hm0 ht4 hw4 hw5 W3
  rw [← han] at W1
  rw [← hgn] at W2
  rw [← htn] at W3
  have hm2 := hm.symm
  clear han hae hgn hge htn hte hm
  have HA := Lib.hid hA
  have HG := Lib.hid hG
  have HT := Lib.hid hT
  clear hA hG hT hby
  by_cases xa : ae = 0
  · by_cases xg : ge = 0
    · by_cases xt : te = 0
      · skip
        have W1 := Lib.hid (fun w' : World => (W1.out w').mono fun e w2 h => (by obtain ⟨q1, q2, q3, q4⟩ := HA.out xa; rw [q1, q2, q3, q4] at h; exact h : e = .returned (.tuple #[.int .u8 2, .int .i64 a1, .int .i64 a2, .int .i64 0]) ∧ Below w'.heap.size w' w2))
        subst xa
        have W2 := Lib.hid (fun w' : World => (W2.out w').mono fun e w2 h => (by obtain ⟨q1, q2, q3, q4⟩ := HG.out xg; rw [q1, q2, q3, q4] at h; exact h : e = .returned (.tuple #[.int .u8 3, .int .i64 a1, .int .i64 a2, .int .i64 0]) ∧ Below w'.heap.size w' w2))
        subst xg
        have W3 := Lib.hid (fun w' : World => (W3.out w').mono fun e w2 h => (by obtain ⟨_, q1, q2, q3, q4⟩ := HT.out xt; rw [q1, q2, q3, q4] at h; exact h : e = .returned (.tuple #[.int .u8 4, .int .i64 a1, .int .i64 a2, .int .i64 0]) ∧ Below w'.heap.size w' w2))
        have hwt : IntKind.i64.wrap (tn + m) = tn + m := wrap_sm (by have := (HT.out xt).1; omega) (by have := (HT.out xt).1; omega)
        have htb := (HT.out xt).1
        subst xt
        go_enter Try.func12, Try.ntmps12
        go_wp2_with fail
        refine (AL.out _).mono ?_
        rintro e w1 ⟨rfl, hb⟩
        have X := Lib.hid (X.out.below (hb.mono (Nat.le_refl _)) X.out.lt)
        have BEL := Lib.hid (BEL.out.trans (hb.mono BEL.out.size))
        clear hb c0 c1 c2 c3 c4 c5
        obtain ⟨c0, c1, c2, c3, c4, c5⟩ := X.out.cfg
        go_wp2_with fail
        refine (K1.out _).mono ?_
        rintro e w2 ⟨rfl, hb⟩
        have X := Lib.hid (X.out.below (hb.mono (Nat.le_refl _)) X.out.lt)
        have BEL := Lib.hid (BEL.out.trans (hb.mono BEL.out.size))
        clear hb c0 c1 c2 c3 c4 c5
        obtain ⟨c0, c1, c2, c3, c4, c5⟩ := X.out.cfg
        go_wp2_with fail
        refine (K2.out _).mono ?_
        rintro e w3 ⟨rfl, hb⟩
        have X := Lib.hid (X.out.below (hb.mono (Nat.le_refl _)) X.out.lt)
        have BEL := Lib.hid (BEL.out.trans (hb.mono BEL.out.size))
        clear hb c0 c1 c2 c3 c4 c5
        obtain ⟨c0, c1, c2, c3, c4, c5⟩ := X.out.cfg
        go_wp2_with fail
        refine (K3.out _).mono ?_
        rintro e w4 ⟨rfl, hb⟩
        have X := Lib.hid (X.out.below (hb.mono (Nat.le_refl _)) X.out.lt)
        have BEL := Lib.hid (BEL.out.trans (hb.mono BEL.out.size))
        clear hb c0 c1 c2 c3 c4 c5
        obtain ⟨c0, c1, c2, c3, c4, c5⟩ := X.out.cfg
        go_wp2_with fail
        refine (W1.out _).mono ?_
        rintro e w5 ⟨rfl, hb⟩
        have X := Lib.hid (X.out.below (hb.mono (Nat.le_refl _)) X.out.lt)
        have BEL := Lib.hid (BEL.out.trans (hb.mono BEL.out.size))
        clear hb c0 c1 c2 c3 c4 c5
        obtain ⟨c0, c1, c2, c3, c4, c5⟩ := X.out.cfg
        go_wp2_with fail
        refine (W2.out _).mono ?_
        rintro e w6 ⟨rfl, hb⟩
        have X := Lib.hid (X.out.below (hb.mono (Nat.le_refl _)) X.out.lt)
        have BEL := Lib.hid (BEL.out.trans (hb.mono BEL.out.size))
        clear hb c0 c1 c2 c3 c4 c5
        obtain ⟨c0, c1, c2, c3, c4, c5⟩ := X.out.cfg
        go_wp2_with fail
        refine (W3.out _).mono ?_
        rintro e w7 ⟨rfl, hb⟩
        have X := Lib.hid (X.out.below (hb.mono (Nat.le_refl _)) X.out.lt)
        have BEL := Lib.hid (BEL.out.trans (hb.mono BEL.out.size))
        clear hb c0 c1 c2 c3 c4 c5
        obtain ⟨c0, c1, c2, c3, c4, c5⟩ := X.out.cfg
        go_wp2
        go_ret
        exact ⟨by simp, BEL.out⟩
      · skip
        have W1 := Lib.hid (fun w' : World => (W1.out w').mono fun e w2 h => (by obtain ⟨q1, q2, q3, q4⟩ := HA.out xa; rw [q1, q2, q3, q4] at h; exact h : e = .returned (.tuple #[.int .u8 2, .int .i64 a1, .int .i64 a2, .int .i64 0]) ∧ Below w'.heap.size w' w2))
        subst xa
        have W2 := Lib.hid (fun w' : World => (W2.out w').mono fun e w2 h => (by obtain ⟨q1, q2, q3, q4⟩ := HG.out xg; rw [q1, q2, q3, q4] at h; exact h : e = .returned (.tuple #[.int .u8 3, .int .i64 a1, .int .i64 a2, .int .i64 0]) ∧ Below w'.heap.size w' w2))
        subst xg
        have xb3 : (te == 0) = false := by simpa using xt
        go_enter Try.func12, Try.ntmps12
        go_wp2_with fail
        refine (AL.out _).mono ?_
        rintro e w1 ⟨rfl, hb⟩
        have X := Lib.hid (X.out.below (hb.mono (Nat.le_refl _)) X.out.lt)
        have BEL := Lib.hid (BEL.out.trans (hb.mono BEL.out.size))
        clear hb c0 c1 c2 c3 c4 c5
        obtain ⟨c0, c1, c2, c3, c4, c5⟩ := X.out.cfg
        go_wp2_with fail
        refine (K1.out _).mono ?_
        rintro e w2 ⟨rfl, hb⟩
        have X := Lib.hid (X.out.below (hb.mono (Nat.le_refl _)) X.out.lt)
        have BEL := Lib.hid (BEL.out.trans (hb.mono BEL.out.size))
        clear hb c0 c1 c2 c3 c4 c5
        obtain ⟨c0, c1, c2, c3, c4, c5⟩ := X.out.cfg
        go_wp2_with fail
        refine (K2.out _).mono ?_
        rintro e w3 ⟨rfl, hb⟩
        have X := Lib.hid (X.out.below (hb.mono (Nat.le_refl _)) X.out.lt)
        have BEL := Lib.hid (BEL.out.trans (hb.mono BEL.out.size))
        clear hb c0 c1 c2 c3 c4 c5
        obtain ⟨c0, c1, c2, c3, c4, c5⟩ := X.out.cfg
        go_wp2_with fail
        refine (K3.out _).mono ?_
        rintro e w4 ⟨rfl, hb⟩
        have X := Lib.hid (X.out.below (hb.mono (Nat.le_refl _)) X.out.lt)
        have BEL := Lib.hid (BEL.out.trans (hb.mono BEL.out.size))
        clear hb c0 c1 c2 c3 c4 c5
        obtain ⟨c0, c1, c2, c3, c4, c5⟩ := X.out.cfg
        go_wp2_with fail
        refine (W1.out _).mono ?_
        rintro e w5 ⟨rfl, hb⟩
        have X := Lib.hid (X.out.below (hb.mono (Nat.le_refl _)) X.out.lt)
        have BEL := Lib.hid (BEL.out.trans (hb.mono BEL.out.size))
        clear hb c0 c1 c2 c3 c4 c5
        obtain ⟨c0, c1, c2, c3, c4, c5⟩ := X.out.cfg
        go_wp2_with fail
        refine (W2.out _).mono ?_
        rintro e w6 ⟨rfl, hb⟩
        have X := Lib.hid (X.out.below (hb.mono (Nat.le_refl _)) X.out.lt)
        have BEL := Lib.hid (BEL.out.trans (hb.mono BEL.out.size))
        clear hb c0 c1 c2 c3 c4 c5
        obtain ⟨c0, c1, c2, c3, c4, c5⟩ := X.out.cfg
        go_wp2
        go_ret
        exact ⟨by simp, BEL.out⟩
    · by_cases xt : te = 0
      · skip
        have W1 := Lib.hid (fun w' : World => (W1.out w').mono fun e w2 h => (by obtain ⟨q1, q2, q3, q4⟩ := HA.out xa; rw [q1, q2, q3, q4] at h; exact h : e = .returned (.tuple #[.int .u8 2, .int .i64 a1, .int .i64 a2, .int .i64 0]) ∧ Below w'.heap.size w' w2))
        subst xa
        have xb2 : (ge == 0) = false := by simpa using xg
        have W3 := Lib.hid (fun w' : World => (W3.out w').mono fun e w2 h => (by obtain ⟨_, q1, q2, q3, q4⟩ := HT.out xt; rw [q1, q2, q3, q4] at h; exact h : e = .returned (.tuple #[.int .u8 4, .int .i64 a1, .int .i64 a2, .int .i64 0]) ∧ Below w'.heap.size w' w2))
        have hwt : IntKind.i64.wrap (tn + m) = tn + m := wrap_sm (by have := (HT.out xt).1; omega) (by have := (HT.out xt).1; omega)
        have htb := (HT.out xt).1
        subst xt
        go_enter Try.func12, Try.ntmps12
        go_wp2_with fail
        refine (AL.out _).mono ?_
        rintro e w1 ⟨rfl, hb⟩
        have X := Lib.hid (X.out.below (hb.mono (Nat.le_refl _)) X.out.lt)
        have BEL := Lib.hid (BEL.out.trans (hb.mono BEL.out.size))
        clear hb c0 c1 c2 c3 c4 c5
        obtain ⟨c0, c1, c2, c3, c4, c5⟩ := X.out.cfg
        go_wp2_with fail
        refine (K1.out _).mono ?_
        rintro e w2 ⟨rfl, hb⟩
        have X := Lib.hid (X.out.below (hb.mono (Nat.le_refl _)) X.out.lt)
        have BEL := Lib.hid (BEL.out.trans (hb.mono BEL.out.size))
        clear hb c0 c1 c2 c3 c4 c5
        obtain ⟨c0, c1, c2, c3, c4, c5⟩ := X.out.cfg
        go_wp2_with fail
        refine (K2.out _).mono ?_
        rintro e w3 ⟨rfl, hb⟩
        have X := Lib.hid (X.out.below (hb.mono (Nat.le_refl _)) X.out.lt)
        have BEL := Lib.hid (BEL.out.trans (hb.mono BEL.out.size))
        clear hb c0 c1 c2 c3 c4 c5
        obtain ⟨c0, c1, c2, c3, c4, c5⟩ := X.out.cfg
        go_wp2_with fail
        refine (K3.out _).mono ?_
        rintro e w4 ⟨rfl, hb⟩
        have X := Lib.hid (X.out.below (hb.mono (Nat.le_refl _)) X.out.lt)
        have BEL := Lib.hid (BEL.out.trans (hb.mono BEL.out.size))
        clear hb c0 c1 c2 c3 c4 c5
        obtain ⟨c0, c1, c2, c3, c4, c5⟩ := X.out.cfg
        go_wp2_with fail
        refine (W1.out _).mono ?_
        rintro e w5 ⟨rfl, hb⟩
        have X := Lib.hid (X.out.below (hb.mono (Nat.le_refl _)) X.out.lt)
        have BEL := Lib.hid (BEL.out.trans (hb.mono BEL.out.size))
        clear hb c0 c1 c2 c3 c4 c5
        obtain ⟨c0, c1, c2, c3, c4, c5⟩ := X.out.cfg
        go_wp2_with fail
        refine (W3.out _).mono ?_
        rintro e w6 ⟨rfl, hb⟩
        have X := Lib.hid (X.out.below (hb.mono (Nat.le_refl _)) X.out.lt)
        have BEL := Lib.hid (BEL.out.trans (hb.mono BEL.out.size))
        clear hb c0 c1 c2 c3 c4 c5
        obtain ⟨c0, c1, c2, c3, c4, c5⟩ := X.out.cfg
        go_wp2
        go_ret
        exact ⟨by simp, BEL.out⟩
      · skip
        have W1 := Lib.hid (fun w' : World => (W1.out w').mono fun e w2 h => (by obtain ⟨q1, q2, q3, q4⟩ := HA.out xa; rw [q1, q2, q3, q4] at h; exact h : e = .returned (.tuple #[.int .u8 2, .int .i64 a1, .int .i64 a2, .int .i64 0]) ∧ Below w'.heap.size w' w2))
        subst xa
        have xb2 : (ge == 0) = false := by simpa using xg
        have xb3 : (te == 0) = false := by simpa using xt
        go_enter Try.func12, Try.ntmps12
        go_wp2_with fail
        refine (AL.out _).mono ?_
        rintro e w1 ⟨rfl, hb⟩
        have X := Lib.hid (X.out.below (hb.mono (Nat.le_refl _)) X.out.lt)
        have BEL := Lib.hid (BEL.out.trans (hb.mono BEL.out.size))
        clear hb c0 c1 c2 c3 c4 c5
        obtain ⟨c0, c1, c2, c3, c4, c5⟩ := X.out.cfg
        go_wp2_with fail
        refine (K1.out _).mono ?_
        rintro e w2 ⟨rfl, hb⟩
        have X := Lib.hid (X.out.below (hb.mono (Nat.le_refl _)) X.out.lt)
        have BEL := Lib.hid (BEL.out.trans (hb.mono BEL.out.size))
        clear hb c0 c1 c2 c3 c4 c5
        obtain ⟨c0, c1, c2, c3, c4, c5⟩ := X.out.cfg
        go_wp2_with fail
        refine (K2.out _).mono ?_
        rintro e w3 ⟨rfl, hb⟩
        have X := Lib.hid (X.out.below (hb.mono (Nat.le_refl _)) X.out.lt)
        have BEL := Lib.hid (BEL.out.trans (hb.mono BEL.out.size))
        clear hb c0 c1 c2 c3 c4 c5
        obtain ⟨c0, c1, c2, c3, c4, c5⟩ := X.out.cfg
        go_wp2_with fail
        refine (K3.out _).mono ?_
        rintro e w4 ⟨rfl, hb⟩
        have X := Lib.hid (X.out.below (hb.mono (Nat.le_refl _)) X.out.lt)
        have BEL := Lib.hid (BEL.out.trans (hb.mono BEL.out.size))
        clear hb c0 c1 c2 c3 c4 c5
        obtain ⟨c0, c1, c2, c3, c4, c5⟩ := X.out.cfg
        go_wp2_with fail
        refine (W1.out _).mono ?_
        rintro e w5 ⟨rfl, hb⟩
        have X := Lib.hid (X.out.below (hb.mono (Nat.le_refl _)) X.out.lt)
        have BEL := Lib.hid (BEL.out.trans (hb.mono BEL.out.size))
        clear hb c0 c1 c2 c3 c4 c5
        obtain ⟨c0, c1, c2, c3, c4, c5⟩ := X.out.cfg
        go_wp2
        go_ret
        exact ⟨by simp, BEL.out⟩
  · by_cases xg : ge = 0
    · by_cases xt : te = 0
      · skip
        have xb1 : (ae == 0) = false := by simpa using xa
        have W2 := Lib.hid (fun w' : World => (W2.out w').mono fun e w2 h => (by obtain ⟨q1, q2, q3, q4⟩ := HG.out xg; rw [q1, q2, q3, q4] at h; exact h : e = .returned (.tuple #[.int .u8 3, .int .i64 a1, .int .i64 a2, .int .i64 0]) ∧ Below w'.heap.size w' w2))
        subst xg
        have W3 := Lib.hid (fun w' : World => (W3.out w').mono fun e w2 h => (by obtain ⟨_, q1, q2, q3, q4⟩ := HT.out xt; rw [q1, q2, q3, q4] at h; exact h : e = .returned (.tuple #[.int .u8 4, .int .i64 a1, .int .i64 a2, .int .i64 0]) ∧ Below w'.heap.size w' w2))
        have hwt : IntKind.i64.wrap (tn + m) = tn + m := wrap_sm (by have := (HT.out xt).1; omega) (by have := (HT.out xt).1; omega)
        have htb := (HT.out xt).1
        subst xt
        go_enter Try.func12, Try.ntmps12
        go_wp2_with fail
        refine (AL.out _).mono ?_
        rintro e w1 ⟨rfl, hb⟩
        have X := Lib.hid (X.out.below (hb.mono (Nat.le_refl _)) X.out.lt)
        have BEL := Lib.hid (BEL.out.trans (hb.mono BEL.out.size))
        clear hb c0 c1 c2 c3 c4 c5
        obtain ⟨c0, c1, c2, c3, c4, c5⟩ := X.out.cfg
        go_wp2_with fail
        refine (K1.out _).mono ?_
        rintro e w2 ⟨rfl, hb⟩
        have X := Lib.hid (X.out.below (hb.mono (Nat.le_refl _)) X.out.lt)
        have BEL := Lib.hid (BEL.out.trans (hb.mono BEL.out.size))
        clear hb c0 c1 c2 c3 c4 c5
        obtain ⟨c0, c1, c2, c3, c4, c5⟩ := X.out.cfg
        go_wp2_with fail
        refine (K2.out _).mono ?_
        rintro e w3 ⟨rfl, hb⟩
        have X := Lib.hid (X.out.below (hb.mono (Nat.le_refl _)) X.out.lt)
        have BEL := Lib.hid (BEL.out.trans (hb.mono BEL.out.size))
        clear hb c0 c1 c2 c3 c4 c5
        obtain ⟨c0, c1, c2, c3, c4, c5⟩ := X.out.cfg
        go_wp2_with fail
        refine (K3.out _).mono ?_
        rintro e w4 ⟨rfl, hb⟩
        have X := Lib.hid (X.out.below (hb.mono (Nat.le_refl _)) X.out.lt)
        have BEL := Lib.hid (BEL.out.trans (hb.mono BEL.out.size))
        clear hb c0 c1 c2 c3 c4 c5
        obtain ⟨c0, c1, c2, c3, c4, c5⟩ := X.out.cfg
        go_wp2_with fail
        refine (W2.out _).mono ?_
        rintro e w5 ⟨rfl, hb⟩
        have X := Lib.hid (X.out.below (hb.mono (Nat.le_refl _)) X.out.lt)
        have BEL := Lib.hid (BEL.out.trans (hb.mono BEL.out.size))
        clear hb c0 c1 c2 c3 c4 c5
        obtain ⟨c0, c1, c2, c3, c4, c5⟩ := X.out.cfg
        go_wp2_with fail
        refine (W3.out _).mono ?_
        rintro e w6 ⟨rfl, hb⟩
        have X := Lib.hid (X.out.below (hb.mono (Nat.le_refl _)) X.out.lt)
        have BEL := Lib.hid (BEL.out.trans (hb.mono BEL.out.size))
        clear hb c0 c1 c2 c3 c4 c5
        obtain ⟨c0, c1, c2, c3, c4, c5⟩ := X.out.cfg
        go_wp2
        go_ret
        exact ⟨by simp, BEL.out⟩
      · skip
        have xb1 : (ae == 0) = false := by simpa using xa
        have W2 := Lib.hid (fun w' : World => (W2.out w').mono fun e w2 h => (by obtain ⟨q1, q2, q3, q4⟩ := HG.out xg; rw [q1, q2, q3, q4] at h; exact h : e = .returned (.tuple #[.int .u8 3, .int .i64 a1, .int .i64 a2, .int .i64 0]) ∧ Below w'.heap.size w' w2))
        subst xg
        have xb3 : (te == 0) = false := by simpa using xt
        go_enter Try.func12, Try.ntmps12
        go_wp2_with fail
        refine (AL.out _).mono ?_
        rintro e w1 ⟨rfl, hb⟩
        have X := Lib.hid (X.out.below (hb.mono (Nat.le_refl _)) X.out.lt)
        have BEL := Lib.hid (BEL.out.trans (hb.mono BEL.out.size))
        clear hb c0 c1 c2 c3 c4 c5
        obtain ⟨c0, c1, c2, c3, c4, c5⟩ := X.out.cfg
        go_wp2_with fail
        refine (K1.out _).mono ?_
        rintro e w2 ⟨rfl, hb⟩
        have X := Lib.hid (X.out.below (hb.mono (Nat.le_refl _)) X.out.lt)
        have BEL := Lib.hid (BEL.out.trans (hb.mono BEL.out.size))
        clear hb c0 c1 c2 c3 c4 c5
        obtain ⟨c0, c1, c2, c3, c4, c5⟩ := X.out.cfg
        go_wp2_with fail
        refine (K2.out _).mono ?_
        rintro e w3 ⟨rfl, hb⟩
        have X := Lib.hid (X.out.below (hb.mono (Nat.le_refl _)) X.out.lt)
        have BEL := Lib.hid (BEL.out.trans (hb.mono BEL.out.size))
        clear hb c0 c1 c2 c3 c4 c5
        obtain ⟨c0, c1, c2, c3, c4, c5⟩ := X.out.cfg
        go_wp2_with fail
        refine (K3.out _).mono ?_
        rintro e w4 ⟨rfl, hb⟩
        have X := Lib.hid (X.out.below (hb.mono (Nat.le_refl _)) X.out.lt)
        have BEL := Lib.hid (BEL.out.trans (hb.mono BEL.out.size))
        clear hb c0 c1 c2 c3 c4 c5
        obtain ⟨c0, c1, c2, c3, c4, c5⟩ := X.out.cfg
        go_wp2_with fail
        refine (W2.out _).mono ?_
        rintro e w5 ⟨rfl, hb⟩
        have X := Lib.hid (X.out.below (hb.mono (Nat.le_refl _)) X.out.lt)
        have BEL := Lib.hid (BEL.out.trans (hb.mono BEL.out.size))
        clear hb c0 c1 c2 c3 c4 c5
        obtain ⟨c0, c1, c2, c3, c4, c5⟩ := X.out.cfg
        go_wp2
        go_ret
        exact ⟨by simp, BEL.out⟩
    · by_cases xt : te = 0
      · skip
        have xb1 : (ae == 0) = false := by simpa using xa
        have xb2 : (ge == 0) = false := by simpa using xg
        have W3 := Lib.hid (fun w' : World => (W3.out w').mono fun e w2 h => (by obtain ⟨_, q1, q2, q3, q4⟩ := HT.out xt; rw [q1, q2, q3, q4] at h; exact h : e = .returned (.tuple #[.int .u8 4, .int .i64 a1, .int .i64 a2, .int .i64 0]) ∧ Below w'.heap.size w' w2))
        have hwt : IntKind.i64.wrap (tn + m) = tn + m := wrap_sm (by have := (HT.out xt).1; omega) (by have := (HT.out xt).1; omega)
        have htb := (HT.out xt).1
        subst xt
        go_enter Try.func12, Try.ntmps12
        go_wp2_with fail
        refine (AL.out _).mono ?_
        rintro e w1 ⟨rfl, hb⟩
        have X := Lib.hid (X.out.below (hb.mono (Nat.le_refl _)) X.out.lt)
        have BEL := Lib.hid (BEL.out.trans (hb.mono BEL.out.size))
        clear hb c0 c1 c2 c3 c4 c5
        obtain ⟨c0, c1, c2, c3, c4, c5⟩ := X.out.cfg
        go_wp2_with fail
        refine (K1.out _).mono ?_
        rintro e w2 ⟨rfl, hb⟩
        have X := Lib.hid (X.out.below (hb.mono (Nat.le_refl _)) X.out.lt)
        have BEL := Lib.hid (BEL.out.trans (hb.mono BEL.out.size))
        clear hb c0 c1 c2 c3 c4 c5
        obtain ⟨c0, c1, c2, c3, c4, c5⟩ := X.out.cfg
        go_wp2_with fail
        refine (K2.out _).mono ?_
        rintro e w3 ⟨rfl, hb⟩
        have X := Lib.hid (X.out.below (hb.mono (Nat.le_refl _)) X.out.lt)
        have BEL := Lib.hid (BEL.out.trans (hb.mono BEL.out.size))
        clear hb c0 c1 c2 c3 c4 c5
        obtain ⟨c0, c1, c2, c3, c4, c5⟩ := X.out.cfg
        go_wp2_with fail
        refine (K3.out _).mono ?_
        rintro e w4 ⟨rfl, hb⟩
        have X := Lib.hid (X.out.below (hb.mono (Nat.le_refl _)) X.out.lt)
        have BEL := Lib.hid (BEL.out.trans (hb.mono BEL.out.size))
        clear hb c0 c1 c2 c3 c4 c5
        obtain ⟨c0, c1, c2, c3, c4, c5⟩ := X.out.cfg
        go_wp2_with fail
        refine (W3.out _).mono ?_
        rintro e w5 ⟨rfl, hb⟩
        have X := Lib.hid (X.out.below (hb.mono (Nat.le_refl _)) X.out.lt)
        have BEL := Lib.hid (BEL.out.trans (hb.mono BEL.out.size))
        clear hb c0 c1 c2 c3 c4 c5
        obtain ⟨c0, c1, c2, c3, c4, c5⟩ := X.out.cfg
        go_wp2
        go_ret
        exact ⟨by simp, BEL.out⟩
      · skip
        have xb1 : (ae == 0) = false := by simpa using xa
        have xb2 : (ge == 0) = false := by simpa using xg
        have xb3 : (te == 0) = false := by simpa using xt
        go_enter Try.func12, Try.ntmps12
        go_wp2_with fail
        refine (AL.out _).mono ?_
        rintro e w1 ⟨rfl, hb⟩
        have X := Lib.hid (X.out.below (hb.mono (Nat.le_refl _)) X.out.lt)
        have BEL := Lib.hid (BEL.out.trans (hb.mono BEL.out.size))
        clear hb c0 c1 c2 c3 c4 c5
        obtain ⟨c0, c1, c2, c3, c4, c5⟩ := X.out.cfg
        go_wp2_with fail
        refine (K1.out _).mono ?_
        rintro e w2 ⟨rfl, hb⟩
        have X := Lib.hid (X.out.below (hb.mono (Nat.le_refl _)) X.out.lt)
        have BEL := Lib.hid (BEL.out.trans (hb.mono BEL.out.size))
        clear hb c0 c1 c2 c3 c4 c5
        obtain ⟨c0, c1, c2, c3, c4, c5⟩ := X.out.cfg
        go_wp2_with fail
        refine (K2.out _).mono ?_
        rintro e w3 ⟨rfl, hb⟩
        have X := Lib.hid (X.out.below (hb.mono (Nat.le_refl _)) X.out.lt)
        have BEL := Lib.hid (BEL.out.trans (hb.mono BEL.out.size))
        clear hb c0 c1 c2 c3 c4 c5
        obtain ⟨c0, c1, c2, c3, c4, c5⟩ := X.out.cfg
        go_wp2_with fail
        refine (K3.out _).mono ?_
        rintro e w4 ⟨rfl, hb⟩
        have X := Lib.hid (X.out.below (hb.mono (Nat.le_refl _)) X.out.lt)
        have BEL := Lib.hid (BEL.out.trans (hb.mono BEL.out.size))
        clear hb c0 c1 c2 c3 c4 c5
        obtain ⟨c0, c1, c2, c3, c4, c5⟩ := X.out.cfg
        go_wp2
        go_ret
        exact ⟨by simp, BEL.out⟩

end Go.Proofs.Ytghdcajojbbllaa
