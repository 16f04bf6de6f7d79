/- Layer 7: the walk of PlaceOne. -/
import Derived.Test.YtghdcajojbbllaaPlBk
import Derived.Deep.Cut
namespace Go.Proofs.Ytghdcajojbbllaa
open Go.RowKit
set_option linter.unusedVariables false

set_option maxRecDepth 100000 in
set_option maxHeartbeats 6400000 in
theorem walk_PlaceOne (P T A M W Q : Int) (a1 : Int) (w : World) (w0a : (Lit.int .i64 P).wf = true) (w0b : (Lit.int .i64 T).wf = true) (w0c : (Lit.int .i64 A).wf = true) (w0d : (Lit.int .i64 M).wf = true) (w0e : (Lit.int .i64 W).wf = true) (w0f : (Lit.int .i64 Q).wf = true) (w1 : (Lit.int .i64 a1).wf = true) :
    Calls Try.prog 11 #[cfgV P T A M W Q, .int .i64 a1] w fun e w' => e = .returned (.bool true) ∧ Below w.heap.size w w' := by
  clear w0a w0b w0c w0d w0e w0f
  clear w1
  obtain ⟨x0, hbel⟩ := box_cfg w P T A M W Q
  obtain ⟨c0, c1, c2, c3, c4, c5⟩ := x0.cfg
  have X := Lib.hid x0
  have BEL := Lib.hid hbel
  clear x0 hbel
  have AL := Lib.hid alive_place
  have K1 := Lib.hid (fun w' : World => pwhat_any P T A M W Q a1 w')
  have K2 := Lib.hid (fun w' : World => psectors_any P T A M W Q w')
  by_cases he : whaE P T A M W Q a1 = 0
  · have hm := wha_may he
    obtain ⟨hx0, hx1, hw⟩ := wha_ways hm he
    rw [show secN P T A M W Q = fE P T A by unfold secN; rw [if_pos hm], show chkC P T A M W Q = 0 by unfold chkC; rw [if_pos hm]] at K2
    rw [he] at K1
    have K3 := Lib.hid (fun (a n : Int) (w' : World) => parea_any P T A M W Q a n w')
    have K4 := Lib.hid (fun (a n : Int) (w' : World) => ppage_any P T A M W Q a n w')
    have K5 := Lib.hid (fun (a n : Int) (w' : World) => ptrack_any P T A M W Q a n w')
    have hel := (fE_le hm).2
    obtain ⟨E, hE⟩ : ∃ E, E = fE P T A := ⟨_, rfl⟩
    rw [← hE] at K2 hx1 hel
    obtain ⟨k, hk⟩ : ∃ k, k = whaK P T A M W Q a1 := ⟨_, rfl⟩
    obtain ⟨a, ha⟩ : ∃ a, a = whaA P T A M W Q a1 := ⟨_, rfl⟩
    obtain ⟨n, hn⟩ : ∃ n, n = whaN P T A M W Q a1 := ⟨_, rfl⟩
    rw [← hk, ← ha, ← hn] at hw K1
    clear he hm hE hk ha hn
    rcases hw with ⟨rfl, rfl, rfl, hlt⟩ | ⟨rfl, e1, e2⟩ | ⟨rfl, e1, e2⟩ | ⟨rfl, e1, e2, e3, e4⟩
    · skip
      go_enter Try.func11, Try.ntmps11
      go_wp2_with fail
      refine (AL.out _).mono ?_
      rintro e w1 ⟨rfl, hb⟩
      have X := Lib.hid (X.out.below (hb.mono (Nat.le_refl _)) X.out.lt)
      have BEL := Lib.hid (BEL.out.trans (hb.mono BEL.out.size))
      clear hb c0 c1 c2 c3 c4 c5
      obtain ⟨c0, c1, c2, c3, c4, c5⟩ := X.out.cfg
      go_wp2_with fail
      refine (K1.out _).mono ?_
      rintro e w2 ⟨rfl, hb⟩
      have X := Lib.hid (X.out.below (hb.mono (Nat.le_refl _)) X.out.lt)
      have BEL := Lib.hid (BEL.out.trans (hb.mono BEL.out.size))
      clear hb c0 c1 c2 c3 c4 c5
      obtain ⟨c0, c1, c2, c3, c4, c5⟩ := X.out.cfg
      go_wp2_with fail
      refine (K2.out _).mono ?_
      rintro e w3 ⟨rfl, hb⟩
      have X := Lib.hid (X.out.below (hb.mono (Nat.le_refl _)) X.out.lt)
      have BEL := Lib.hid (BEL.out.trans (hb.mono BEL.out.size))
      clear hb c0 c1 c2 c3 c4 c5
      obtain ⟨c0, c1, c2, c3, c4, c5⟩ := X.out.cfg
      go_wp2
      go_ret
      exact ⟨by simp, BEL.out⟩
    · have K3 := Lib.hid (K3.out a n)
      rw [e1, e2] at K3
      clear e1 e2
      go_enter Try.func11, Try.ntmps11
      go_wp2_with fail
      refine (AL.out _).mono ?_
      rintro e w1 ⟨rfl, hb⟩
      have X := Lib.hid (X.out.below (hb.mono (Nat.le_refl _)) X.out.lt)
      have BEL := Lib.hid (BEL.out.trans (hb.mono BEL.out.size))
      clear hb c0 c1 c2 c3 c4 c5
      obtain ⟨c0, c1, c2, c3, c4, c5⟩ := X.out.cfg
      go_wp2_with fail
      refine (K1.out _).mono ?_
      rintro e w2 ⟨rfl, hb⟩
      have X := Lib.hid (X.out.below (hb.mono (Nat.le_refl _)) X.out.lt)
      have BEL := Lib.hid (BEL.out.trans (hb.mono BEL.out.size))
      clear hb c0 c1 c2 c3 c4 c5
      obtain ⟨c0, c1, c2, c3, c4, c5⟩ := X.out.cfg
      go_wp2_with fail
      refine (K2.out _).mono ?_
      rintro e w3 ⟨rfl, hb⟩
      have X := Lib.hid (X.out.below (hb.mono (Nat.le_refl _)) X.out.lt)
      have BEL := Lib.hid (BEL.out.trans (hb.mono BEL.out.size))
      clear hb c0 c1 c2 c3 c4 c5
      obtain ⟨c0, c1, c2, c3, c4, c5⟩ := X.out.cfg
      go_wp2_with fail
      refine (K3.out _).mono ?_
      rintro e w4 ⟨rfl, hb⟩
      have X := Lib.hid (X.out.below (hb.mono (Nat.le_refl _)) X.out.lt)
      have BEL := Lib.hid (BEL.out.trans (hb.mono BEL.out.size))
      clear hb c0 c1 c2 c3 c4 c5
      obtain ⟨c0, c1, c2, c3, c4, c5⟩ := X.out.cfg
      go_wp2
      go_ret
      exact ⟨by simp, BEL.out⟩
    · have K4 := Lib.hid (K4.out a n)
      rw [e1, e2] at K4
      clear e1 e2
      go_enter Try.func11, Try.ntmps11
      go_wp2_with fail
      refine (AL.out _).mono ?_
      rintro e w1 ⟨rfl, hb⟩
      have X := Lib.hid (X.out.below (hb.mono (Nat.le_refl _)) X.out.lt)
      have BEL := Lib.hid (BEL.out.trans (hb.mono BEL.out.size))
      clear hb c0 c1 c2 c3 c4 c5
      obtain ⟨c0, c1, c2, c3, c4, c5⟩ := X.out.cfg
      go_wp2_with fail
      refine (K1.out _).mono ?_
      rintro e w2 ⟨rfl, hb⟩
      have X := Lib.hid (X.out.below (hb.mono (Nat.le_refl _)) X.out.lt)
      have BEL := Lib.hid (BEL.out.trans (hb.mono BEL.out.size))
      clear hb c0 c1 c2 c3 c4 c5
      obtain ⟨c0, c1, c2, c3, c4, c5⟩ := X.out.cfg
      go_wp2_with fail
      refine (K2.out _).mono ?_
      rintro e w3 ⟨rfl, hb⟩
      have X := Lib.hid (X.out.below (hb.mono (Nat.le_refl _)) X.out.lt)
      have BEL := Lib.hid (BEL.out.trans (hb.mono BEL.out.size))
      clear hb c0 c1 c2 c3 c4 c5
      obtain ⟨c0, c1, c2, c3, c4, c5⟩ := X.out.cfg
      go_wp2_with fail
      refine (K4.out _).mono ?_
      rintro e w4 ⟨rfl, hb⟩
      have X := Lib.hid (X.out.below (hb.mono (Nat.le_refl _)) X.out.lt)
      have BEL := Lib.hid (BEL.out.trans (hb.mono BEL.out.size))
      clear hb c0 c1 c2 c3 c4 c5
      obtain ⟨c0, c1, c2, c3, c4, c5⟩ := X.out.cfg
      go_wp2
      go_ret
      exact ⟨by simp, BEL.out⟩
    · have K5 := Lib.hid (K5.out a n)
      rw [e1] at K5
      obtain ⟨x, hx⟩ : ∃ x, x = traN P T A M W Q a n := ⟨_, rfl⟩
      rw [← hx] at K5 e2 e3 e4
      clear e1 hx
      have hw4 : wrap64 (x + 4) = x + 4 := wrap64_sm (by omega) (by omega)
      go_enter Try.func11, Try.ntmps11
      go_wp2_with fail
      refine (AL.out _).mono ?_
      rintro e w1 ⟨rfl, hb⟩
      have X := Lib.hid (X.out.below (hb.mono (Nat.le_refl _)) X.out.lt)
      have BEL := Lib.hid (BEL.out.trans (hb.mono BEL.out.size))
      clear hb c0 c1 c2 c3 c4 c5
      obtain ⟨c0, c1, c2, c3, c4, c5⟩ := X.out.cfg
      go_wp2_with fail
      refine (K1.out _).mono ?_
      rintro e w2 ⟨rfl, hb⟩
      have X := Lib.hid (X.out.below (hb.mono (Nat.le_refl _)) X.out.lt)
      have BEL := Lib.hid (BEL.out.trans (hb.mono BEL.out.size))
      clear hb c0 c1 c2 c3 c4 c5
      obtain ⟨c0, c1, c2, c3, c4, c5⟩ := X.out.cfg
      go_wp2_with fail
      refine (K2.out _).mono ?_
      rintro e w3 ⟨rfl, hb⟩
      have X := Lib.hid (X.out.below (hb.mono (Nat.le_refl _)) X.out.lt)
      have BEL := Lib.hid (BEL.out.trans (hb.mono BEL.out.size))
      clear hb c0 c1 c2 c3 c4 c5
      obtain ⟨c0, c1, c2, c3, c4, c5⟩ := X.out.cfg
      go_wp2_with fail
      refine (K5.out _).mono ?_
      rintro e w4 ⟨rfl, hb⟩
      have X := Lib.hid (X.out.below (hb.mono (Nat.le_refl _)) X.out.lt)
      have BEL := Lib.hid (BEL.out.trans (hb.mono BEL.out.size))
      clear hb c0 c1 c2 c3 c4 c5
      obtain ⟨c0, c1, c2, c3, c4, c5⟩ := X.out.cfg
      go_wp2
      go_ret
      exact ⟨by simp, BEL.out⟩
  · obtain ⟨e, hee⟩ : ∃ e, e = whaE P T A M W Q a1 := ⟨_, rfl⟩
    rw [← hee] at K1 he
    have hb1 : (e == 0) = false := by simpa using he
    have hb2 : (e != 0) = true := by simpa using he
    obtain ⟨k, hk⟩ : ∃ k, k = whaK P T A M W Q a1 := ⟨_, rfl⟩
    obtain ⟨a, ha⟩ : ∃ a, a = whaA P T A M W Q a1 := ⟨_, rfl⟩
    obtain ⟨n, hn⟩ : ∃ n, n = whaN P T A M W Q a1 := ⟨_, rfl⟩
    rw [← hk, ← ha, ← hn] at K1
    clear hee hk ha hn he
    go_enter Try.func11, Try.ntmps11
    go_wp2_with fail
    refine (AL.out _).mono ?_
    rintro e w1 ⟨rfl, hb⟩
    have X := Lib.hid (X.out.below (hb.mono (Nat.le_refl _)) X.out.lt)
    have BEL := Lib.hid (BEL.out.trans (hb.mono BEL.out.size))
    clear hb c0 c1 c2 c3 c4 c5
    obtain ⟨c0, c1, c2, c3, c4, c5⟩ := X.out.cfg
    go_wp2_with fail
    refine (K1.out _).mono ?_
    rintro e w2 ⟨rfl, hb⟩
    have X := Lib.hid (X.out.below (hb.mono (Nat.le_refl _)) X.out.lt)
    have BEL := Lib.hid (BEL.out.trans (hb.mono BEL.out.size))
    clear hb c0 c1 c2 c3 c4 c5
    obtain ⟨c0, c1, c2, c3, c4, c5⟩ := X.out.cfg
    go_wp2
    go_ret
    exact ⟨rfl, BEL.out⟩

end Go.Proofs.Ytghdcajojbbllaa
