/- Layer 7: the document's own functions. No statement is proved here. -/
import Derived.Test.YtghdcajojbbllaaPlMath
import Derived.Deep.RegionWith
import Derived.Deep.QuietTactic
import Derived.BigQuiet
namespace Go.Proofs.Ytghdcajojbbllaa
open Go.RowKit
set_option linter.unusedVariables false

theorem wrap64_sm {x : Int} (h0 : -100000 ≤ x) (h1 : x ≤ 100000) : wrap64 x = x := by unfold wrap64; omega
theorem wrap_sm {x : Int} (h0 : -100000 ≤ x) (h1 : x ≤ 100000) : IntKind.i64.wrap x = x := by simp [IntKind.wrap_i64]; omega

theorem results_tmp4 {fn : Func} {t u v x : Tmp} (h : fn.results = #[.tmp t, .tmp u, .tmp v, .tmp x]) (tmps : Array Value) (P : Program) (w : World) :
    (results fn tmps).run P w = .ok (.tuple #[tmps.getD t undef, tmps.getD u undef, tmps.getD v undef, tmps.getD x undef]) w := by
  simp [results, h]

theorem in_yes (n l m : Int) (w : World) (h : l ≤ n ∧ n ≤ m) : Calls Try.prog 77 #[.int .i64 n, .int .i64 l, .int .i64 m] w fun e w' => e = .returned (.bool true) ∧ w' = w := by
  obtain ⟨h1, h2⟩ := h
  go_enter Try.func77, Try.ntmps77
  go_wp2
  go_ret
  exact ⟨by simp, rfl⟩
theorem in_no (n l m : Int) (w : World) (h : ¬ (l ≤ n ∧ n ≤ m)) : Calls Try.prog 77 #[.int .i64 n, .int .i64 l, .int .i64 m] w fun e w' => e = .returned (.bool false) ∧ w' = w := by
  by_cases h1 : l ≤ n
  · have h2 : ¬ n ≤ m := by omega
    clear h
    go_enter Try.func77, Try.ntmps77
    go_wp2
    go_ret
    exact ⟨by simp, rfl⟩
  · clear h
    go_enter Try.func77, Try.ntmps77
    go_wp2
    go_ret
    exact ⟨rfl, rfl⟩

set_option maxHeartbeats 800000 in
theorem rmay_any (P T A M W Q : Int) (w : World) : Calls Try.prog 73 #[cfgV P T A M W Q] w fun e w' => e = .returned (.bool (decide (mayC P T A M W Q))) ∧ Below w.heap.size w w' := by
  obtain ⟨x, hbel⟩ := box_cfg w P T A M W Q
  obtain ⟨c0, c1, c2, c3, c4, c5⟩ := x.cfg
  have X := Lib.hid x
  have BEL := Lib.hid hbel
  clear x hbel

  by_cases h0 : 1 ≤ P ∧ P ≤ 3
  · have hw : wrap64 (P + 2) = P + 2 := wrap64_sm (by omega) (by omega)
    by_cases h1 : 1 ≤ T ∧ T ≤ 16
    · skip
      by_cases h2 : P + 2 ≤ A ∧ A ≤ 32
      · skip
        by_cases h3 : 1 ≤ M ∧ M ≤ P
        · skip
          by_cases h4 : 1 ≤ W ∧ W ≤ 4
          · skip
            by_cases h5 : 4 ≤ Q ∧ Q ≤ 64
            · have hd : decide (mayC P T A M W Q) = true := by rw [decide_eq_true_eq]; unfold mayC; omega
              rw [hd]
              clear hd
              go_enter Try.func73, Try.ntmps73
              go_wp2_with fail
              refine (in_yes P (1) 3 _ h0).mono ?_
              rintro e w1 ⟨rfl, rfl⟩
              go_wp2_with fail
              refine (in_yes T (1) 16 _ h1).mono ?_
              rintro e w1 ⟨rfl, rfl⟩
              go_wp2_with fail
              refine (in_yes A (P + 2) 32 _ h2).mono ?_
              rintro e w1 ⟨rfl, rfl⟩
              go_wp2_with fail
              refine (in_yes M (1) P _ h3).mono ?_
              rintro e w1 ⟨rfl, rfl⟩
              go_wp2_with fail
              refine (in_yes W (1) 4 _ h4).mono ?_
              rintro e w1 ⟨rfl, rfl⟩
              go_wp2_with fail
              refine (in_yes Q (4) 64 _ h5).mono ?_
              rintro e w1 ⟨rfl, rfl⟩
              go_wp2
              go_ret
              exact ⟨rfl, BEL.out⟩
            · have hd : decide (mayC P T A M W Q) = false := by rw [decide_eq_false_iff_not]; unfold mayC; omega
              rw [hd]
              clear hd
              go_enter Try.func73, Try.ntmps73
              go_wp2_with fail
              refine (in_yes P (1) 3 _ h0).mono ?_
              rintro e w1 ⟨rfl, rfl⟩
              go_wp2_with fail
              refine (in_yes T (1) 16 _ h1).mono ?_
              rintro e w1 ⟨rfl, rfl⟩
              go_wp2_with fail
              refine (in_yes A (P + 2) 32 _ h2).mono ?_
              rintro e w1 ⟨rfl, rfl⟩
              go_wp2_with fail
              refine (in_yes M (1) P _ h3).mono ?_
              rintro e w1 ⟨rfl, rfl⟩
              go_wp2_with fail
              refine (in_yes W (1) 4 _ h4).mono ?_
              rintro e w1 ⟨rfl, rfl⟩
              go_wp2_with fail
              refine (in_no Q (4) 64 _ h5).mono ?_
              rintro e w1 ⟨rfl, rfl⟩
              go_wp2
              go_ret
              exact ⟨rfl, BEL.out⟩
          · have hd : decide (mayC P T A M W Q) = false := by rw [decide_eq_false_iff_not]; unfold mayC; omega
            rw [hd]
            clear hd
            go_enter Try.func73, Try.ntmps73
            go_wp2_with fail
            refine (in_yes P (1) 3 _ h0).mono ?_
            rintro e w1 ⟨rfl, rfl⟩
            go_wp2_with fail
            refine (in_yes T (1) 16 _ h1).mono ?_
            rintro e w1 ⟨rfl, rfl⟩
            go_wp2_with fail
            refine (in_yes A (P + 2) 32 _ h2).mono ?_
            rintro e w1 ⟨rfl, rfl⟩
            go_wp2_with fail
            refine (in_yes M (1) P _ h3).mono ?_
            rintro e w1 ⟨rfl, rfl⟩
            go_wp2_with fail
            refine (in_no W (1) 4 _ h4).mono ?_
            rintro e w1 ⟨rfl, rfl⟩
            go_wp2
            go_ret
            exact ⟨rfl, BEL.out⟩
        · have hd : decide (mayC P T A M W Q) = false := by rw [decide_eq_false_iff_not]; unfold mayC; omega
          rw [hd]
          clear hd
          go_enter Try.func73, Try.ntmps73
          go_wp2_with fail
          refine (in_yes P (1) 3 _ h0).mono ?_
          rintro e w1 ⟨rfl, rfl⟩
          go_wp2_with fail
          refine (in_yes T (1) 16 _ h1).mono ?_
          rintro e w1 ⟨rfl, rfl⟩
          go_wp2_with fail
          refine (in_yes A (P + 2) 32 _ h2).mono ?_
          rintro e w1 ⟨rfl, rfl⟩
          go_wp2_with fail
          refine (in_no M (1) P _ h3).mono ?_
          rintro e w1 ⟨rfl, rfl⟩
          go_wp2
          go_ret
          exact ⟨rfl, BEL.out⟩
      · have hd : decide (mayC P T A M W Q) = false := by rw [decide_eq_false_iff_not]; unfold mayC; omega
        rw [hd]
        clear hd
        go_enter Try.func73, Try.ntmps73
        go_wp2_with fail
        refine (in_yes P (1) 3 _ h0).mono ?_
        rintro e w1 ⟨rfl, rfl⟩
        go_wp2_with fail
        refine (in_yes T (1) 16 _ h1).mono ?_
        rintro e w1 ⟨rfl, rfl⟩
        go_wp2_with fail
        refine (in_no A (P + 2) 32 _ h2).mono ?_
        rintro e w1 ⟨rfl, rfl⟩
        go_wp2
        go_ret
        exact ⟨rfl, BEL.out⟩
    · have hd : decide (mayC P T A M W Q) = false := by rw [decide_eq_false_iff_not]; unfold mayC; omega
      rw [hd]
      clear hd
      go_enter Try.func73, Try.ntmps73
      go_wp2_with fail
      refine (in_yes P (1) 3 _ h0).mono ?_
      rintro e w1 ⟨rfl, rfl⟩
      go_wp2_with fail
      refine (in_no T (1) 16 _ h1).mono ?_
      rintro e w1 ⟨rfl, rfl⟩
      go_wp2
      go_ret
      exact ⟨rfl, BEL.out⟩
  · have hd : decide (mayC P T A M W Q) = false := by rw [decide_eq_false_iff_not]; unfold mayC; omega
    rw [hd]
    clear hd
    go_enter Try.func73, Try.ntmps73
    go_wp2_with fail
    refine (in_no P (1) 3 _ h0).mono ?_
    rintro e w1 ⟨rfl, rfl⟩
    go_wp2
    go_ret
    exact ⟨rfl, BEL.out⟩

theorem rmany_any (P T A M W Q : Int) (w : World) : Calls Try.prog 75 #[cfgV P T A M W Q] w fun e w' => e = .returned (.int .i64 (pagC T)) ∧ Below w.heap.size w w' := by
  obtain ⟨x, hbel⟩ := box_cfg w P T A M W Q
  obtain ⟨c0, c1, c2, c3, c4, c5⟩ := x.cfg
  have X := Lib.hid x
  have BEL := Lib.hid hbel
  clear x hbel
  unfold pagC
  by_cases h : 8 < T
  · rw [if_pos h]
    go_enter Try.func75, Try.ntmps75
    go_wp2
    go_ret
    exact ⟨rfl, BEL.out⟩
  · rw [if_neg h]
    go_enter Try.func75, Try.ntmps75
    go_wp2
    go_ret
    exact ⟨rfl, BEL.out⟩

set_option maxHeartbeats 1600000 in
theorem rfirst_any (P T A M W Q : Int) (w : World) (h : mayC P T A M W Q) : Calls Try.prog 76 #[cfgV P T A M W Q] w fun e w' => e = .returned (.tuple #[.int .i64 2, .int .i64 (fP A), .int .i64 (fT P T A), .int .i64 (fE P T A)]) ∧ Below w.heap.size w w' := by
  obtain ⟨x, hbel⟩ := box_cfg w P T A M W Q
  obtain ⟨c0, c1, c2, c3, c4, c5⟩ := x.cfg
  have X := Lib.hid x
  have BEL := Lib.hid hbel
  clear x hbel
  have hb := bounds_may h
  have hc := h
  obtain ⟨h1, h2, h3, h4, h5, h6, h7⟩ := hc
  have R := Lib.hid (fun w' : World => rmany_any P T A M W Q w')
  unfold fE fT fP
  obtain ⟨g, hg⟩ : ∃ g, g = pagC T := ⟨_, rfl⟩
  rw [← hg] at R hb ⊢
  obtain ⟨b1, b2, b3, b4, b5, b6, b7⟩ := hb
  obtain ⟨x, hx⟩ : ∃ x, x = P * g := ⟨_, rfl⟩
  obtain ⟨y, hy⟩ : ∃ y, y = P * T := ⟨_, rfl⟩
  have m1 : IntKind.i64.wrap (2 * A) = 2 * A := wrap_sm (by omega) (by omega)
  have m2 : IntKind.i64.wrap (P * g) = x := by rw [← hx]; exact wrap_sm (by omega) (by omega)
  have m3 : IntKind.i64.wrap (4 * P) = 4 * P := wrap_sm (by omega) (by omega)
  have m4 : IntKind.i64.wrap (4 * P * T) = 4 * y := by rw [b7, ← hy]; exact wrap_sm (by omega) (by omega)
  have m5 : IntKind.i64.wrap (2 + 2 * A) = 2 + 2 * A := wrap_sm (by omega) (by omega)
  have m6 : IntKind.i64.wrap (2 + 2 * A + x) = 2 + 2 * A + x := wrap_sm (by omega) (by omega)
  have m7 : IntKind.i64.wrap (2 + 2 * A + x + 4 * y) = 2 + 2 * A + x + 4 * y := wrap_sm (by omega) (by omega)
  have b1 : 0 ≤ y := by omega
  have b2 : y ≤ 48 := by omega
  have b5 : 1 ≤ x := by omega
  have b6 : x ≤ 6 := by omega
  rw [b7, ← hx, ← hy]
  clear hg hx hy b7 h
  go_enter Try.func76, Try.ntmps76
  go_wp2
  go_region_with (go_at_call 75; refine (R.out _).mono ?_; rintro e w2 ⟨rfl, hb2⟩; have hb3 := (below_drewN (Below.refl _ _) 1).trans hb2; have X2 := Lib.hid (X.out.below hb3 X.out.lt); obtain ⟨d0, d1, d2, d3, d4, d5⟩ := X2.out.cfg; have B2 := Lib.hid (BEL.out.trans (hb3.mono BEL.out.size)); clear hb2 hb3)
  all_goals (go_wp2; go_quiet (fail); go_wp2; (try simp only [Exit.inBlock, Exit.then]); refine bodyPost_ret (results_tmp4 rfl _ _ _) rfl ?_; exact ⟨rfl, below_drewN B2.out _⟩)

set_option maxHeartbeats 800000 in
theorem rsize_any (P T A M W Q : Int) (w : World) (h : mayC P T A M W Q) : Calls Try.prog 74 #[cfgV P T A M W Q] w fun e w' => e = .returned (.int .i64 (fE P T A)) ∧ Below w.heap.size w w' := by
  obtain ⟨x, hbel⟩ := box_cfg w P T A M W Q
  obtain ⟨c0, c1, c2, c3, c4, c5⟩ := x.cfg
  have X := Lib.hid x
  have BEL := Lib.hid hbel
  clear x hbel
  obtain ⟨v, hv⟩ : ∃ v, v = fE P T A := ⟨_, rfl⟩
  have F := Lib.hid (fun w' : World => rfirst_any P T A M W Q w' h)
  rw [← hv] at F ⊢
  clear h hv
  go_enter Try.func74, Try.ntmps74
  go_wp2_with fail
  refine (F.out _).mono ?_
  rintro e w1 ⟨rfl, hb1⟩
  have hb := hb1
  have X := Lib.hid (X.out.below (hb.mono (by have := X.out.lt; omega)) X.out.lt)
  have BEL := Lib.hid (BEL.out.trans (hb.mono BEL.out.size))
  clear hb hb1 c0 c1 c2 c3 c4 c5
  obtain ⟨c0, c1, c2, c3, c4, c5⟩ := X.out.cfg
  go_wp2
  go_ret
  exact ⟨rfl, BEL.out⟩

set_option maxHeartbeats 800000 in
theorem rsectors_any (P T A M W Q : Int) (w : World) : Calls Try.prog 40 #[cfgV P T A M W Q] w fun e w' => e = .returned (.tuple #[.int .i64 (secN P T A M W Q), .int .i64 (chkC P T A M W Q)]) ∧ Below w.heap.size w w' := by
  obtain ⟨x, hbel⟩ := box_cfg w P T A M W Q
  obtain ⟨c0, c1, c2, c3, c4, c5⟩ := x.cfg
  have X := Lib.hid x
  have BEL := Lib.hid hbel
  clear x hbel
  have MY := Lib.hid (fun w' : World => rmay_any P T A M W Q w')
  by_cases h : mayC P T A M W Q
  · have F := Lib.hid (fun w' : World => rsize_any P T A M W Q w' h)
    rw [show secN P T A M W Q = fE P T A by unfold secN; rw [if_pos h], show chkC P T A M W Q = 0 by unfold chkC; rw [if_pos h]]
    rw [show decide (mayC P T A M W Q) = true by simpa using h] at MY
    obtain ⟨v, hv⟩ : ∃ v, v = fE P T A := ⟨_, rfl⟩
    rw [← hv] at F ⊢
    clear h hv
    go_enter Try.func40, Try.ntmps40
    go_wp2_with fail
    refine (MY.out _).mono ?_
    rintro e w1 ⟨rfl, hb1⟩
    have hb := hb1
    have X := Lib.hid (X.out.below (hb.mono (by have := X.out.lt; omega)) X.out.lt)
    have BEL := Lib.hid (BEL.out.trans (hb.mono BEL.out.size))
    clear hb hb1 c0 c1 c2 c3 c4 c5
    obtain ⟨c0, c1, c2, c3, c4, c5⟩ := X.out.cfg
    go_wp2_with fail
    refine (F.out _).mono ?_
    rintro e w2 ⟨rfl, hb2⟩
    have hb := hb2
    have X := Lib.hid (X.out.below (hb.mono (by have := X.out.lt; omega)) X.out.lt)
    have BEL := Lib.hid (BEL.out.trans (hb.mono BEL.out.size))
    clear hb hb2 c0 c1 c2 c3 c4 c5
    obtain ⟨c0, c1, c2, c3, c4, c5⟩ := X.out.cfg
    go_wp2
    go_ret2
    exact ⟨rfl, BEL.out⟩
  · rw [show secN P T A M W Q = 0 by unfold secN; rw [if_neg h], show chkC P T A M W Q = 8 by unfold chkC; rw [if_neg h]]
    rw [show decide (mayC P T A M W Q) = false by simpa using h] at MY
    clear h
    go_enter Try.func40, Try.ntmps40
    go_wp2_with fail
    refine (MY.out _).mono ?_
    rintro e w1 ⟨rfl, hb1⟩
    have hb := hb1
    have X := Lib.hid (X.out.below (hb.mono (by have := X.out.lt; omega)) X.out.lt)
    have BEL := Lib.hid (BEL.out.trans (hb.mono BEL.out.size))
    clear hb hb1 c0 c1 c2 c3 c4 c5
    obtain ⟨c0, c1, c2, c3, c4, c5⟩ := X.out.cfg
    go_wp2
    go_ret2
    exact ⟨rfl, BEL.out⟩

set_option maxHeartbeats 800000 in
theorem rpages_any (P T A M W Q : Int) (w : World) : Calls Try.prog 41 #[cfgV P T A M W Q] w fun e w' => e = .returned (.tuple #[.int .i64 (pagN P T A M W Q), .int .i64 (chkC P T A M W Q)]) ∧ Below w.heap.size w w' := by
  obtain ⟨x, hbel⟩ := box_cfg w P T A M W Q
  obtain ⟨c0, c1, c2, c3, c4, c5⟩ := x.cfg
  have X := Lib.hid x
  have BEL := Lib.hid hbel
  clear x hbel
  have MY := Lib.hid (fun w' : World => rmay_any P T A M W Q w')
  by_cases h : mayC P T A M W Q
  · have F := Lib.hid (fun w' : World => rmany_any P T A M W Q w')
    rw [show pagN P T A M W Q = pagC T by unfold pagN; rw [if_pos h], show chkC P T A M W Q = 0 by unfold chkC; rw [if_pos h]]
    rw [show decide (mayC P T A M W Q) = true by simpa using h] at MY
    obtain ⟨v, hv⟩ : ∃ v, v = pagC T := ⟨_, rfl⟩
    rw [← hv] at F ⊢
    clear h hv
    go_enter Try.func41, Try.ntmps41
    go_wp2_with fail
    refine (MY.out _).mono ?_
    rintro e w1 ⟨rfl, hb1⟩
    have hb := hb1
    have X := Lib.hid (X.out.below (hb.mono (by have := X.out.lt; omega)) X.out.lt)
    have BEL := Lib.hid (BEL.out.trans (hb.mono BEL.out.size))
    clear hb hb1 c0 c1 c2 c3 c4 c5
    obtain ⟨c0, c1, c2, c3, c4, c5⟩ := X.out.cfg
    go_wp2_with fail
    refine (F.out _).mono ?_
    rintro e w2 ⟨rfl, hb2⟩
    have hb := hb2
    have X := Lib.hid (X.out.below (hb.mono (by have := X.out.lt; omega)) X.out.lt)
    have BEL := Lib.hid (BEL.out.trans (hb.mono BEL.out.size))
    clear hb hb2 c0 c1 c2 c3 c4 c5
    obtain ⟨c0, c1, c2, c3, c4, c5⟩ := X.out.cfg
    go_wp2
    go_ret2
    exact ⟨rfl, BEL.out⟩
  · rw [show pagN P T A M W Q = 0 by unfold pagN; rw [if_neg h], show chkC P T A M W Q = 8 by unfold chkC; rw [if_neg h]]
    rw [show decide (mayC P T A M W Q) = false by simpa using h] at MY
    clear h
    go_enter Try.func41, Try.ntmps41
    go_wp2_with fail
    refine (MY.out _).mono ?_
    rintro e w1 ⟨rfl, hb1⟩
    have hb := hb1
    have X := Lib.hid (X.out.below (hb.mono (by have := X.out.lt; omega)) X.out.lt)
    have BEL := Lib.hid (BEL.out.trans (hb.mono BEL.out.size))
    clear hb hb1 c0 c1 c2 c3 c4 c5
    obtain ⟨c0, c1, c2, c3, c4, c5⟩ := X.out.cfg
    go_wp2
    go_ret2
    exact ⟨rfl, BEL.out⟩

set_option maxHeartbeats 800000 in
theorem rcheck_any (P T A M W Q : Int) (w : World) : Calls Try.prog 43 #[cfgV P T A M W Q] w fun e w' => e = .returned (.int .i64 (chkC P T A M W Q)) ∧ Below w.heap.size w w' := by
  obtain ⟨x, hbel⟩ := box_cfg w P T A M W Q
  obtain ⟨c0, c1, c2, c3, c4, c5⟩ := x.cfg
  have X := Lib.hid x
  have BEL := Lib.hid hbel
  clear x hbel
  have MY := Lib.hid (fun w' : World => rmay_any P T A M W Q w')
  by_cases h : mayC P T A M W Q
  · rw [show chkC P T A M W Q = 0 by unfold chkC; rw [if_pos h]]
    rw [show decide (mayC P T A M W Q) = true by simpa using h] at MY
    clear h
    go_enter Try.func43, Try.ntmps43
    go_wp2_with fail
    refine (MY.out _).mono ?_
    rintro e w1 ⟨rfl, hb1⟩
    have hb := hb1
    have X := Lib.hid (X.out.below (hb.mono (by have := X.out.lt; omega)) X.out.lt)
    have BEL := Lib.hid (BEL.out.trans (hb.mono BEL.out.size))
    clear hb hb1 c0 c1 c2 c3 c4 c5
    obtain ⟨c0, c1, c2, c3, c4, c5⟩ := X.out.cfg
    go_wp2
    go_ret
    exact ⟨rfl, BEL.out⟩
  · rw [show chkC P T A M W Q = 8 by unfold chkC; rw [if_neg h]]
    rw [show decide (mayC P T A M W Q) = false by simpa using h] at MY
    clear h
    go_enter Try.func43, Try.ntmps43
    go_wp2_with fail
    refine (MY.out _).mono ?_
    rintro e w1 ⟨rfl, hb1⟩
    have hb := hb1
    have X := Lib.hid (X.out.below (hb.mono (by have := X.out.lt; omega)) X.out.lt)
    have BEL := Lib.hid (BEL.out.trans (hb.mono BEL.out.size))
    clear hb hb1 c0 c1 c2 c3 c4 c5
    obtain ⟨c0, c1, c2, c3, c4, c5⟩ := X.out.cfg
    go_wp2
    go_ret
    exact ⟨rfl, BEL.out⟩

set_option maxHeartbeats 1600000 in
theorem rinarea_any (P T A M W Q a n : Int) (w : World) (h : mayC P T A M W Q) (hc : 0 ≤ a ∧ a ≤ 1 ∧ 0 ≤ n ∧ n ≤ A - 1) : Calls Try.prog 78 #[cfgV P T A M W Q, .int .i64 a, .int .i64 n] w fun e w' => e = .returned (.int .i64 (2 + a * A + n)) ∧ Below w.heap.size w w' := by
  obtain ⟨x, hbel⟩ := box_cfg w P T A M W Q
  obtain ⟨c0, c1, c2, c3, c4, c5⟩ := x.cfg
  have X := Lib.hid x
  have BEL := Lib.hid hbel
  clear x hbel
  have F := Lib.hid (fun w' : World => rfirst_any P T A M W Q w' h)
  have MN := Lib.hid (fun w' : World => rmany_any P T A M W Q w')
  have hb := bounds_may h
  obtain ⟨h1, h2, h3, h4, h5, h6, h7⟩ := h
  obtain ⟨k1, k2, k3, k4⟩ := hc
  have hp : fP A = 2 + 2 * A := rfl
  have ht : fT P T A = 2 + 2 * A + P * pagC T := rfl
  obtain ⟨e, he⟩ : ∃ e, e = fE P T A := ⟨_, rfl⟩
  obtain ⟨g, hg⟩ : ∃ g, g = pagC T := ⟨_, rfl⟩
  obtain ⟨p, hpp⟩ : ∃ p, p = fP A := ⟨_, rfl⟩
  obtain ⟨t, htt⟩ : ∃ t, t = fT P T A := ⟨_, rfl⟩
  rw [← he, ← hpp, ← htt] at F
  rw [← hpp] at hp
  rw [← htt, ← hg] at ht
  rw [← hg] at MN hb
  obtain ⟨b1, b2, b3, b4, b5, b6, b7⟩ := hb
  have hx : ∃ x, x = a * A ∧ 0 ≤ x ∧ x ≤ 64 := by
    refine ⟨_, rfl, ?_⟩
    try rw [← hg] at k4
    rcases mul3 k1 (by omega) A with q | q | q | q <;> omega
  obtain ⟨x, hx, x0, x1⟩ := hx
  have m1 : IntKind.i64.wrap (a * A) = x := by rw [← hx]; exact wrap_sm (by omega) (by omega)
  have m2 : IntKind.i64.wrap (2 + x) = 2 + x := wrap_sm (by omega) (by omega)
  have m3 : IntKind.i64.wrap (2 + x + n) = 2 + x + n := wrap_sm (by omega) (by omega)
  rw [← hx]
  clear hx he hg hpp htt hp ht b1 b2 b3 b4 b5 b6 b7 h1 h2 h3 h4 h5 h6 h7 k1 k2 k3 k4
  go_enter Try.func78, Try.ntmps78
  go_wp2_with fail
  refine (F.out _).mono ?_
  rintro e w1 ⟨rfl, hb1⟩
  have hb := hb1
  have X := Lib.hid (X.out.below (hb.mono (by have := X.out.lt; omega)) X.out.lt)
  have BEL := Lib.hid (BEL.out.trans (hb.mono BEL.out.size))
  clear hb hb1 c0 c1 c2 c3 c4 c5
  obtain ⟨c0, c1, c2, c3, c4, c5⟩ := X.out.cfg
  go_wp2
  go_ret
  exact ⟨rfl, BEL.out⟩

set_option maxHeartbeats 1600000 in
theorem rofpage_any (P T A M W Q a n : Int) (w : World) (h : mayC P T A M W Q) (hc : 0 ≤ a ∧ a ≤ P - 1 ∧ 0 ≤ n ∧ n ≤ pagC T - 1) : Calls Try.prog 79 #[cfgV P T A M W Q, .int .i64 a, .int .i64 n] w fun e w' => e = .returned (.int .i64 (fP A + a * pagC T + n)) ∧ Below w.heap.size w w' := by
  obtain ⟨x, hbel⟩ := box_cfg w P T A M W Q
  obtain ⟨c0, c1, c2, c3, c4, c5⟩ := x.cfg
  have X := Lib.hid x
  have BEL := Lib.hid hbel
  clear x hbel
  have F := Lib.hid (fun w' : World => rfirst_any P T A M W Q w' h)
  have MN := Lib.hid (fun w' : World => rmany_any P T A M W Q w')
  have hb := bounds_may h
  obtain ⟨h1, h2, h3, h4, h5, h6, h7⟩ := h
  obtain ⟨k1, k2, k3, k4⟩ := hc
  have hp : fP A = 2 + 2 * A := rfl
  have ht : fT P T A = 2 + 2 * A + P * pagC T := rfl
  obtain ⟨e, he⟩ : ∃ e, e = fE P T A := ⟨_, rfl⟩
  obtain ⟨g, hg⟩ : ∃ g, g = pagC T := ⟨_, rfl⟩
  obtain ⟨p, hpp⟩ : ∃ p, p = fP A := ⟨_, rfl⟩
  obtain ⟨t, htt⟩ : ∃ t, t = fT P T A := ⟨_, rfl⟩
  rw [← he, ← hpp, ← htt] at F
  rw [← hpp] at hp
  rw [← htt, ← hg] at ht
  rw [← hg] at MN hb
  obtain ⟨b1, b2, b3, b4, b5, b6, b7⟩ := hb
  have hx : ∃ x, x = a * g ∧ 0 ≤ x ∧ x ≤ 64 := by
    refine ⟨_, rfl, ?_⟩
    try rw [← hg] at k4
    rcases mul3 k1 (by omega) g with q | q | q | q <;> omega
  obtain ⟨x, hx, x0, x1⟩ := hx
  rw [← hpp, ← hg, ← hx]
  rw [← hg] at k4
  have m1 : IntKind.i64.wrap (a * g) = x := by rw [← hx]; exact wrap_sm (by omega) (by omega)
  have m2 : IntKind.i64.wrap (p + x) = p + x := wrap_sm (by omega) (by omega)
  have m3 : IntKind.i64.wrap (p + x + n) = p + x + n := wrap_sm (by omega) (by omega)
  clear hx he hg hpp htt hp ht b1 b2 b3 b4 b5 b6 b7 h1 h2 h3 h4 h5 h6 h7 k1 k2 k3 k4
  go_enter Try.func79, Try.ntmps79
  go_wp2_with fail
  refine (F.out _).mono ?_
  rintro e w1 ⟨rfl, hb1⟩
  have hb := hb1
  have X := Lib.hid (X.out.below (hb.mono (by have := X.out.lt; omega)) X.out.lt)
  have BEL := Lib.hid (BEL.out.trans (hb.mono BEL.out.size))
  clear hb hb1 c0 c1 c2 c3 c4 c5
  obtain ⟨c0, c1, c2, c3, c4, c5⟩ := X.out.cfg
  go_wp2_with fail
  refine (MN.out _).mono ?_
  rintro e w2 ⟨rfl, hb2⟩
  have hb := hb2
  have X := Lib.hid (X.out.below (hb.mono (by have := X.out.lt; omega)) X.out.lt)
  have BEL := Lib.hid (BEL.out.trans (hb.mono BEL.out.size))
  clear hb hb2 c0 c1 c2 c3 c4 c5
  obtain ⟨c0, c1, c2, c3, c4, c5⟩ := X.out.cfg
  go_wp2
  go_ret
  exact ⟨rfl, BEL.out⟩

set_option maxHeartbeats 1600000 in
theorem roftrack_any (P T A M W Q a n : Int) (w : World) (h : mayC P T A M W Q) (hc : 0 ≤ a ∧ a ≤ P - 1 ∧ 0 ≤ n ∧ n ≤ T - 1) : Calls Try.prog 80 #[cfgV P T A M W Q, .int .i64 a, .int .i64 n] w fun e w' => e = .returned (.int .i64 (fT P T A + 4 * (a * T + n))) ∧ Below w.heap.size w w' := by
  obtain ⟨x, hbel⟩ := box_cfg w P T A M W Q
  obtain ⟨c0, c1, c2, c3, c4, c5⟩ := x.cfg
  have X := Lib.hid x
  have BEL := Lib.hid hbel
  clear x hbel
  have F := Lib.hid (fun w' : World => rfirst_any P T A M W Q w' h)
  have MN := Lib.hid (fun w' : World => rmany_any P T A M W Q w')
  have hb := bounds_may h
  obtain ⟨h1, h2, h3, h4, h5, h6, h7⟩ := h
  obtain ⟨k1, k2, k3, k4⟩ := hc
  have hp : fP A = 2 + 2 * A := rfl
  have ht : fT P T A = 2 + 2 * A + P * pagC T := rfl
  obtain ⟨e, he⟩ : ∃ e, e = fE P T A := ⟨_, rfl⟩
  obtain ⟨g, hg⟩ : ∃ g, g = pagC T := ⟨_, rfl⟩
  obtain ⟨p, hpp⟩ : ∃ p, p = fP A := ⟨_, rfl⟩
  obtain ⟨t, htt⟩ : ∃ t, t = fT P T A := ⟨_, rfl⟩
  rw [← he, ← hpp, ← htt] at F
  rw [← hpp] at hp
  rw [← htt, ← hg] at ht
  rw [← hg] at MN hb
  obtain ⟨b1, b2, b3, b4, b5, b6, b7⟩ := hb
  have hx : ∃ x, x = a * T ∧ 0 ≤ x ∧ x ≤ 64 := by
    refine ⟨_, rfl, ?_⟩
    try rw [← hg] at k4
    rcases mul3 k1 (by omega) T with q | q | q | q <;> omega
  obtain ⟨x, hx, x0, x1⟩ := hx
  rw [← htt, ← hx]
  have m1 : IntKind.i64.wrap (a * T) = x := by rw [← hx]; exact wrap_sm (by omega) (by omega)
  have m2 : IntKind.i64.wrap (x + n) = x + n := wrap_sm (by omega) (by omega)
  have m3 : IntKind.i64.wrap (4 * (x + n)) = 4 * (x + n) := wrap_sm (by omega) (by omega)
  have m4 : IntKind.i64.wrap (t + 4 * (x + n)) = t + 4 * (x + n) := wrap_sm (by omega) (by omega)
  clear hx he hg hpp htt hp ht b1 b2 b3 b4 b5 b6 b7 h1 h2 h3 h4 h5 h6 h7 k1 k2 k3 k4
  go_enter Try.func80, Try.ntmps80
  go_wp2_with fail
  refine (F.out _).mono ?_
  rintro e w1 ⟨rfl, hb1⟩
  have hb := hb1
  have X := Lib.hid (X.out.below (hb.mono (by have := X.out.lt; omega)) X.out.lt)
  have BEL := Lib.hid (BEL.out.trans (hb.mono BEL.out.size))
  clear hb hb1 c0 c1 c2 c3 c4 c5
  obtain ⟨c0, c1, c2, c3, c4, c5⟩ := X.out.cfg
  go_wp2
  go_ret
  exact ⟨rfl, BEL.out⟩

end Go.Proofs.Ytghdcajojbbllaa
