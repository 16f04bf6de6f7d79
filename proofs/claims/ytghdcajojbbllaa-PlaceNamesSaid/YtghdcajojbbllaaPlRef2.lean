/- Layer 7: the document's own answers: where things stand, what stands there. No statement is proved here. -/
import Derived.Test.YtghdcajojbbllaaPlRef
import Derived.Deep.RegionHeld3
namespace Go.Proofs.Ytghdcajojbbllaa
open Go.RowKit
set_option linter.unusedVariables false

set_option maxHeartbeats 1600000 in
theorem rarea_any (P T A M W Q a n : Int) (w : World) : Calls Try.prog 44 #[cfgV P T A M W Q, .int .i64 a, .int .i64 n] w fun e w' => e = .returned (.tuple #[.int .i64 (areN P T A M W Q a n), .int .i64 (areE P T A M W Q a n)]) ∧ Below w.heap.size w w' := by
  obtain ⟨x, hbel⟩ := box_cfg w P T A M W Q
  obtain ⟨c0, c1, c2, c3, c4, c5⟩ := x.cfg
  have X := Lib.hid x
  have BEL := Lib.hid hbel
  clear x hbel
  have MY := Lib.hid (fun w' : World => rmay_any P T A M W Q w')
  have MN := Lib.hid (fun w' : World => rmany_any P T A M W Q w')
  by_cases h : mayC P T A M W Q
  · rw [show decide (mayC P T A M W Q) = true by simpa using h] at MY
    have hb := bounds_may h
    have hm := h
    obtain ⟨h1, h2, h3, h4, h5, h6, h7⟩ := h
    obtain ⟨b1, b2, b3, b4, b5, b6, b7⟩ := hb
    by_cases k1 : 0 ≤ a ∧ a ≤ 1
    · by_cases k2 : 0 ≤ n ∧ n ≤ A - 1
      · have F := Lib.hid (fun w' : World => rinarea_any P T A M W Q a n w' hm (by omega))
        rw [show areN P T A M W Q a n = 2 + a * A + n by unfold areN; rw [if_pos hm, if_pos (by omega)], show areE P T A M W Q a n = 0 by unfold areE; rw [if_pos hm, if_pos (by omega)]]
        obtain ⟨v, hv⟩ : ∃ v, v = 2 + a * A + n := ⟨_, rfl⟩
        rw [← hv] at F ⊢
        obtain ⟨g, hg⟩ : ∃ g, g = pagC T := ⟨_, rfl⟩
        rw [← hg] at MN b3 b4
        try rw [← hg] at k2
        clear hv hm hg b1 b2 b5 b6 b7 h7
        go_enter Try.func44, Try.ntmps44
        go_wp2_with fail
        refine (MY.out _).mono ?_
        rintro e w1 ⟨rfl, hb1⟩
        have hb := hb1
        have X := Lib.hid (X.out.below (hb.mono (by have := X.out.lt; omega)) X.out.lt)
        have BEL := Lib.hid (BEL.out.trans (hb.mono BEL.out.size))
        clear hb hb1 c0 c1 c2 c3 c4 c5
        obtain ⟨c0, c1, c2, c3, c4, c5⟩ := X.out.cfg
        go_wp2_with fail
        refine (in_yes a 0 1 _ k1).mono ?_
        rintro e w1 ⟨rfl, rfl⟩
        go_wp2_with fail
        refine (in_yes n 0 (A - 1) _ k2).mono ?_
        rintro e w1 ⟨rfl, rfl⟩
        go_wp2_with fail
        refine (F.out _).mono ?_
        rintro e w3 ⟨rfl, hb3⟩
        have hb := hb3
        have X := Lib.hid (X.out.below (hb.mono (by have := X.out.lt; omega)) X.out.lt)
        have BEL := Lib.hid (BEL.out.trans (hb.mono BEL.out.size))
        clear hb hb3 c0 c1 c2 c3 c4 c5
        obtain ⟨c0, c1, c2, c3, c4, c5⟩ := X.out.cfg
        go_wp2
        go_ret2
        exact ⟨rfl, BEL.out⟩
      · rw [show areN P T A M W Q a n = 0 by unfold areN; rw [if_pos hm, if_neg (by omega)], show areE P T A M W Q a n = 2 by unfold areE; rw [if_pos hm, if_neg (by omega)]]
        obtain ⟨g, hg⟩ : ∃ g, g = pagC T := ⟨_, rfl⟩
        rw [← hg] at MN b3 b4
        try rw [← hg] at k2
        clear hm hg b1 b2 b5 b6 b7 h7
        go_enter Try.func44, Try.ntmps44
        go_wp2_with fail
        refine (MY.out _).mono ?_
        rintro e w1 ⟨rfl, hb1⟩
        have hb := hb1
        have X := Lib.hid (X.out.below (hb.mono (by have := X.out.lt; omega)) X.out.lt)
        have BEL := Lib.hid (BEL.out.trans (hb.mono BEL.out.size))
        clear hb hb1 c0 c1 c2 c3 c4 c5
        obtain ⟨c0, c1, c2, c3, c4, c5⟩ := X.out.cfg
        go_wp2_with fail
        refine (in_yes a 0 1 _ k1).mono ?_
        rintro e w1 ⟨rfl, rfl⟩
        go_wp2_with fail
        refine (in_no n 0 (A - 1) _ k2).mono ?_
        rintro e w1 ⟨rfl, rfl⟩
        go_wp2
        go_ret2
        exact ⟨rfl, BEL.out⟩
    · rw [show areN P T A M W Q a n = 0 by unfold areN; rw [if_pos hm, if_neg (by omega)], show areE P T A M W Q a n = 2 by unfold areE; rw [if_pos hm, if_neg (by omega)]]
      clear hm b1 b2 b3 b4 b5 b6 b7 h7
      go_enter Try.func44, Try.ntmps44
      go_wp2_with fail
      refine (MY.out _).mono ?_
      rintro e w1 ⟨rfl, hb1⟩
      have hb := hb1
      have X := Lib.hid (X.out.below (hb.mono (by have := X.out.lt; omega)) X.out.lt)
      have BEL := Lib.hid (BEL.out.trans (hb.mono BEL.out.size))
      clear hb hb1 c0 c1 c2 c3 c4 c5
      obtain ⟨c0, c1, c2, c3, c4, c5⟩ := X.out.cfg
      go_wp2_with fail
      refine (in_no a 0 1 _ k1).mono ?_
      rintro e w1 ⟨rfl, rfl⟩
      go_wp2
      go_ret2
      exact ⟨rfl, BEL.out⟩
  · rw [show decide (mayC P T A M W Q) = false by simpa using h] at MY
    rw [show areN P T A M W Q a n = 0 by unfold areN; rw [if_neg h], show areE P T A M W Q a n = 8 by unfold areE; rw [if_neg h]]
    clear h
    go_enter Try.func44, Try.ntmps44
    go_wp2_with fail
    refine (MY.out _).mono ?_
    rintro e w1 ⟨rfl, hb1⟩
    have hb := hb1
    have X := Lib.hid (X.out.below (hb.mono (by have := X.out.lt; omega)) X.out.lt)
    have BEL := Lib.hid (BEL.out.trans (hb.mono BEL.out.size))
    clear hb hb1 c0 c1 c2 c3 c4 c5
    obtain ⟨c0, c1, c2, c3, c4, c5⟩ := X.out.cfg
    go_wp2
    go_ret2
    exact ⟨rfl, BEL.out⟩

set_option maxHeartbeats 1600000 in
theorem rpage_any (P T A M W Q a n : Int) (w : World) : Calls Try.prog 45 #[cfgV P T A M W Q, .int .i64 a, .int .i64 n] w fun e w' => e = .returned (.tuple #[.int .i64 (pgeN P T A M W Q a n), .int .i64 (pgeE P T A M W Q a n)]) ∧ Below w.heap.size w w' := by
  obtain ⟨x, hbel⟩ := box_cfg w P T A M W Q
  obtain ⟨c0, c1, c2, c3, c4, c5⟩ := x.cfg
  have X := Lib.hid x
  have BEL := Lib.hid hbel
  clear x hbel
  have MY := Lib.hid (fun w' : World => rmay_any P T A M W Q w')
  have MN := Lib.hid (fun w' : World => rmany_any P T A M W Q w')
  by_cases h : mayC P T A M W Q
  · rw [show decide (mayC P T A M W Q) = true by simpa using h] at MY
    have hb := bounds_may h
    have hm := h
    obtain ⟨h1, h2, h3, h4, h5, h6, h7⟩ := h
    obtain ⟨b1, b2, b3, b4, b5, b6, b7⟩ := hb
    by_cases k1 : 0 ≤ a ∧ a ≤ P - 1
    · by_cases k2 : 0 ≤ n ∧ n ≤ pagC T - 1
      · have F := Lib.hid (fun w' : World => rofpage_any P T A M W Q a n w' hm (by omega))
        rw [show pgeN P T A M W Q a n = fP A + a * pagC T + n by unfold pgeN; rw [if_pos hm, if_pos (by omega)], show pgeE P T A M W Q a n = 0 by unfold pgeE; rw [if_pos hm, if_pos (by omega)]]
        obtain ⟨v, hv⟩ : ∃ v, v = fP A + a * pagC T + n := ⟨_, rfl⟩
        rw [← hv] at F ⊢
        obtain ⟨g, hg⟩ : ∃ g, g = pagC T := ⟨_, rfl⟩
        rw [← hg] at MN b3 b4
        try rw [← hg] at k2
        clear hv hm hg b1 b2 b5 b6 b7 h7
        go_enter Try.func45, Try.ntmps45
        go_wp2_with fail
        refine (MY.out _).mono ?_
        rintro e w1 ⟨rfl, hb1⟩
        have hb := hb1
        have X := Lib.hid (X.out.below (hb.mono (by have := X.out.lt; omega)) X.out.lt)
        have BEL := Lib.hid (BEL.out.trans (hb.mono BEL.out.size))
        clear hb hb1 c0 c1 c2 c3 c4 c5
        obtain ⟨c0, c1, c2, c3, c4, c5⟩ := X.out.cfg
        go_wp2_with fail
        refine (in_yes a 0 (P - 1) _ k1).mono ?_
        rintro e w1 ⟨rfl, rfl⟩
        go_wp2_with fail
        refine (MN.out _).mono ?_
        rintro e w2 ⟨rfl, hb2⟩
        have hb := hb2
        have X := Lib.hid (X.out.below (hb.mono (by have := X.out.lt; omega)) X.out.lt)
        have BEL := Lib.hid (BEL.out.trans (hb.mono BEL.out.size))
        clear hb hb2 c0 c1 c2 c3 c4 c5
        obtain ⟨c0, c1, c2, c3, c4, c5⟩ := X.out.cfg
        go_wp2_with fail
        refine (in_yes n 0 (g - 1) _ k2).mono ?_
        rintro e w1 ⟨rfl, rfl⟩
        go_wp2_with fail
        refine (F.out _).mono ?_
        rintro e w3 ⟨rfl, hb3⟩
        have hb := hb3
        have X := Lib.hid (X.out.below (hb.mono (by have := X.out.lt; omega)) X.out.lt)
        have BEL := Lib.hid (BEL.out.trans (hb.mono BEL.out.size))
        clear hb hb3 c0 c1 c2 c3 c4 c5
        obtain ⟨c0, c1, c2, c3, c4, c5⟩ := X.out.cfg
        go_wp2
        go_ret2
        exact ⟨rfl, BEL.out⟩
      · rw [show pgeN P T A M W Q a n = 0 by unfold pgeN; rw [if_pos hm, if_neg (by omega)], show pgeE P T A M W Q a n = 2 by unfold pgeE; rw [if_pos hm, if_neg (by omega)]]
        obtain ⟨g, hg⟩ : ∃ g, g = pagC T := ⟨_, rfl⟩
        rw [← hg] at MN b3 b4
        try rw [← hg] at k2
        clear hm hg b1 b2 b5 b6 b7 h7
        go_enter Try.func45, Try.ntmps45
        go_wp2_with fail
        refine (MY.out _).mono ?_
        rintro e w1 ⟨rfl, hb1⟩
        have hb := hb1
        have X := Lib.hid (X.out.below (hb.mono (by have := X.out.lt; omega)) X.out.lt)
        have BEL := Lib.hid (BEL.out.trans (hb.mono BEL.out.size))
        clear hb hb1 c0 c1 c2 c3 c4 c5
        obtain ⟨c0, c1, c2, c3, c4, c5⟩ := X.out.cfg
        go_wp2_with fail
        refine (in_yes a 0 (P - 1) _ k1).mono ?_
        rintro e w1 ⟨rfl, rfl⟩
        go_wp2_with fail
        refine (MN.out _).mono ?_
        rintro e w2 ⟨rfl, hb2⟩
        have hb := hb2
        have X := Lib.hid (X.out.below (hb.mono (by have := X.out.lt; omega)) X.out.lt)
        have BEL := Lib.hid (BEL.out.trans (hb.mono BEL.out.size))
        clear hb hb2 c0 c1 c2 c3 c4 c5
        obtain ⟨c0, c1, c2, c3, c4, c5⟩ := X.out.cfg
        go_wp2_with fail
        refine (in_no n 0 (g - 1) _ k2).mono ?_
        rintro e w1 ⟨rfl, rfl⟩
        go_wp2
        go_ret2
        exact ⟨rfl, BEL.out⟩
    · rw [show pgeN P T A M W Q a n = 0 by unfold pgeN; rw [if_pos hm, if_neg (by omega)], show pgeE P T A M W Q a n = 2 by unfold pgeE; rw [if_pos hm, if_neg (by omega)]]
      clear hm b1 b2 b3 b4 b5 b6 b7 h7
      go_enter Try.func45, Try.ntmps45
      go_wp2_with fail
      refine (MY.out _).mono ?_
      rintro e w1 ⟨rfl, hb1⟩
      have hb := hb1
      have X := Lib.hid (X.out.below (hb.mono (by have := X.out.lt; omega)) X.out.lt)
      have BEL := Lib.hid (BEL.out.trans (hb.mono BEL.out.size))
      clear hb hb1 c0 c1 c2 c3 c4 c5
      obtain ⟨c0, c1, c2, c3, c4, c5⟩ := X.out.cfg
      go_wp2_with fail
      refine (in_no a 0 (P - 1) _ k1).mono ?_
      rintro e w1 ⟨rfl, rfl⟩
      go_wp2
      go_ret2
      exact ⟨rfl, BEL.out⟩
  · rw [show decide (mayC P T A M W Q) = false by simpa using h] at MY
    rw [show pgeN P T A M W Q a n = 0 by unfold pgeN; rw [if_neg h], show pgeE P T A M W Q a n = 8 by unfold pgeE; rw [if_neg h]]
    clear h
    go_enter Try.func45, Try.ntmps45
    go_wp2_with fail
    refine (MY.out _).mono ?_
    rintro e w1 ⟨rfl, hb1⟩
    have hb := hb1
    have X := Lib.hid (X.out.below (hb.mono (by have := X.out.lt; omega)) X.out.lt)
    have BEL := Lib.hid (BEL.out.trans (hb.mono BEL.out.size))
    clear hb hb1 c0 c1 c2 c3 c4 c5
    obtain ⟨c0, c1, c2, c3, c4, c5⟩ := X.out.cfg
    go_wp2
    go_ret2
    exact ⟨rfl, BEL.out⟩

set_option maxHeartbeats 1600000 in
theorem rtrack_any (P T A M W Q a n : Int) (w : World) : Calls Try.prog 46 #[cfgV P T A M W Q, .int .i64 a, .int .i64 n] w fun e w' => e = .returned (.tuple #[.int .i64 (traN P T A M W Q a n), .int .i64 (traE P T A M W Q a n)]) ∧ Below w.heap.size w w' := by
  obtain ⟨x, hbel⟩ := box_cfg w P T A M W Q
  obtain ⟨c0, c1, c2, c3, c4, c5⟩ := x.cfg
  have X := Lib.hid x
  have BEL := Lib.hid hbel
  clear x hbel
  have MY := Lib.hid (fun w' : World => rmay_any P T A M W Q w')
  have MN := Lib.hid (fun w' : World => rmany_any P T A M W Q w')
  by_cases h : mayC P T A M W Q
  · rw [show decide (mayC P T A M W Q) = true by simpa using h] at MY
    have hb := bounds_may h
    have hm := h
    obtain ⟨h1, h2, h3, h4, h5, h6, h7⟩ := h
    obtain ⟨b1, b2, b3, b4, b5, b6, b7⟩ := hb
    by_cases k1 : 0 ≤ a ∧ a ≤ P - 1
    · by_cases k2 : 0 ≤ n ∧ n ≤ T - 1
      · have F := Lib.hid (fun w' : World => roftrack_any P T A M W Q a n w' hm (by omega))
        rw [show traN P T A M W Q a n = fT P T A + 4 * (a * T + n) by unfold traN; rw [if_pos hm, if_pos (by omega)], show traE P T A M W Q a n = 0 by unfold traE; rw [if_pos hm, if_pos (by omega)]]
        obtain ⟨v, hv⟩ : ∃ v, v = fT P T A + 4 * (a * T + n) := ⟨_, rfl⟩
        rw [← hv] at F ⊢
        obtain ⟨g, hg⟩ : ∃ g, g = pagC T := ⟨_, rfl⟩
        rw [← hg] at MN b3 b4
        try rw [← hg] at k2
        clear hv hm hg b1 b2 b5 b6 b7 h7
        go_enter Try.func46, Try.ntmps46
        go_wp2_with fail
        refine (MY.out _).mono ?_
        rintro e w1 ⟨rfl, hb1⟩
        have hb := hb1
        have X := Lib.hid (X.out.below (hb.mono (by have := X.out.lt; omega)) X.out.lt)
        have BEL := Lib.hid (BEL.out.trans (hb.mono BEL.out.size))
        clear hb hb1 c0 c1 c2 c3 c4 c5
        obtain ⟨c0, c1, c2, c3, c4, c5⟩ := X.out.cfg
        go_wp2_with fail
        refine (in_yes a 0 (P - 1) _ k1).mono ?_
        rintro e w1 ⟨rfl, rfl⟩
        go_wp2_with fail
        refine (in_yes n 0 (T - 1) _ k2).mono ?_
        rintro e w1 ⟨rfl, rfl⟩
        go_wp2_with fail
        refine (F.out _).mono ?_
        rintro e w3 ⟨rfl, hb3⟩
        have hb := hb3
        have X := Lib.hid (X.out.below (hb.mono (by have := X.out.lt; omega)) X.out.lt)
        have BEL := Lib.hid (BEL.out.trans (hb.mono BEL.out.size))
        clear hb hb3 c0 c1 c2 c3 c4 c5
        obtain ⟨c0, c1, c2, c3, c4, c5⟩ := X.out.cfg
        go_wp2
        go_ret2
        exact ⟨rfl, BEL.out⟩
      · rw [show traN P T A M W Q a n = 0 by unfold traN; rw [if_pos hm, if_neg (by omega)], show traE P T A M W Q a n = 2 by unfold traE; rw [if_pos hm, if_neg (by omega)]]
        obtain ⟨g, hg⟩ : ∃ g, g = pagC T := ⟨_, rfl⟩
        rw [← hg] at MN b3 b4
        try rw [← hg] at k2
        clear hm hg b1 b2 b5 b6 b7 h7
        go_enter Try.func46, Try.ntmps46
        go_wp2_with fail
        refine (MY.out _).mono ?_
        rintro e w1 ⟨rfl, hb1⟩
        have hb := hb1
        have X := Lib.hid (X.out.below (hb.mono (by have := X.out.lt; omega)) X.out.lt)
        have BEL := Lib.hid (BEL.out.trans (hb.mono BEL.out.size))
        clear hb hb1 c0 c1 c2 c3 c4 c5
        obtain ⟨c0, c1, c2, c3, c4, c5⟩ := X.out.cfg
        go_wp2_with fail
        refine (in_yes a 0 (P - 1) _ k1).mono ?_
        rintro e w1 ⟨rfl, rfl⟩
        go_wp2_with fail
        refine (in_no n 0 (T - 1) _ k2).mono ?_
        rintro e w1 ⟨rfl, rfl⟩
        go_wp2
        go_ret2
        exact ⟨rfl, BEL.out⟩
    · rw [show traN P T A M W Q a n = 0 by unfold traN; rw [if_pos hm, if_neg (by omega)], show traE P T A M W Q a n = 2 by unfold traE; rw [if_pos hm, if_neg (by omega)]]
      clear hm b1 b2 b3 b4 b5 b6 b7 h7
      go_enter Try.func46, Try.ntmps46
      go_wp2_with fail
      refine (MY.out _).mono ?_
      rintro e w1 ⟨rfl, hb1⟩
      have hb := hb1
      have X := Lib.hid (X.out.below (hb.mono (by have := X.out.lt; omega)) X.out.lt)
      have BEL := Lib.hid (BEL.out.trans (hb.mono BEL.out.size))
      clear hb hb1 c0 c1 c2 c3 c4 c5
      obtain ⟨c0, c1, c2, c3, c4, c5⟩ := X.out.cfg
      go_wp2_with fail
      refine (in_no a 0 (P - 1) _ k1).mono ?_
      rintro e w1 ⟨rfl, rfl⟩
      go_wp2
      go_ret2
      exact ⟨rfl, BEL.out⟩
  · rw [show decide (mayC P T A M W Q) = false by simpa using h] at MY
    rw [show traN P T A M W Q a n = 0 by unfold traN; rw [if_neg h], show traE P T A M W Q a n = 8 by unfold traE; rw [if_neg h]]
    clear h
    go_enter Try.func46, Try.ntmps46
    go_wp2_with fail
    refine (MY.out _).mono ?_
    rintro e w1 ⟨rfl, hb1⟩
    have hb := hb1
    have X := Lib.hid (X.out.below (hb.mono (by have := X.out.lt; omega)) X.out.lt)
    have BEL := Lib.hid (BEL.out.trans (hb.mono BEL.out.size))
    clear hb hb1 c0 c1 c2 c3 c4 c5
    obtain ⟨c0, c1, c2, c3, c4, c5⟩ := X.out.cfg
    go_wp2
    go_ret2
    exact ⟨rfl, BEL.out⟩

set_option maxRecDepth 100000 in
set_option maxHeartbeats 3200000 in
theorem rwhat_any (P T A M W Q x : Int) (w : World) : Calls Try.prog 42 #[cfgV P T A M W Q, .int .i64 x] w fun e w' => e = .returned (.tuple #[.int .u8 (whaK P T A M W Q x), .int .i64 (whaA P T A M W Q x), .int .i64 (whaN P T A M W Q x), .int .i64 (whaE P T A M W Q x)]) ∧ Below w.heap.size w w' := by
  obtain ⟨x, hbel⟩ := box_cfg w P T A M W Q
  obtain ⟨c0, c1, c2, c3, c4, c5⟩ := x.cfg
  have X := Lib.hid x
  have BEL := Lib.hid hbel
  clear x hbel
  have MY := Lib.hid (fun w' : World => rmay_any P T A M W Q w')
  have MN := Lib.hid (fun w' : World => rmany_any P T A M W Q w')
  by_cases h : mayC P T A M W Q
  · rw [show decide (mayC P T A M W Q) = true by simpa using h] at MY
    have F := Lib.hid (fun w' : World => rfirst_any P T A M W Q w' h)
    have hb := bounds_may h
    have hE := fE_le h
    have hm := h
    obtain ⟨h1, h2, h3, h4, h5, h6, h7⟩ := h
    obtain ⟨b1, b2, b3, b4, b5, b6, b7⟩ := hb
    have hp : fP A = 2 + 2 * A := rfl
    have ht : fT P T A = fP A + P * pagC T := rfl
    have he : fE P T A = fT P T A + 4 * P * T := rfl
    rw [b7] at he
    have hpt : 2 ≤ fP A ∧ fP A ≤ fT P T A ∧ fT P T A ≤ fE P T A := by omega
    obtain ⟨q1, q2, q3⟩ := hpt
    by_cases k1 : x < 0 ∨ fE P T A ≤ x
    · rw [show whaK P T A M W Q x = 0 by unfold whaK; rw [if_pos hm, if_pos k1], show whaA P T A M W Q x = 0 by unfold whaA; rw [if_pos hm, if_pos k1], show whaN P T A M W Q x = 0 by unfold whaN; rw [if_pos hm, if_pos k1], show whaE P T A M W Q x = 2 by unfold whaE; rw [if_pos hm, if_pos k1]]
      obtain ⟨E, hE2⟩ : ∃ E, E = fE P T A := ⟨_, rfl⟩
      rw [← hE2] at F k1 hE he q3
      by_cases k2 : x < 0
      · clear k1 hm hE2 hp ht he b1 b2 b3 b4 b5 b6 b7 h7
        go_enter Try.func42, Try.ntmps42
        go_wp2_with fail
        refine (MY.out _).mono ?_
        rintro e w1 ⟨rfl, hb1⟩
        have hb := hb1
        have X := Lib.hid (X.out.below (hb.mono (by have := X.out.lt; omega)) X.out.lt)
        have BEL := Lib.hid (BEL.out.trans (hb.mono BEL.out.size))
        clear hb hb1 c0 c1 c2 c3 c4 c5
        obtain ⟨c0, c1, c2, c3, c4, c5⟩ := X.out.cfg
        go_wp2_with fail
        refine (F.out _).mono ?_
        rintro e w2 ⟨rfl, hb2⟩
        have hb := hb2
        have X := Lib.hid (X.out.below (hb.mono (by have := X.out.lt; omega)) X.out.lt)
        have BEL := Lib.hid (BEL.out.trans (hb.mono BEL.out.size))
        clear hb hb2 c0 c1 c2 c3 c4 c5
        obtain ⟨c0, c1, c2, c3, c4, c5⟩ := X.out.cfg
        go_wp2
        (try simp only [Exit.inBlock, Exit.then]); refine bodyPost_ret (results_tmp4 rfl _ _ _) rfl ?_
        exact ⟨rfl, BEL.out⟩
      · have k3 : E ≤ x := by omega
        clear k1 hm hE2 hp ht he b1 b2 b3 b4 b5 b6 b7 h7
        go_enter Try.func42, Try.ntmps42
        go_wp2_with fail
        refine (MY.out _).mono ?_
        rintro e w1 ⟨rfl, hb1⟩
        have hb := hb1
        have X := Lib.hid (X.out.below (hb.mono (by have := X.out.lt; omega)) X.out.lt)
        have BEL := Lib.hid (BEL.out.trans (hb.mono BEL.out.size))
        clear hb hb1 c0 c1 c2 c3 c4 c5
        obtain ⟨c0, c1, c2, c3, c4, c5⟩ := X.out.cfg
        go_wp2_with fail
        refine (F.out _).mono ?_
        rintro e w2 ⟨rfl, hb2⟩
        have hb := hb2
        have X := Lib.hid (X.out.below (hb.mono (by have := X.out.lt; omega)) X.out.lt)
        have BEL := Lib.hid (BEL.out.trans (hb.mono BEL.out.size))
        clear hb hb2 c0 c1 c2 c3 c4 c5
        obtain ⟨c0, c1, c2, c3, c4, c5⟩ := X.out.cfg
        go_wp2
        (try simp only [Exit.inBlock, Exit.then]); refine bodyPost_ret (results_tmp4 rfl _ _ _) rfl ?_
        exact ⟨rfl, BEL.out⟩
    · have k0 : 0 ≤ x := by omega
      have k3 : x < fE P T A := by omega
      by_cases k2 : x < 2
      · rw [show whaK P T A M W Q x = 1 by unfold whaK; rw [if_pos hm, if_neg k1, if_pos k2], show whaA P T A M W Q x = 0 by unfold whaA; rw [if_pos hm, if_neg k1, if_pos k2], show whaN P T A M W Q x = 0 by unfold whaN; rw [if_pos hm, if_neg k1, if_pos k2], show whaE P T A M W Q x = 0 by unfold whaE; rw [if_pos hm, if_neg k1]]
        obtain ⟨E, hE2⟩ : ∃ E, E = fE P T A := ⟨_, rfl⟩
        rw [← hE2] at F k3 hE
        clear k1 hm hE2 hp ht he b1 b2 b3 b4 b5 b6 b7 h7 q1 q2 q3
        go_enter Try.func42, Try.ntmps42
        go_wp2_with fail
        refine (MY.out _).mono ?_
        rintro e w1 ⟨rfl, hb1⟩
        have hb := hb1
        have X := Lib.hid (X.out.below (hb.mono (by have := X.out.lt; omega)) X.out.lt)
        have BEL := Lib.hid (BEL.out.trans (hb.mono BEL.out.size))
        clear hb hb1 c0 c1 c2 c3 c4 c5
        obtain ⟨c0, c1, c2, c3, c4, c5⟩ := X.out.cfg
        go_wp2_with fail
        refine (F.out _).mono ?_
        rintro e w2 ⟨rfl, hb2⟩
        have hb := hb2
        have X := Lib.hid (X.out.below (hb.mono (by have := X.out.lt; omega)) X.out.lt)
        have BEL := Lib.hid (BEL.out.trans (hb.mono BEL.out.size))
        clear hb hb2 c0 c1 c2 c3 c4 c5
        obtain ⟨c0, c1, c2, c3, c4, c5⟩ := X.out.cfg
        go_wp2
        (try simp only [Exit.inBlock, Exit.then]); refine bodyPost_ret (results_tmp4 rfl _ _ _) rfl ?_
        exact ⟨rfl, BEL.out⟩
      · by_cases k4 : x < fP A
        · rw [show whaK P T A M W Q x = 2 by unfold whaK; rw [if_pos hm, if_neg k1, if_neg k2, if_pos k4], show whaA P T A M W Q x = (x - 2) / A by unfold whaA; rw [if_pos hm, if_neg k1, if_neg k2, if_pos k4], show whaN P T A M W Q x = (x - 2) % A by unfold whaN; rw [if_pos hm, if_neg k1, if_neg k2, if_pos k4], show whaE P T A M W Q x = 0 by unfold whaE; rw [if_pos hm, if_neg k1]]
          have hq0 := Int.ediv_nonneg (a := x - 2) (b := A) (by omega) (by omega)
          have hq1 := Int.ediv_le_self (a := x - 2) A (by omega)
          have hr0 := Int.emod_nonneg (x - 2) (b := A) (by omega)
          have hr1 := Int.emod_lt_of_pos (x - 2) (b := A) (by omega)
          have hd1 := Int.tdiv_eq_ediv_of_nonneg (a := x - 2) (b := A) (by omega)
          have hd2 := Int.tmod_eq_emod_of_nonneg (a := x - 2) (b := A) (by omega)
          obtain ⟨E, hE2⟩ : ∃ E, E = fE P T A := ⟨_, rfl⟩
          rw [← hE2] at F k3 hE
          obtain ⟨q, hq⟩ : ∃ q, q = (x - 2) / A := ⟨_, rfl⟩
          obtain ⟨r, hr⟩ : ∃ r, r = (x - 2) % A := ⟨_, rfl⟩
          rw [← hq] at hq0 hq1 hd1 ⊢
          rw [← hr] at hr0 hr1 hd2 ⊢
          replace hq := hq.symm
          replace hr := hr.symm
          clear k1 hm hE2 hp ht he b1 b2 b3 b4 b5 b6 b7 h7 q1 q2 q3
          go_enter Try.func42, Try.ntmps42
          go_wp2_with fail
          refine (MY.out _).mono ?_
          rintro e w1 ⟨rfl, hb1⟩
          have hb := hb1
          have X := Lib.hid (X.out.below (hb.mono (by have := X.out.lt; omega)) X.out.lt)
          have BEL := Lib.hid (BEL.out.trans (hb.mono BEL.out.size))
          clear hb hb1 c0 c1 c2 c3 c4 c5
          obtain ⟨c0, c1, c2, c3, c4, c5⟩ := X.out.cfg
          go_wp2_with fail
          refine (F.out _).mono ?_
          rintro e w2 ⟨rfl, hb2⟩
          have hb := hb2
          have X := Lib.hid (X.out.below (hb.mono (by have := X.out.lt; omega)) X.out.lt)
          have BEL := Lib.hid (BEL.out.trans (hb.mono BEL.out.size))
          clear hb hb2 c0 c1 c2 c3 c4 c5
          obtain ⟨c0, c1, c2, c3, c4, c5⟩ := X.out.cfg
          go_wp2
          go_quiet (fail)
          go_wp2
          (try simp only [Exit.inBlock, Exit.then]); refine bodyPost_ret (results_tmp4 rfl _ _ _) rfl ?_
          exact ⟨rfl, below_drewN BEL.out _⟩
        · by_cases k5 : x < fT P T A
          · rw [show whaK P T A M W Q x = 3 by unfold whaK; rw [if_pos hm, if_neg k1, if_neg k2, if_neg k4, if_pos k5], show whaA P T A M W Q x = (x - fP A) / pagC T by unfold whaA; rw [if_pos hm, if_neg k1, if_neg k2, if_neg k4, if_pos k5], show whaN P T A M W Q x = (x - fP A) % pagC T by unfold whaN; rw [if_pos hm, if_neg k1, if_neg k2, if_neg k4, if_pos k5], show whaE P T A M W Q x = 0 by unfold whaE; rw [if_pos hm, if_neg k1]]
            have hq0 := Int.ediv_nonneg (a := x - fP A) (b := pagC T) (by omega) (by omega)
            have hq1 := Int.ediv_le_self (a := x - fP A) (pagC T) (by omega)
            have hr0 := Int.emod_nonneg (x - fP A) (b := pagC T) (by omega)
            have hr1 := Int.emod_lt_of_pos (x - fP A) (b := pagC T) (by omega)
            have hd1 := Int.tdiv_eq_ediv_of_nonneg (a := x - fP A) (b := pagC T) (by omega)
            have hd2 := Int.tmod_eq_emod_of_nonneg (a := x - fP A) (b := pagC T) (by omega)
            obtain ⟨E, hE2⟩ : ∃ E, E = fE P T A := ⟨_, rfl⟩
            obtain ⟨t, ht2⟩ : ∃ t, t = fT P T A := ⟨_, rfl⟩
            obtain ⟨p, hp2⟩ : ∃ p, p = fP A := ⟨_, rfl⟩
            obtain ⟨g, hg2⟩ : ∃ g, g = pagC T := ⟨_, rfl⟩
            rw [← hE2, ← ht2, ← hp2] at F
            rw [← hE2] at k3 hE
            rw [← ht2] at k5
            rw [← hg2] at MN b3 b4
            rw [← hp2] at k4 q1
            rw [← hp2, ← hg2] at hq0 hq1 hr0 hr1 hd1 hd2 ⊢
            obtain ⟨q, hq⟩ : ∃ q, q = (x - p) / g := ⟨_, rfl⟩
            obtain ⟨r, hr⟩ : ∃ r, r = (x - p) % g := ⟨_, rfl⟩
            rw [← hq] at hq0 hq1 hd1 ⊢
            rw [← hr] at hr0 hr1 hd2 ⊢
            replace hq := hq.symm
            replace hr := hr.symm
            have ht0 : 2 ≤ t ∧ t ≤ 264 := by omega
            have hwx : IntKind.i64.wrap (x - p) = x - p := wrap_sm (by omega) (by omega)
            clear k1 hm hE2 ht2 hp2 hg2 hp ht he b1 b2 b5 b6 b7 h7 q2 q3
            go_enter Try.func42, Try.ntmps42
            go_wp2_with fail
            refine (MY.out _).mono ?_
            rintro e w1 ⟨rfl, hb1⟩
            have hb := hb1
            have X := Lib.hid (X.out.below (hb.mono (by have := X.out.lt; omega)) X.out.lt)
            have BEL := Lib.hid (BEL.out.trans (hb.mono BEL.out.size))
            clear hb hb1 c0 c1 c2 c3 c4 c5
            obtain ⟨c0, c1, c2, c3, c4, c5⟩ := X.out.cfg
            go_wp2_with fail
            refine (F.out _).mono ?_
            rintro e w2 ⟨rfl, hb2⟩
            have hb := hb2
            have X := Lib.hid (X.out.below (hb.mono (by have := X.out.lt; omega)) X.out.lt)
            have BEL := Lib.hid (BEL.out.trans (hb.mono BEL.out.size))
            clear hb hb2 c0 c1 c2 c3 c4 c5
            obtain ⟨c0, c1, c2, c3, c4, c5⟩ := X.out.cfg
            go_wp2
            have hg0 : g ≠ 0 := by omega
            have hg1 : (g == 0) = false := by simpa using hg0
            have hwq : IntKind.i64.wrap q = q := wrap_sm (by omega) (by omega)
            have hwr : IntKind.i64.wrap r = r := wrap_sm (by omega) (by omega)
            have hcur : Below w2.heap.size w2 w2.drew := below_drewN (Below.refl _ _) 1
            have keepX : ∀ wx, Below w2.heap.size w2 wx → wx.cell? ⟨w.heap.size, 0, none⟩ = some (.int .i64 P) ∧ wx.cell? ⟨w.heap.size, 1, none⟩ = some (.int .i64 T) ∧ wx.cell? ⟨w.heap.size, 2, none⟩ = some (.int .i64 A) ∧ wx.cell? ⟨w.heap.size, 3, none⟩ = some (.int .i64 M) ∧ wx.cell? ⟨w.heap.size, 4, none⟩ = some (.int .i64 W) ∧ wx.cell? ⟨w.heap.size, 5, none⟩ = some (.int .i64 Q) := fun wx hx => (X.out.below hx X.out.lt).cfg
            have hkX := keepX _ hcur
            go_region_held3 (fun w' => w'.cell? ⟨w.heap.size, 0, none⟩ = some (.int .i64 P) ∧ w'.cell? ⟨w.heap.size, 1, none⟩ = some (.int .i64 T) ∧ w'.cell? ⟨w.heap.size, 2, none⟩ = some (.int .i64 A) ∧ w'.cell? ⟨w.heap.size, 3, none⟩ = some (.int .i64 M) ∧ w'.cell? ⟨w.heap.size, 4, none⟩ = some (.int .i64 W) ∧ w'.cell? ⟨w.heap.size, 5, none⟩ = some (.int .i64 Q))
              (first | exact hkX | go_keep)
              (first | (go_at_call 75; with_reducible refine (MN.out _).mono ?_; rintro e wM ⟨rfl, hbM⟩; have hcur := hcur.trans (hbM.mono hcur.size); have hkX := keepX _ hcur))
            all_goals (have hfin := BEL.out.trans (hcur.mono BEL.out.size); go_wp2; (try simp only [Exit.inBlock, Exit.then]); refine bodyPost_ret (results_tmp4 rfl _ _ _) rfl ?_; exact ⟨rfl, hfin⟩)
          · rw [show whaK P T A M W Q x = 4 by unfold whaK; rw [if_pos hm, if_neg k1, if_neg k2, if_neg k4, if_neg k5], show whaA P T A M W Q x = (x - fT P T A) / 4 / T by unfold whaA; rw [if_pos hm, if_neg k1, if_neg k2, if_neg k4, if_neg k5], show whaN P T A M W Q x = (x - fT P T A) / 4 % T by unfold whaN; rw [if_pos hm, if_neg k1, if_neg k2, if_neg k4, if_neg k5], show whaE P T A M W Q x = 0 by unfold whaE; rw [if_pos hm, if_neg k1]]
            have hy0 := Int.ediv_nonneg (a := x - fT P T A) (b := 4) (by omega) (by omega)
            have hy1 := Int.ediv_le_self (a := x - fT P T A) 4 (by omega)
            have hd0 := Int.tdiv_eq_ediv_of_nonneg (a := x - fT P T A) (b := 4) (by omega)
            have hq0 := Int.ediv_nonneg (a := (x - fT P T A) / 4) (b := T) (by omega) (by omega)
            have hq1 := Int.ediv_le_self (a := (x - fT P T A) / 4) T (by omega)
            have hr0 := Int.emod_nonneg ((x - fT P T A) / 4) (b := T) (by omega)
            have hr1 := Int.emod_lt_of_pos ((x - fT P T A) / 4) (b := T) (by omega)
            have hd1 := Int.tdiv_eq_ediv_of_nonneg (a := (x - fT P T A) / 4) (b := T) (by omega)
            have hd2 := Int.tmod_eq_emod_of_nonneg (a := (x - fT P T A) / 4) (b := T) (by omega)
            obtain ⟨E, hE2⟩ : ∃ E, E = fE P T A := ⟨_, rfl⟩
            obtain ⟨t, ht2⟩ : ∃ t, t = fT P T A := ⟨_, rfl⟩
            obtain ⟨p, hp2⟩ : ∃ p, p = fP A := ⟨_, rfl⟩
            rw [← hE2, ← ht2, ← hp2] at F
            rw [← hE2] at k3 hE
            rw [← ht2] at k5 hy0 hy1 hd0 hq0 hq1 hr0 hr1 hd1 hd2 q2 ⊢
            rw [← hp2] at k4 q1 q2
            obtain ⟨y, hy⟩ : ∃ y, y = (x - t) / 4 := ⟨_, rfl⟩
            rw [← hy] at hy0 hy1 hd0 hq0 hq1 hr0 hr1 hd1 hd2 ⊢
            obtain ⟨q, hq⟩ : ∃ q, q = y / T := ⟨_, rfl⟩
            obtain ⟨r, hr⟩ : ∃ r, r = y % T := ⟨_, rfl⟩
            rw [← hq] at hq0 hq1 hd1 ⊢
            rw [← hr] at hr0 hr1 hd2 ⊢
            replace hq := hq.symm
            replace hr := hr.symm
            replace hy := hy.symm
            clear k1 hm hE2 ht2 hp2 hp ht he b1 b2 b3 b4 b5 b6 b7 h7 q3
            go_enter Try.func42, Try.ntmps42
            go_wp2_with fail
            refine (MY.out _).mono ?_
            rintro e w1 ⟨rfl, hb1⟩
            have hb := hb1
            have X := Lib.hid (X.out.below (hb.mono (by have := X.out.lt; omega)) X.out.lt)
            have BEL := Lib.hid (BEL.out.trans (hb.mono BEL.out.size))
            clear hb hb1 c0 c1 c2 c3 c4 c5
            obtain ⟨c0, c1, c2, c3, c4, c5⟩ := X.out.cfg
            go_wp2_with fail
            refine (F.out _).mono ?_
            rintro e w2 ⟨rfl, hb2⟩
            have hb := hb2
            have X := Lib.hid (X.out.below (hb.mono (by have := X.out.lt; omega)) X.out.lt)
            have BEL := Lib.hid (BEL.out.trans (hb.mono BEL.out.size))
            clear hb hb2 c0 c1 c2 c3 c4 c5
            obtain ⟨c0, c1, c2, c3, c4, c5⟩ := X.out.cfg
            go_wp2
            go_quiet (fail)
            go_wp2
            (try simp only [Exit.inBlock, Exit.then]); refine bodyPost_ret (results_tmp4 rfl _ _ _) rfl ?_
            exact ⟨rfl, below_drewN BEL.out _⟩
  · rw [show decide (mayC P T A M W Q) = false by simpa using h] at MY
    rw [show whaK P T A M W Q x = 0 by unfold whaK; rw [if_neg h], show whaA P T A M W Q x = 0 by unfold whaA; rw [if_neg h], show whaN P T A M W Q x = 0 by unfold whaN; rw [if_neg h], show whaE P T A M W Q x = 8 by unfold whaE; rw [if_neg h]]
    clear h
    go_enter Try.func42, Try.ntmps42
    go_wp2_with fail
    refine (MY.out _).mono ?_
    rintro e w1 ⟨rfl, hb1⟩
    have hb := hb1
    have X := Lib.hid (X.out.below (hb.mono (by have := X.out.lt; omega)) X.out.lt)
    have BEL := Lib.hid (BEL.out.trans (hb.mono BEL.out.size))
    clear hb hb1 c0 c1 c2 c3 c4 c5
    obtain ⟨c0, c1, c2, c3, c4, c5⟩ := X.out.cfg
    go_wp2
    (try simp only [Exit.inBlock, Exit.then]); refine bodyPost_ret (results_tmp4 rfl _ _ _) rfl ?_
    exact ⟨rfl, BEL.out⟩

end Go.Proofs.Ytghdcajojbbllaa
