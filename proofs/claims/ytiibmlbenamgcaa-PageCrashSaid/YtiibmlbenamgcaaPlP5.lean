/- Layer 7, package place: how many there are, and where things stand. No statement is proved here. -/
/- Layer 7, package place: which part a sector is in, in numbers. No statement is proved here. -/
/- Layer 7, package place: what stands in a sector. No statement is proved here. -/
import Derived.Test.YtiibmlbenamgcaaPlIx
namespace Go.Proofs.Ytiibmlbenamgcaa
open Go.RowKit
set_option linter.unusedVariables false

/-- The parts of a disk, written out. -/
theorem parts_out (P T A M W Q g p t : Int) (w : World) (h : mayC P T A M W Q) (hg : g = pagC T) (hp : p = fP A) (ht : t = fT P T A) : Calls Try.prog 31 #[cfgV P T A M W Q] w fun e w' => e = .returned (.agg #[.int .u8 1, .int .i64 0, .int .i64 1, .int .i64 1, .int .i64 2, .int .u8 2, .int .i64 2, .int .i64 2, .int .i64 A, .int .i64 1, .int .u8 3, .int .i64 p, .int .i64 P, .int .i64 g, .int .i64 1, .int .u8 4, .int .i64 t, .int .i64 P, .int .i64 T, .int .i64 4]) ∧ Below w.heap.size w w' := by
  subst hg; subst hp; subst ht
  exact partsP_any P T A M W Q w h

set_option maxRecDepth 100000 in
set_option maxHeartbeats 1600000 in
theorem psectors_any (P T A M W Q : Int) (w : World) : Calls Try.prog 11 #[cfgV P T A M W Q] w fun e w' => e = .returned (.tuple #[.int .i64 (secN P T A M W Q), .int .i64 (chkC P T A M W Q)]) ∧ Below w.heap.size w w' := by
  obtain ⟨x, hbel⟩ := box_cfg w P T A M W Q
  obtain ⟨c0, c1, c2, c3, c4, c5⟩ := x.cfg
  have X := Lib.hid x
  have BEL := Lib.hid hbel
  clear x hbel
  have CK := Lib.hid (fun w' : World => pcheck_any P T A M W Q w')
  by_cases h : mayC P T A M W Q
  · rw [show chkC P T A M W Q = 0 by unfold chkC; rw [if_pos h]] at CK ⊢
    rw [show secN P T A M W Q = fE P T A by unfold secN; rw [if_pos h]]
    have hbd := bounds_may h
    have e3 := secP_3 P T A
    have q2 : 0 ≤ fT P T A ∧ fT P T A ≤ 1000 := by have := h; unfold mayC at this; unfold fT; omega
    have PA := Lib.hid (fun w' : World => parts_out P T A M W Q _ _ _ w' h rfl rfl rfl)
    have NE := Lib.hid (fun w' : World => end_any 4 (fT P T A) P T 4 w' (by omega) (by omega) q2)
    rw [e3] at NE
    obtain ⟨g, hg⟩ : ∃ g, g = pagC T := ⟨_, rfl⟩
    obtain ⟨p, hp⟩ : ∃ p, p = fP A := ⟨_, rfl⟩
    obtain ⟨t, ht⟩ : ∃ t, t = fT P T A := ⟨_, rfl⟩
    obtain ⟨E, hE⟩ : ∃ E, E = fE P T A := ⟨_, rfl⟩
    rw [← hg, ← hp, ← ht] at PA
    rw [← ht, ← hE] at NE
    rw [← hE]
    have IX := fun w' => ix_3 P T A g p t w'
    clear h hbd e3 q2 hg hp ht hE
    go_enter Try.func11, Try.ntmps11
    go_wp2_with fail
    refine (CK.out _).mono ?_
    rintro e w1 ⟨rfl, hb1⟩
    have hb := hb1
    have X := Lib.hid (X.out.below (hb.mono (by have := X.out.lt; omega)) X.out.lt)
    have BEL := Lib.hid (BEL.out.trans (hb.mono BEL.out.size))
    clear hb hb1 c0 c1 c2 c3 c4 c5
    obtain ⟨c0, c1, c2, c3, c4, c5⟩ := X.out.cfg
    go_wp2_with fail
    refine (PA.out _).mono ?_
    rintro e w2 ⟨rfl, hb2⟩
    have hb := hb2
    have X := Lib.hid (X.out.below (hb.mono (by have := X.out.lt; omega)) X.out.lt)
    have BEL := Lib.hid (BEL.out.trans (hb.mono BEL.out.size))
    clear hb hb2 c0 c1 c2 c3 c4 c5
    obtain ⟨c0, c1, c2, c3, c4, c5⟩ := X.out.cfg
    go_wp2_with fail
    refine (NE.out _).mono ?_
    rintro e w3 ⟨rfl, hb3⟩
    have hb := hb3
    have X := Lib.hid (X.out.below (hb.mono (by have := X.out.lt; omega)) X.out.lt)
    have BEL := Lib.hid (BEL.out.trans (hb.mono BEL.out.size))
    clear hb hb3 c0 c1 c2 c3 c4 c5
    obtain ⟨c0, c1, c2, c3, c4, c5⟩ := X.out.cfg
    go_wp2
    go_ret2
    exact ⟨rfl, BEL.out⟩
  · rw [show chkC P T A M W Q = 8 by unfold chkC; rw [if_neg h]] at CK ⊢
    rw [show secN P T A M W Q = 0 by unfold secN; rw [if_neg h]]
    clear h
    go_enter Try.func11, Try.ntmps11
    go_wp2_with fail
    refine (CK.out _).mono ?_
    rintro e w1 ⟨rfl, hb1⟩
    have hb := hb1
    have X := Lib.hid (X.out.below (hb.mono (by have := X.out.lt; omega)) X.out.lt)
    have BEL := Lib.hid (BEL.out.trans (hb.mono BEL.out.size))
    clear hb hb1 c0 c1 c2 c3 c4 c5
    obtain ⟨c0, c1, c2, c3, c4, c5⟩ := X.out.cfg
    go_wp2
    go_ret2
    exact ⟨rfl, BEL.out⟩

set_option maxRecDepth 100000 in
set_option maxHeartbeats 1600000 in
theorem ppagesN_any (P T A M W Q : Int) (w : World) : Calls Try.prog 28 #[cfgV P T A M W Q] w fun e w' => e = .returned (.tuple #[.int .i64 (pagN P T A M W Q), .int .i64 (chkC P T A M W Q)]) ∧ Below w.heap.size w w' := by
  obtain ⟨x, hbel⟩ := box_cfg w P T A M W Q
  obtain ⟨c0, c1, c2, c3, c4, c5⟩ := x.cfg
  have X := Lib.hid x
  have BEL := Lib.hid hbel
  clear x hbel
  have CK := Lib.hid (fun w' : World => pcheck_any P T A M W Q w')
  by_cases h : mayC P T A M W Q
  · rw [show chkC P T A M W Q = 0 by unfold chkC; rw [if_pos h]] at CK ⊢
    rw [show pagN P T A M W Q = pagC T by unfold pagN; rw [if_pos h]]
    have PA := Lib.hid (fun w' : World => ppages_any P T A M W Q w' h.2.2.1 h.2.2.2.1)
    obtain ⟨g, hg⟩ : ∃ g, g = pagC T := ⟨_, rfl⟩
    rw [← hg] at PA ⊢
    clear h hg
    go_enter Try.func28, Try.ntmps28
    go_wp2_with fail
    refine (CK.out _).mono ?_
    rintro e w1 ⟨rfl, hb1⟩
    have hb := hb1
    have X := Lib.hid (X.out.below (hb.mono (by have := X.out.lt; omega)) X.out.lt)
    have BEL := Lib.hid (BEL.out.trans (hb.mono BEL.out.size))
    clear hb hb1 c0 c1 c2 c3 c4 c5
    obtain ⟨c0, c1, c2, c3, c4, c5⟩ := X.out.cfg
    go_wp2_with fail
    refine (PA.out _).mono ?_
    rintro e w2 ⟨rfl, hb2⟩
    have hb := hb2
    have X := Lib.hid (X.out.below (hb.mono (by have := X.out.lt; omega)) X.out.lt)
    have BEL := Lib.hid (BEL.out.trans (hb.mono BEL.out.size))
    clear hb hb2 c0 c1 c2 c3 c4 c5
    obtain ⟨c0, c1, c2, c3, c4, c5⟩ := X.out.cfg
    go_wp2
    go_ret2
    exact ⟨rfl, BEL.out⟩
  · rw [show chkC P T A M W Q = 8 by unfold chkC; rw [if_neg h]] at CK ⊢
    rw [show pagN P T A M W Q = 0 by unfold pagN; rw [if_neg h]]
    clear h
    go_enter Try.func28, Try.ntmps28
    go_wp2_with fail
    refine (CK.out _).mono ?_
    rintro e w1 ⟨rfl, hb1⟩
    have hb := hb1
    have X := Lib.hid (X.out.below (hb.mono (by have := X.out.lt; omega)) X.out.lt)
    have BEL := Lib.hid (BEL.out.trans (hb.mono BEL.out.size))
    clear hb hb1 c0 c1 c2 c3 c4 c5
    obtain ⟨c0, c1, c2, c3, c4, c5⟩ := X.out.cfg
    go_wp2
    go_ret2
    exact ⟨rfl, BEL.out⟩

set_option maxRecDepth 100000 in
set_option maxHeartbeats 3200000 in
theorem psector1_any (P T A M W Q a n : Int) (w : World) : Calls Try.prog 72 #[cfgV P T A M W Q, .int .i64 1, .int .i64 a, .int .i64 n] w fun e w' => e = .returned (.tuple #[.int .i64 (areN P T A M W Q a n), .int .i64 (areE P T A M W Q a n)]) ∧ Below w.heap.size w w' := by
  obtain ⟨x, hbel⟩ := box_cfg w P T A M W Q
  obtain ⟨c0, c1, c2, c3, c4, c5⟩ := x.cfg
  have X := Lib.hid x
  have BEL := Lib.hid hbel
  clear x hbel
  have CK := Lib.hid (fun w' : World => pcheck_any P T A M W Q w')
  by_cases h : mayC P T A M W Q
  · rw [show chkC P T A M W Q = 0 by unfold chkC; rw [if_pos h]] at CK
    have hbd := bounds_may h
    have hm := h
    have hfe := fE_le h
    have q2 : 0 ≤ fT P T A ∧ fT P T A ≤ 1000 := by have := h; unfold mayC at this; unfold fT; omega
    have q1 : 0 ≤ fP A ∧ fP A ≤ 1000 := by have := h; unfold mayC at this; unfold fP; omega
    have PA := Lib.hid (fun w' : World => parts_out P T A M W Q _ _ _ w' h rfl rfl rfl)
    obtain ⟨h1, h2, h3, h4, h5, h6, h7⟩ := h
    by_cases k0 : (0 ≤ a ∧ a ≤ 1) ∧ (0 ≤ n ∧ n ≤ A - 1)
    · obtain ⟨k1, k2⟩ := k0
      have hmul : -10000 ≤ a * A ∧ a * A ≤ 10000 := by rcases mul3 k1.1 (by omega) A with q | q | q | q <;> omega
      have SE := Lib.hid (fun w' : World => sector_any 2 2 2 A 1 a n w' hmul (by omega) (by omega) (by omega))
      have hv : secP 2 A 1 a n = 2 + a * A + n := by unfold secP; omega
      rw [hv] at SE
      rw [show areN P T A M W Q a n = 2 + a * A + n by unfold areN; rw [if_pos hm, if_pos (by omega)], show areE P T A M W Q a n = 0 by unfold areE; rw [if_pos hm, if_pos (by omega)]]
      obtain ⟨v, hv2⟩ : ∃ v, v = 2 + a * A + n := ⟨_, rfl⟩
      rw [← hv2] at SE ⊢
      obtain ⟨g, hg⟩ : ∃ g, g = pagC T := ⟨_, rfl⟩
      obtain ⟨p, hp⟩ : ∃ p, p = fP A := ⟨_, rfl⟩
      obtain ⟨t, ht⟩ : ∃ t, t = fT P T A := ⟨_, rfl⟩
      rw [← hg, ← hp, ← ht] at PA
      try rw [← hg] at k2
      try rw [← hg] at SE
      try rw [← hp] at SE
      try rw [← ht] at SE
      have b3 : 1 ≤ g ∧ g ≤ 2 := by omega
      have K1 := Lib.hid k1
      have K2 := Lib.hid k2
      have IX := fun w' => ix_1 P T A g p t w'
      clear hm hbd hfe q1 q2 h7 hmul hv hv2 hg hp ht k1 k2
      go_enter Try.func72, Try.ntmps72
      go_wp2_with fail
      refine (CK.out _).mono ?_
      rintro e w1 ⟨rfl, hb1⟩
      have hb := hb1
      have X := Lib.hid (X.out.below (hb.mono (by have := X.out.lt; omega)) X.out.lt)
      have BEL := Lib.hid (BEL.out.trans (hb.mono BEL.out.size))
      clear hb hb1 c0 c1 c2 c3 c4 c5
      obtain ⟨c0, c1, c2, c3, c4, c5⟩ := X.out.cfg
      go_wp2_with fail
      refine (PA.out _).mono ?_
      rintro e w2 ⟨rfl, hb2⟩
      have hb := hb2
      have X := Lib.hid (X.out.below (hb.mono (by have := X.out.lt; omega)) X.out.lt)
      have BEL := Lib.hid (BEL.out.trans (hb.mono BEL.out.size))
      clear hb hb2 c0 c1 c2 c3 c4 c5
      obtain ⟨c0, c1, c2, c3, c4, c5⟩ := X.out.cfg
      obtain ⟨y, hby⟩ := box_part w2 2 2 2 A 1
      obtain ⟨d0, d1, d2, d3, d4⟩ := y.part
      have Y := Lib.hid y
      have X := Lib.hid (X.out.below (hby.mono (Nat.le_refl _)) X.out.lt)
      have BEL := Lib.hid (BEL.out.trans (hby.mono BEL.out.size))
      clear y hby
      go_wp2_with fail
      refine (within2_yes a 0 (1) n 0 (A - 1) (w2.heap.size + 1) _ (w2.alloc (.cells #[.int .u8 2, .int .i64 2, .int .i64 2, .int .i64 A, .int .i64 1] 68)) (by simp) K1.out K2.out).mono ?_
      rintro e w4 ⟨rfl, hb4⟩
      have Y := Lib.hid (Y.out.below hb4 Y.out.lt)
      have BEL := Lib.hid (BEL.out.trans (hb4.mono BEL.out.size))
      clear hb4 d0 d1 d2 d3 d4
      obtain ⟨d0, d1, d2, d3, d4⟩ := Y.out.part
      go_wp2_with fail
      refine (SE.out _).mono ?_
      rintro e w5 ⟨rfl, hb5⟩
      have BEL := Lib.hid (BEL.out.trans (hb5.mono BEL.out.size))
      clear hb5
      go_wp2
      go_ret2
      exact ⟨rfl, BEL.out⟩
    · rw [show areN P T A M W Q a n = 0 by unfold areN; rw [if_pos hm, if_neg (by omega)], show areE P T A M W Q a n = 2 by unfold areE; rw [if_pos hm, if_neg (by omega)]]
      obtain ⟨g, hg⟩ : ∃ g, g = pagC T := ⟨_, rfl⟩
      obtain ⟨p, hp⟩ : ∃ p, p = fP A := ⟨_, rfl⟩
      obtain ⟨t, ht⟩ : ∃ t, t = fT P T A := ⟨_, rfl⟩
      rw [← hg, ← hp, ← ht] at PA
      try rw [← hg] at k0
      have b3 : 1 ≤ g ∧ g ≤ 2 := by omega
      have K0 := Lib.hid k0
      have IX := fun w' => ix_1 P T A g p t w'
      clear hm hbd hfe q1 q2 h7 hg hp ht k0
      go_enter Try.func72, Try.ntmps72
      go_wp2_with fail
      refine (CK.out _).mono ?_
      rintro e w1 ⟨rfl, hb1⟩
      have hb := hb1
      have X := Lib.hid (X.out.below (hb.mono (by have := X.out.lt; omega)) X.out.lt)
      have BEL := Lib.hid (BEL.out.trans (hb.mono BEL.out.size))
      clear hb hb1 c0 c1 c2 c3 c4 c5
      obtain ⟨c0, c1, c2, c3, c4, c5⟩ := X.out.cfg
      go_wp2_with fail
      refine (PA.out _).mono ?_
      rintro e w2 ⟨rfl, hb2⟩
      have hb := hb2
      have X := Lib.hid (X.out.below (hb.mono (by have := X.out.lt; omega)) X.out.lt)
      have BEL := Lib.hid (BEL.out.trans (hb.mono BEL.out.size))
      clear hb hb2 c0 c1 c2 c3 c4 c5
      obtain ⟨c0, c1, c2, c3, c4, c5⟩ := X.out.cfg
      obtain ⟨y, hby⟩ := box_part w2 2 2 2 A 1
      obtain ⟨d0, d1, d2, d3, d4⟩ := y.part
      have Y := Lib.hid y
      have X := Lib.hid (X.out.below (hby.mono (Nat.le_refl _)) X.out.lt)
      have BEL := Lib.hid (BEL.out.trans (hby.mono BEL.out.size))
      clear y hby
      go_wp2_with fail
      refine (within2_no a 0 (1) n 0 (A - 1) (w2.heap.size + 1) _ (w2.alloc (.cells #[.int .u8 2, .int .i64 2, .int .i64 2, .int .i64 A, .int .i64 1] 68)) (by simp) K0.out).mono ?_
      rintro e w4 ⟨rfl, hb4⟩
      have Y := Lib.hid (Y.out.below hb4 Y.out.lt)
      have BEL := Lib.hid (BEL.out.trans (hb4.mono BEL.out.size))
      clear hb4 d0 d1 d2 d3 d4
      obtain ⟨d0, d1, d2, d3, d4⟩ := Y.out.part
      go_wp2
      go_ret2
      exact ⟨rfl, BEL.out⟩
  · rw [show chkC P T A M W Q = 8 by unfold chkC; rw [if_neg h]] at CK
    rw [show areN P T A M W Q a n = 0 by unfold areN; rw [if_neg h], show areE P T A M W Q a n = 8 by unfold areE; rw [if_neg h]]
    clear h
    go_enter Try.func72, Try.ntmps72
    go_wp2_with fail
    refine (CK.out _).mono ?_
    rintro e w1 ⟨rfl, hb1⟩
    have hb := hb1
    have X := Lib.hid (X.out.below (hb.mono (by have := X.out.lt; omega)) X.out.lt)
    have BEL := Lib.hid (BEL.out.trans (hb.mono BEL.out.size))
    clear hb hb1 c0 c1 c2 c3 c4 c5
    obtain ⟨c0, c1, c2, c3, c4, c5⟩ := X.out.cfg
    go_wp2
    go_ret2
    exact ⟨rfl, BEL.out⟩

set_option maxRecDepth 100000 in
set_option maxHeartbeats 3200000 in
theorem psector2_any (P T A M W Q a n : Int) (w : World) : Calls Try.prog 72 #[cfgV P T A M W Q, .int .i64 2, .int .i64 a, .int .i64 n] w fun e w' => e = .returned (.tuple #[.int .i64 (pgeN P T A M W Q a n), .int .i64 (pgeE P T A M W Q a n)]) ∧ Below w.heap.size w w' := by
  obtain ⟨x, hbel⟩ := box_cfg w P T A M W Q
  obtain ⟨c0, c1, c2, c3, c4, c5⟩ := x.cfg
  have X := Lib.hid x
  have BEL := Lib.hid hbel
  clear x hbel
  have CK := Lib.hid (fun w' : World => pcheck_any P T A M W Q w')
  by_cases h : mayC P T A M W Q
  · rw [show chkC P T A M W Q = 0 by unfold chkC; rw [if_pos h]] at CK
    have hbd := bounds_may h
    have hm := h
    have hfe := fE_le h
    have q2 : 0 ≤ fT P T A ∧ fT P T A ≤ 1000 := by have := h; unfold mayC at this; unfold fT; omega
    have q1 : 0 ≤ fP A ∧ fP A ≤ 1000 := by have := h; unfold mayC at this; unfold fP; omega
    have PA := Lib.hid (fun w' : World => parts_out P T A M W Q _ _ _ w' h rfl rfl rfl)
    obtain ⟨h1, h2, h3, h4, h5, h6, h7⟩ := h
    by_cases k0 : (0 ≤ a ∧ a ≤ P - 1) ∧ (0 ≤ n ∧ n ≤ pagC T - 1)
    · obtain ⟨k1, k2⟩ := k0
      have hmul : -10000 ≤ a * pagC T ∧ a * pagC T ≤ 10000 := by rcases mul3 k1.1 (by omega) (pagC T) with q | q | q | q <;> omega
      have SE := Lib.hid (fun w' : World => sector_any 3 (fP A) P (pagC T) 1 a n w' hmul (by omega) (by omega) q1)
      have hv : secP (fP A) (pagC T) 1 a n = fP A + a * pagC T + n := by unfold secP; omega
      rw [hv] at SE
      rw [show pgeN P T A M W Q a n = fP A + a * pagC T + n by unfold pgeN; rw [if_pos hm, if_pos (by omega)], show pgeE P T A M W Q a n = 0 by unfold pgeE; rw [if_pos hm, if_pos (by omega)]]
      obtain ⟨v, hv2⟩ : ∃ v, v = fP A + a * pagC T + n := ⟨_, rfl⟩
      rw [← hv2] at SE ⊢
      obtain ⟨g, hg⟩ : ∃ g, g = pagC T := ⟨_, rfl⟩
      obtain ⟨p, hp⟩ : ∃ p, p = fP A := ⟨_, rfl⟩
      obtain ⟨t, ht⟩ : ∃ t, t = fT P T A := ⟨_, rfl⟩
      rw [← hg, ← hp, ← ht] at PA
      try rw [← hg] at k2
      try rw [← hg] at SE
      try rw [← hp] at SE
      try rw [← ht] at SE
      have b3 : 1 ≤ g ∧ g ≤ 2 := by omega
      have K1 := Lib.hid k1
      have K2 := Lib.hid k2
      have IX := fun w' => ix_2 P T A g p t w'
      clear hm hbd hfe q1 q2 h7 hmul hv hv2 hg hp ht k1 k2
      go_enter Try.func72, Try.ntmps72
      go_wp2_with fail
      refine (CK.out _).mono ?_
      rintro e w1 ⟨rfl, hb1⟩
      have hb := hb1
      have X := Lib.hid (X.out.below (hb.mono (by have := X.out.lt; omega)) X.out.lt)
      have BEL := Lib.hid (BEL.out.trans (hb.mono BEL.out.size))
      clear hb hb1 c0 c1 c2 c3 c4 c5
      obtain ⟨c0, c1, c2, c3, c4, c5⟩ := X.out.cfg
      go_wp2_with fail
      refine (PA.out _).mono ?_
      rintro e w2 ⟨rfl, hb2⟩
      have hb := hb2
      have X := Lib.hid (X.out.below (hb.mono (by have := X.out.lt; omega)) X.out.lt)
      have BEL := Lib.hid (BEL.out.trans (hb.mono BEL.out.size))
      clear hb hb2 c0 c1 c2 c3 c4 c5
      obtain ⟨c0, c1, c2, c3, c4, c5⟩ := X.out.cfg
      obtain ⟨y, hby⟩ := box_part w2 3 p P g 1
      obtain ⟨d0, d1, d2, d3, d4⟩ := y.part
      have Y := Lib.hid y
      have X := Lib.hid (X.out.below (hby.mono (Nat.le_refl _)) X.out.lt)
      have BEL := Lib.hid (BEL.out.trans (hby.mono BEL.out.size))
      clear y hby
      go_wp2_with fail
      refine (within2_yes a 0 (P - 1) n 0 (g - 1) (w2.heap.size + 1) _ (w2.alloc (.cells #[.int .u8 3, .int .i64 p, .int .i64 P, .int .i64 g, .int .i64 1] 68)) (by simp) K1.out K2.out).mono ?_
      rintro e w4 ⟨rfl, hb4⟩
      have Y := Lib.hid (Y.out.below hb4 Y.out.lt)
      have BEL := Lib.hid (BEL.out.trans (hb4.mono BEL.out.size))
      clear hb4 d0 d1 d2 d3 d4
      obtain ⟨d0, d1, d2, d3, d4⟩ := Y.out.part
      go_wp2_with fail
      refine (SE.out _).mono ?_
      rintro e w5 ⟨rfl, hb5⟩
      have BEL := Lib.hid (BEL.out.trans (hb5.mono BEL.out.size))
      clear hb5
      go_wp2
      go_ret2
      exact ⟨rfl, BEL.out⟩
    · rw [show pgeN P T A M W Q a n = 0 by unfold pgeN; rw [if_pos hm, if_neg (by omega)], show pgeE P T A M W Q a n = 2 by unfold pgeE; rw [if_pos hm, if_neg (by omega)]]
      obtain ⟨g, hg⟩ : ∃ g, g = pagC T := ⟨_, rfl⟩
      obtain ⟨p, hp⟩ : ∃ p, p = fP A := ⟨_, rfl⟩
      obtain ⟨t, ht⟩ : ∃ t, t = fT P T A := ⟨_, rfl⟩
      rw [← hg, ← hp, ← ht] at PA
      try rw [← hg] at k0
      have b3 : 1 ≤ g ∧ g ≤ 2 := by omega
      have K0 := Lib.hid k0
      have IX := fun w' => ix_2 P T A g p t w'
      clear hm hbd hfe q1 q2 h7 hg hp ht k0
      go_enter Try.func72, Try.ntmps72
      go_wp2_with fail
      refine (CK.out _).mono ?_
      rintro e w1 ⟨rfl, hb1⟩
      have hb := hb1
      have X := Lib.hid (X.out.below (hb.mono (by have := X.out.lt; omega)) X.out.lt)
      have BEL := Lib.hid (BEL.out.trans (hb.mono BEL.out.size))
      clear hb hb1 c0 c1 c2 c3 c4 c5
      obtain ⟨c0, c1, c2, c3, c4, c5⟩ := X.out.cfg
      go_wp2_with fail
      refine (PA.out _).mono ?_
      rintro e w2 ⟨rfl, hb2⟩
      have hb := hb2
      have X := Lib.hid (X.out.below (hb.mono (by have := X.out.lt; omega)) X.out.lt)
      have BEL := Lib.hid (BEL.out.trans (hb.mono BEL.out.size))
      clear hb hb2 c0 c1 c2 c3 c4 c5
      obtain ⟨c0, c1, c2, c3, c4, c5⟩ := X.out.cfg
      obtain ⟨y, hby⟩ := box_part w2 3 p P g 1
      obtain ⟨d0, d1, d2, d3, d4⟩ := y.part
      have Y := Lib.hid y
      have X := Lib.hid (X.out.below (hby.mono (Nat.le_refl _)) X.out.lt)
      have BEL := Lib.hid (BEL.out.trans (hby.mono BEL.out.size))
      clear y hby
      go_wp2_with fail
      refine (within2_no a 0 (P - 1) n 0 (g - 1) (w2.heap.size + 1) _ (w2.alloc (.cells #[.int .u8 3, .int .i64 p, .int .i64 P, .int .i64 g, .int .i64 1] 68)) (by simp) K0.out).mono ?_
      rintro e w4 ⟨rfl, hb4⟩
      have Y := Lib.hid (Y.out.below hb4 Y.out.lt)
      have BEL := Lib.hid (BEL.out.trans (hb4.mono BEL.out.size))
      clear hb4 d0 d1 d2 d3 d4
      obtain ⟨d0, d1, d2, d3, d4⟩ := Y.out.part
      go_wp2
      go_ret2
      exact ⟨rfl, BEL.out⟩
  · rw [show chkC P T A M W Q = 8 by unfold chkC; rw [if_neg h]] at CK
    rw [show pgeN P T A M W Q a n = 0 by unfold pgeN; rw [if_neg h], show pgeE P T A M W Q a n = 8 by unfold pgeE; rw [if_neg h]]
    clear h
    go_enter Try.func72, Try.ntmps72
    go_wp2_with fail
    refine (CK.out _).mono ?_
    rintro e w1 ⟨rfl, hb1⟩
    have hb := hb1
    have X := Lib.hid (X.out.below (hb.mono (by have := X.out.lt; omega)) X.out.lt)
    have BEL := Lib.hid (BEL.out.trans (hb.mono BEL.out.size))
    clear hb hb1 c0 c1 c2 c3 c4 c5
    obtain ⟨c0, c1, c2, c3, c4, c5⟩ := X.out.cfg
    go_wp2
    go_ret2
    exact ⟨rfl, BEL.out⟩

set_option maxHeartbeats 1600000 in
theorem ppage_any (P T A M W Q a n : Int) (w : World) : Calls Try.prog 50 #[cfgV P T A M W Q, .int .i64 a, .int .i64 n] w fun e w' => e = .returned (.tuple #[.int .i64 (pgeN P T A M W Q a n), .int .i64 (pgeE P T A M W Q a n)]) ∧ Below w.heap.size w w' := by
  obtain ⟨x, hbel⟩ := box_cfg w P T A M W Q
  obtain ⟨c0, c1, c2, c3, c4, c5⟩ := x.cfg
  have X := Lib.hid x
  have BEL := Lib.hid hbel
  clear x hbel
  have SE := Lib.hid (fun w' : World => psector2_any P T A M W Q a n w')
  obtain ⟨x, hx⟩ : ∃ x, x = pgeN P T A M W Q a n := ⟨_, rfl⟩
  obtain ⟨y, hy⟩ : ∃ y, y = pgeE P T A M W Q a n := ⟨_, rfl⟩
  rw [← hx, ← hy] at SE ⊢
  clear hx hy
  go_enter Try.func50, Try.ntmps50
  go_wp2_with fail
  refine (SE.out _).mono ?_
  rintro e w1 ⟨rfl, hb1⟩
  have hb := hb1
  have X := Lib.hid (X.out.below (hb.mono (by have := X.out.lt; omega)) X.out.lt)
  have BEL := Lib.hid (BEL.out.trans (hb.mono BEL.out.size))
  clear hb hb1 c0 c1 c2 c3 c4 c5
  obtain ⟨c0, c1, c2, c3, c4, c5⟩ := X.out.cfg
  go_wp2
  go_ret2
  exact ⟨rfl, BEL.out⟩

set_option maxRecDepth 100000 in
set_option maxHeartbeats 3200000 in
theorem psector3_any (P T A M W Q a n : Int) (w : World) : Calls Try.prog 72 #[cfgV P T A M W Q, .int .i64 3, .int .i64 a, .int .i64 n] w fun e w' => e = .returned (.tuple #[.int .i64 (traN P T A M W Q a n), .int .i64 (traE P T A M W Q a n)]) ∧ Below w.heap.size w w' := by
  obtain ⟨x, hbel⟩ := box_cfg w P T A M W Q
  obtain ⟨c0, c1, c2, c3, c4, c5⟩ := x.cfg
  have X := Lib.hid x
  have BEL := Lib.hid hbel
  clear x hbel
  have CK := Lib.hid (fun w' : World => pcheck_any P T A M W Q w')
  by_cases h : mayC P T A M W Q
  · rw [show chkC P T A M W Q = 0 by unfold chkC; rw [if_pos h]] at CK
    have hbd := bounds_may h
    have hm := h
    have hfe := fE_le h
    have q2 : 0 ≤ fT P T A ∧ fT P T A ≤ 1000 := by have := h; unfold mayC at this; unfold fT; omega
    have q1 : 0 ≤ fP A ∧ fP A ≤ 1000 := by have := h; unfold mayC at this; unfold fP; omega
    have PA := Lib.hid (fun w' : World => parts_out P T A M W Q _ _ _ w' h rfl rfl rfl)
    obtain ⟨h1, h2, h3, h4, h5, h6, h7⟩ := h
    by_cases k0 : (0 ≤ a ∧ a ≤ P - 1) ∧ (0 ≤ n ∧ n ≤ T - 1)
    · obtain ⟨k1, k2⟩ := k0
      have hmul : -10000 ≤ a * T ∧ a * T ≤ 10000 := by rcases mul3 k1.1 (by omega) T with q | q | q | q <;> omega
      have SE := Lib.hid (fun w' : World => sector_any 4 (fT P T A) P T 4 a n w' hmul (by omega) (by omega) q2)
      have hv : secP (fT P T A) T 4 a n = fT P T A + 4 * (a * T + n) := by unfold secP; omega
      rw [hv] at SE
      rw [show traN P T A M W Q a n = fT P T A + 4 * (a * T + n) by unfold traN; rw [if_pos hm, if_pos (by omega)], show traE P T A M W Q a n = 0 by unfold traE; rw [if_pos hm, if_pos (by omega)]]
      obtain ⟨v, hv2⟩ : ∃ v, v = fT P T A + 4 * (a * T + n) := ⟨_, rfl⟩
      rw [← hv2] at SE ⊢
      obtain ⟨g, hg⟩ : ∃ g, g = pagC T := ⟨_, rfl⟩
      obtain ⟨p, hp⟩ : ∃ p, p = fP A := ⟨_, rfl⟩
      obtain ⟨t, ht⟩ : ∃ t, t = fT P T A := ⟨_, rfl⟩
      rw [← hg, ← hp, ← ht] at PA
      try rw [← hg] at k2
      try rw [← hg] at SE
      try rw [← hp] at SE
      try rw [← ht] at SE
      have b3 : 1 ≤ g ∧ g ≤ 2 := by omega
      have K1 := Lib.hid k1
      have K2 := Lib.hid k2
      have IX := fun w' => ix_3 P T A g p t w'
      clear hm hbd hfe q1 q2 h7 hmul hv hv2 hg hp ht k1 k2
      go_enter Try.func72, Try.ntmps72
      go_wp2_with fail
      refine (CK.out _).mono ?_
      rintro e w1 ⟨rfl, hb1⟩
      have hb := hb1
      have X := Lib.hid (X.out.below (hb.mono (by have := X.out.lt; omega)) X.out.lt)
      have BEL := Lib.hid (BEL.out.trans (hb.mono BEL.out.size))
      clear hb hb1 c0 c1 c2 c3 c4 c5
      obtain ⟨c0, c1, c2, c3, c4, c5⟩ := X.out.cfg
      go_wp2_with fail
      refine (PA.out _).mono ?_
      rintro e w2 ⟨rfl, hb2⟩
      have hb := hb2
      have X := Lib.hid (X.out.below (hb.mono (by have := X.out.lt; omega)) X.out.lt)
      have BEL := Lib.hid (BEL.out.trans (hb.mono BEL.out.size))
      clear hb hb2 c0 c1 c2 c3 c4 c5
      obtain ⟨c0, c1, c2, c3, c4, c5⟩ := X.out.cfg
      obtain ⟨y, hby⟩ := box_part w2 4 t P T 4
      obtain ⟨d0, d1, d2, d3, d4⟩ := y.part
      have Y := Lib.hid y
      have X := Lib.hid (X.out.below (hby.mono (Nat.le_refl _)) X.out.lt)
      have BEL := Lib.hid (BEL.out.trans (hby.mono BEL.out.size))
      clear y hby
      go_wp2_with fail
      refine (within2_yes a 0 (P - 1) n 0 (T - 1) (w2.heap.size + 1) _ (w2.alloc (.cells #[.int .u8 4, .int .i64 t, .int .i64 P, .int .i64 T, .int .i64 4] 68)) (by simp) K1.out K2.out).mono ?_
      rintro e w4 ⟨rfl, hb4⟩
      have Y := Lib.hid (Y.out.below hb4 Y.out.lt)
      have BEL := Lib.hid (BEL.out.trans (hb4.mono BEL.out.size))
      clear hb4 d0 d1 d2 d3 d4
      obtain ⟨d0, d1, d2, d3, d4⟩ := Y.out.part
      go_wp2_with fail
      refine (SE.out _).mono ?_
      rintro e w5 ⟨rfl, hb5⟩
      have BEL := Lib.hid (BEL.out.trans (hb5.mono BEL.out.size))
      clear hb5
      go_wp2
      go_ret2
      exact ⟨rfl, BEL.out⟩
    · rw [show traN P T A M W Q a n = 0 by unfold traN; rw [if_pos hm, if_neg (by omega)], show traE P T A M W Q a n = 2 by unfold traE; rw [if_pos hm, if_neg (by omega)]]
      obtain ⟨g, hg⟩ : ∃ g, g = pagC T := ⟨_, rfl⟩
      obtain ⟨p, hp⟩ : ∃ p, p = fP A := ⟨_, rfl⟩
      obtain ⟨t, ht⟩ : ∃ t, t = fT P T A := ⟨_, rfl⟩
      rw [← hg, ← hp, ← ht] at PA
      try rw [← hg] at k0
      have b3 : 1 ≤ g ∧ g ≤ 2 := by omega
      have K0 := Lib.hid k0
      have IX := fun w' => ix_3 P T A g p t w'
      clear hm hbd hfe q1 q2 h7 hg hp ht k0
      go_enter Try.func72, Try.ntmps72
      go_wp2_with fail
      refine (CK.out _).mono ?_
      rintro e w1 ⟨rfl, hb1⟩
      have hb := hb1
      have X := Lib.hid (X.out.below (hb.mono (by have := X.out.lt; omega)) X.out.lt)
      have BEL := Lib.hid (BEL.out.trans (hb.mono BEL.out.size))
      clear hb hb1 c0 c1 c2 c3 c4 c5
      obtain ⟨c0, c1, c2, c3, c4, c5⟩ := X.out.cfg
      go_wp2_with fail
      refine (PA.out _).mono ?_
      rintro e w2 ⟨rfl, hb2⟩
      have hb := hb2
      have X := Lib.hid (X.out.below (hb.mono (by have := X.out.lt; omega)) X.out.lt)
      have BEL := Lib.hid (BEL.out.trans (hb.mono BEL.out.size))
      clear hb hb2 c0 c1 c2 c3 c4 c5
      obtain ⟨c0, c1, c2, c3, c4, c5⟩ := X.out.cfg
      obtain ⟨y, hby⟩ := box_part w2 4 t P T 4
      obtain ⟨d0, d1, d2, d3, d4⟩ := y.part
      have Y := Lib.hid y
      have X := Lib.hid (X.out.below (hby.mono (Nat.le_refl _)) X.out.lt)
      have BEL := Lib.hid (BEL.out.trans (hby.mono BEL.out.size))
      clear y hby
      go_wp2_with fail
      refine (within2_no a 0 (P - 1) n 0 (T - 1) (w2.heap.size + 1) _ (w2.alloc (.cells #[.int .u8 4, .int .i64 t, .int .i64 P, .int .i64 T, .int .i64 4] 68)) (by simp) K0.out).mono ?_
      rintro e w4 ⟨rfl, hb4⟩
      have Y := Lib.hid (Y.out.below hb4 Y.out.lt)
      have BEL := Lib.hid (BEL.out.trans (hb4.mono BEL.out.size))
      clear hb4 d0 d1 d2 d3 d4
      obtain ⟨d0, d1, d2, d3, d4⟩ := Y.out.part
      go_wp2
      go_ret2
      exact ⟨rfl, BEL.out⟩
  · rw [show chkC P T A M W Q = 8 by unfold chkC; rw [if_neg h]] at CK
    rw [show traN P T A M W Q a n = 0 by unfold traN; rw [if_neg h], show traE P T A M W Q a n = 8 by unfold traE; rw [if_neg h]]
    clear h
    go_enter Try.func72, Try.ntmps72
    go_wp2_with fail
    refine (CK.out _).mono ?_
    rintro e w1 ⟨rfl, hb1⟩
    have hb := hb1
    have X := Lib.hid (X.out.below (hb.mono (by have := X.out.lt; omega)) X.out.lt)
    have BEL := Lib.hid (BEL.out.trans (hb.mono BEL.out.size))
    clear hb hb1 c0 c1 c2 c3 c4 c5
    obtain ⟨c0, c1, c2, c3, c4, c5⟩ := X.out.cfg
    go_wp2
    go_ret2
    exact ⟨rfl, BEL.out⟩

end Go.Proofs.Ytiibmlbenamgcaa

namespace Go.Proofs.Ytiibmlbenamgcaa
open Go.RowKit
set_option linter.unusedVariables false

/-- The part k: its kind, first sector, owners, things, sectors of each. -/
def pK : Nat → Int | 0 => 1 | 1 => 2 | 2 => 3 | _ => 4
def pF (P T A : Int) : Nat → Int | 0 => 0 | 1 => 2 | 2 => fP A | 3 => fT P T A | _ => fE P T A
def pO (P : Int) : Nat → Int | 0 => 1 | 1 => 2 | _ => P
def pT (T A : Int) : Nat → Int | 0 => 1 | 1 => A | 2 => pagC T | _ => T
def pS : Nat → Int | 0 => 2 | 1 => 1 | 2 => 1 | _ => 4
theorem lt4 {k : Nat} (h : k < 4) : k = 0 ∨ k = 1 ∨ k = 2 ∨ k = 3 := by omega

theorem ix_any (P T A : Int) {k : Nat} (hk : k < 4) (w : World) : (Instr.index 69 (.agg #[.int .u8 1, .int .i64 0, .int .i64 1, .int .i64 1, .int .i64 2, .int .u8 2, .int .i64 2, .int .i64 2, .int .i64 A, .int .i64 1, .int .u8 3, .int .i64 (fP A), .int .i64 P, .int .i64 (pagC T), .int .i64 1, .int .u8 4, .int .i64 (fT P T A), .int .i64 P, .int .i64 T, .int .i64 4]) (.int .i64 (k : Int))).run Try.prog w = .ok (partV (pK k) (pF P T A k) (pO P k) (pT T A k) (pS k)) w := by
  rcases lt4 hk with rfl | rfl | rfl | rfl
  · exact ix_0 P T A (pagC T) (fP A) (fT P T A) w
  · exact ix_1 P T A (pagC T) (fP A) (fT P T A) w
  · exact ix_2 P T A (pagC T) (fP A) (fT P T A) w
  · exact ix_3 P T A (pagC T) (fP A) (fT P T A) w

theorem part_bounds {P T A M W Q : Int} (h : mayC P T A M W Q) {k : Nat} (hk : k < 4) : 1 ≤ pO P k ∧ pO P k ≤ 3 ∧ 1 ≤ pT T A k ∧ pT T A k ≤ 32 ∧ 1 ≤ pS k ∧ pS k ≤ 4 ∧ 0 ≤ pF P T A k ∧ pF P T A k ≤ 300 := by
  have hb := bounds_may h
  have hE := fE_le h
  unfold mayC at h
  unfold fE at hE
  rcases lt4 hk with rfl | rfl | rfl | rfl <;> simp only [pO, pT, pS, pF, fP, fT] <;> omega
theorem sec_bounds {P T A M W Q : Int} (h : mayC P T A M W Q) {k : Nat} (hk : k < 4) {j : Int} (h0 : 0 ≤ j) (h1 : j ≤ pO P k) :
    (-10000 ≤ j * pT T A k ∧ j * pT T A k ≤ 10000) ∧ (-50000 ≤ (j * pT T A k + 0) * pS k ∧ (j * pT T A k + 0) * pS k ≤ 50000) ∧ (0 ≤ pF P T A k ∧ pF P T A k ≤ 1000) ∧ 0 ≤ secP (pF P T A k) (pT T A k) (pS k) j 0 ∧ secP (pF P T A k) (pT T A k) (pS k) j 0 ≤ 50000 := by
  have hb := part_bounds h hk
  obtain ⟨b1, b2, b3, b4, b5, b6, b7, b8⟩ := hb
  have hx : 0 ≤ j * pT T A k ∧ j * pT T A k ≤ 96 := by rcases mul3 h0 (by omega) (pT T A k) with q | q | q | q <;> omega
  have hy : 0 ≤ (j * pT T A k + 0) * pS k ∧ (j * pT T A k + 0) * pS k ≤ 400 := by
    refine ⟨Int.mul_nonneg (by omega) (by omega), ?_⟩
    have h2 : (j * pT T A k + 0) * pS k ≤ 96 * pS k := Int.mul_le_mul_of_nonneg_right (by omega) (by omega)
    omega
  unfold secP
  omega
theorem sec_any {P T A M W Q : Int} (h : mayC P T A M W Q) {k : Nat} (hk : k < 4) {j : Int} (h0 : 0 ≤ j) (h1 : j ≤ pO P k) (w : World) :
    Calls Try.prog 55 #[partV (pK k) (pF P T A k) (pO P k) (pT T A k) (pS k), .int .i64 j, .int .i64 0] w fun e w' => e = .returned (.int .i64 (secP (pF P T A k) (pT T A k) (pS k) j 0)) ∧ Below w.heap.size w w' := by
  obtain ⟨a1, a2, a3, _, _⟩ := sec_bounds h hk h0 h1
  exact sector_any _ _ _ _ _ _ _ w a1 (by omega) a2 a3

theorem part_end {P T A M W Q x : Int} (h : mayC P T A M W Q) {k : Nat} (hk : k < 4) (hx : secP (pF P T A k) (pT T A k) (pS k) (pO P k) 0 ≤ x) : pF P T A (k + 1) ≤ x := by
  rcases lt4 hk with rfl | rfl | rfl | rfl
  · simpa [pF, pT, pS, pO, secP_0] using hx
  · simp only [pF, pT, pS, pO] at hx ⊢; rwa [secP_1] at hx
  · simp only [pF, pT, pS, pO] at hx ⊢; rwa [secP_2] at hx
  · simp only [pF, pT, pS, pO] at hx ⊢; rwa [secP_3] at hx
theorem part_start (P T A : Int) (k : Nat) : secP (pF P T A k) (pT T A k) (pS k) 0 0 = pF P T A k := by unfold secP; omega

theorem part_hit {P T A M W Q x : Int} (h : mayC P T A M W Q) (h0 : 0 ≤ x) (hE : x < fE P T A) {k : Nat} (hk : k < 4) {j : Int} (hj0 : 0 ≤ j) (hj1 : j < pO P k) (l0 : secP (pF P T A k) (pT T A k) (pS k) j 0 ≤ x) (l1 : x < secP (pF P T A k) (pT T A k) (pS k) (j + 1) 0) :
    whaK P T A M W Q x = pK k ∧ whaA P T A M W Q x = j ∧ whaN P T A M W Q x = (x - secP (pF P T A k) (pT T A k) (pS k) j 0) / pS k := by
  have hno : ¬ (x < 0 ∨ fE P T A ≤ x) := by omega
  have hb := bounds_may h
  have hm := h
  obtain ⟨h1, h2, h3, h4, h5, h6, h7⟩ := h
  obtain ⟨b1, b2, b3, b4, b5, b6, b7⟩ := hb
  have e1 : fP A = 2 + 2 * A := rfl
  have e2 : fT P T A = 2 + 2 * A + P * pagC T := rfl
  rcases lt4 hk with rfl | rfl | rfl | rfl
  · simp only [pF, pT, pS, pO, secP] at hj1 l0 l1 ⊢
    obtain rfl : j = 0 := by omega
    have k2 : x < 2 := by omega
    unfold whaK whaA whaN
    rw [if_pos hm, if_neg hno, if_pos k2, if_pos hm, if_neg hno, if_pos k2, if_pos hm, if_neg hno, if_pos k2]
    exact ⟨rfl, rfl, by omega⟩
  · simp only [pF, pT, pS, pO, secP] at hj1 l0 l1 ⊢
    have hx : (j + 1) * A = j * A + A := by rw [Int.add_mul]; omega
    have hm2 : 0 ≤ j * A ∧ j * A + A ≤ 2 * A := by rcases mul3 hj0 (by omega) A with q | q | q | q <;> omega
    have k2 : ¬ x < 2 := by omega
    have k4 : x < fP A := by omega
    unfold whaK whaA whaN
    rw [if_pos hm, if_neg hno, if_neg k2, if_pos k4, if_pos hm, if_neg hno, if_neg k2, if_pos k4, if_pos hm, if_neg hno, if_neg k2, if_pos k4]
    have hd := div_at (q := 0) (x := x - 2) (o := j) (b := A) (by omega) (by omega) (by omega)
    exact ⟨rfl, hd.1, by rw [hd.2]; omega⟩
  · simp only [pF, pT, pS, pO, secP] at hj1 l0 l1 ⊢
    have hx : (j + 1) * pagC T = j * pagC T + pagC T := by rw [Int.add_mul]; omega
    have hm2 : 0 ≤ j * pagC T ∧ j * pagC T + pagC T ≤ P * pagC T := by
      refine ⟨Int.mul_nonneg hj0 (by omega), ?_⟩
      rw [← hx]
      exact Int.mul_le_mul_of_nonneg_right (by omega) (by omega)
    have k2 : ¬ x < 2 := by omega
    have k4 : ¬ x < fP A := by omega
    have k5 : x < fT P T A := by omega
    unfold whaK whaA whaN
    rw [if_pos hm, if_neg hno, if_neg k2, if_neg k4, if_pos k5, if_pos hm, if_neg hno, if_neg k2, if_neg k4, if_pos k5, if_pos hm, if_neg hno, if_neg k2, if_neg k4, if_pos k5]
    have hd := div_at (q := 0) (x := x - fP A) (o := j) (b := pagC T) (by omega) (by omega) (by omega)
    exact ⟨rfl, hd.1, by rw [hd.2]; omega⟩
  · simp only [pF, pT, pS, pO, secP] at hj1 l0 l1 ⊢
    have hx : (j + 1) * T = j * T + T := by rw [Int.add_mul]; omega
    have hm2 : 0 ≤ j * T := Int.mul_nonneg hj0 (by omega)
    have k2 : ¬ x < 2 := by omega
    have k4 : ¬ x < fP A := by omega
    have k5 : ¬ x < fT P T A := by omega
    unfold whaK whaA whaN
    rw [if_pos hm, if_neg hno, if_neg k2, if_neg k4, if_neg k5, if_pos hm, if_neg hno, if_neg k2, if_neg k4, if_neg k5, if_pos hm, if_neg hno, if_neg k2, if_neg k4, if_neg k5]
    have hd := div_at (q := 0) (x := (x - fT P T A) / 4) (o := j) (b := T) (by omega) (by omega) (by omega)
    exact ⟨rfl, hd.1, by rw [hd.2]; omega⟩

end Go.Proofs.Ytiibmlbenamgcaa

namespace Go.Proofs.Ytiibmlbenamgcaa
open Go.RowKit
set_option linter.unusedVariables false

end Go.Proofs.Ytiibmlbenamgcaa
