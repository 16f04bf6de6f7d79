/- Layer 7, package place: what stands in a sector. No statement is proved here. -/
import Derived.Test.YtghdcajojbbllaaPlP4
import Derived.Test.YtghdcajojbbllaaPlWm
namespace Go.Proofs.Ytghdcajojbbllaa
open Go.RowKit
set_option linter.unusedVariables false

set_option maxRecDepth 100000 in
set_option maxHeartbeats 6400000 in
theorem pwhat_ok (P T A M W Q x : Int) (w : World) (h : mayC P T A M W Q) (h0 : 0 ≤ x) (hE : x < fE P T A) : Calls Try.prog 36 #[cfgV P T A M W Q, .int .i64 x] w fun e w' => e = .returned (.tuple #[.int .u8 (whaK P T A M W Q x), .int .i64 (whaA P T A M W Q x), .int .i64 (whaN P T A M W Q x), .int .i64 0]) ∧ Below w.heap.size w w' := by
  obtain ⟨x, hbel⟩ := box_cfg w P T A M W Q
  obtain ⟨c0, c1, c2, c3, c4, c5⟩ := x.cfg
  have X := Lib.hid x
  have BEL := Lib.hid hbel
  clear x hbel
  have SC := Lib.hid (fun w' : World => psectors_any P T A M W Q w')
  rw [show chkC P T A M W Q = 0 by unfold chkC; rw [if_pos h], show secN P T A M W Q = fE P T A by unfold secN; rw [if_pos h]] at SC
  have PA := Lib.hid (fun w' : World => parts_out P T A M W Q _ _ _ w' h rfl rfl rfl)
  have PB := Lib.hid (fun k (hk : k < 4) => part_bounds h hk)
  have SB := Lib.hid (fun k (hk : k < 4) j (h0 : (0 : Int) ≤ j) (h1 : j ≤ pO P k) => sec_bounds h hk h0 h1)
  have SE := Lib.hid (fun k (hk : k < 4) j (h0 : (0 : Int) ≤ j) (h1 : j ≤ pO P k) (w' : World) => sec_any h hk h0 h1 w')
  have HIT := Lib.hid (fun k (hk : k < 4) j (h1 : (0 : Int) ≤ j) (h2 : j < pO P k) l0 l1 => part_hit h h0 hE hk h1 h2 l0 l1)
  have END := Lib.hid (fun k (hk : k < 4) (hx : secP (pF P T A k) (pT T A k) (pS k) (pO P k) 0 ≤ x) => part_end h hk hx)
  have IX := Lib.hid (fun k (hk : k < 4) (w' : World) => ix_any P T A hk w')
  have hle := (fE_le h).2
  obtain ⟨g, hg⟩ : ∃ g, g = pagC T := ⟨_, rfl⟩
  obtain ⟨p, hp⟩ : ∃ p, p = fP A := ⟨_, rfl⟩
  obtain ⟨t, ht⟩ : ∃ t, t = fT P T A := ⟨_, rfl⟩
  obtain ⟨E, hE2⟩ : ∃ E, E = fE P T A := ⟨_, rfl⟩
  have LAST := Lib.hid (show pF P T A 4 = E from hE2.symm)
  rw [← hg, ← hp, ← ht] at PA IX
  rw [← hE2] at SC hE hle
  obtain ⟨K, hK⟩ : ∃ K, K = whaK P T A M W Q x := ⟨_, rfl⟩
  obtain ⟨B, hB⟩ : ∃ B, B = whaA P T A M W Q x := ⟨_, rfl⟩
  obtain ⟨N, hN⟩ : ∃ N, N = whaN P T A M W Q x := ⟨_, rfl⟩
  rw [← hK, ← hB, ← hN] at HIT ⊢
  clear h hg hp ht hE2 hK hB hN
  have KX := Lib.hid (show 0 ≤ x ∧ x ≤ E - 1 by omega)
  go_enter Try.func36, Try.ntmps36
  go_wp2_with fail
  go_step3
  go_wp2_with fail
  refine (SC.out _).mono ?_
  rintro e w1 ⟨rfl, hb1⟩
  have hb := hb1
  have X := Lib.hid (X.out.below (hb.mono (by have := X.out.lt; omega)) X.out.lt)
  have BEL := Lib.hid (BEL.out.trans (hb.mono BEL.out.size))
  clear hb hb1 c0 c1 c2 c3 c4 c5
  obtain ⟨c0, c1, c2, c3, c4, c5⟩ := X.out.cfg
  go_wp2_with fail
  refine (within1_yes x 0 (E - 1) w1.heap.size _ w1 rfl KX.out).mono ?_
  rintro e w2 ⟨rfl, hb2⟩
  have X := Lib.hid (X.out.below hb2 X.out.lt)
  have BEL := Lib.hid (BEL.out.trans (hb2.mono BEL.out.size))
  clear hb2 c0 c1 c2 c3 c4 c5
  obtain ⟨c0, c1, c2, c3, c4, c5⟩ := X.out.cfg
  go_wp2_with fail
  go_step3
  go_wp2_with fail
  refine (PA.out _).mono ?_
  rintro e w3 ⟨rfl, hb3⟩
  have hb := hb3
  have X := Lib.hid (X.out.below (hb.mono (by have := X.out.lt; omega)) X.out.lt)
  have BEL := Lib.hid (BEL.out.trans (hb.mono BEL.out.size))
  clear hb hb3 c0 c1 c2 c3 c4 c5
  obtain ⟨c0, c1, c2, c3, c4, c5⟩ := X.out.cfg
  clear c0 c1 c2 c3 c4 c5 KX
  go_wp2
  go_loopw [29] (fun i wr => ∃ k : Nat, k ≤ 4 ∧ i = .int .i64 k ∧ pF P T A k ≤ x ∧ Below w.heap.size w wr) (fun i _ => 4 - (intOf i).toNat)
  case atStart => exact ⟨0, by omega, rfl, h0, BEL.out⟩
  case round =>
    obtain ⟨k, hk, rfl, hf, hbel⟩ := hrel
    by_cases hk4 : k < 4
    · have ix := IX.out k hk4 wr
      have SE := Lib.hid (SE.out k hk4)
      have SB := Lib.hid (SB.out k hk4)
      have HIT := Lib.hid (HIT.out k hk4)
      have END := Lib.hid (END.out k hk4)
      obtain ⟨b1, b2, b3, b4, b5, b6, b7, b8⟩ := PB.out k hk4
      have hst := part_start P T A k
      rw [← hst] at hf
      clear hst
      obtain ⟨kd, hkd⟩ : ∃ kd, kd = pK k := ⟨_, rfl⟩
      obtain ⟨f, hff⟩ : ∃ f, f = pF P T A k := ⟨_, rfl⟩
      obtain ⟨ow, how⟩ : ∃ ow, ow = pO P k := ⟨_, rfl⟩
      obtain ⟨th, hth⟩ : ∃ th, th = pT T A k := ⟨_, rfl⟩
      obtain ⟨s, hs⟩ : ∃ s, s = pS k := ⟨_, rfl⟩
      rw [← hkd, ← hff, ← how, ← hth, ← hs] at ix SE
      rw [← hff, ← hth, ← hs] at hf
      rw [← how] at b1 b2
      rw [← hs] at b5 b6
      rw [← hkd, ← hff, ← how, ← hth, ← hs] at HIT
      rw [← hff, ← how, ← hth, ← hs] at END SB
      clear hkd hff how hth hs b3 b4 b7 b8
      obtain ⟨y, hby⟩ := box_part wr kd f ow th s
      obtain ⟨w4, hw4⟩ : ∃ w4, w4 = wr.alloc (.cells #[.int .u8 kd, .int .i64 f, .int .i64 ow, .int .i64 th, .int .i64 s] 108) := ⟨_, rfl⟩
      rw [← hw4] at y hby
      have B4 := Lib.hid (hbel.trans (hby.mono hbel.size))
      have HB := Lib.hid hbel.size
      have Y := Lib.hid y
      have HF := Lib.hid hf
      clear hbel hby y hf
      go_upto_region 9 with fail
      rw [← hw4]
      have HK4 := Lib.hid hk4
      clear hw4 ix hk4
      obtain ⟨bk, hbk⟩ : ∃ bk, bk = decide ((k : Int) < 4) := ⟨_, rfl⟩
      try rw [← hbk]
      clear hbk
      obtain ⟨b, hb⟩ : ∃ b, b = wr.heap.size := ⟨_, rfl⟩
      rw [← hb] at Y HB ⊢
      clear hb
      obtain ⟨d0, d1, d2, d3, d4⟩ := Y.out.part
      go_wp2
      clear d0 d1 d2 d3 d4
      go_loopw [34] (fun i wr => ∃ j : Nat, (j : Int) ≤ ow ∧ i = .int .i64 j ∧ secP f th s j 0 ≤ x ∧ Blk wr b 108 [.int .u8 kd, .int .i64 f, .int .i64 ow, .int .i64 th, .int .i64 s] ∧ Below w.heap.size w wr) (fun i _ => ow.toNat - (intOf i).toNat)
      case atStart => exact ⟨0, by omega, rfl, HF.out, Y.out, B4.out⟩
      case round =>
        obtain ⟨j, hj, rfl, hl, hY, hbel⟩ := hrel
        obtain ⟨d0, d1, d2, d3, d4⟩ := hY.part
        have Y := Lib.hid hY
        have BEL := Lib.hid hbel
        have HL := Lib.hid hl
        clear hY hbel hl
        by_cases hjo : (j : Int) < ow
        · have S1 := Lib.hid (fun w' => SE.out ((j : Int) + 1) (by omega) (by omega) w')
          have S0 := Lib.hid (fun w' => SE.out (j : Int) (by omega) (by omega) w')
          obtain ⟨_, _, _, v0a, v0b⟩ := SB.out (j : Int) (by omega) (by omega)
          obtain ⟨_, _, _, v1a, v1b⟩ := SB.out ((j : Int) + 1) (by omega) (by omega)
          have HT := Lib.hid (HIT.out (j : Int) (by omega) hjo)
          obtain ⟨v1, hv1⟩ : ∃ v, v = secP f th s ((j : Int) + 1) 0 := ⟨_, rfl⟩
          obtain ⟨v0, hv0⟩ : ∃ v, v = secP f th s (j : Int) 0 := ⟨_, rfl⟩
          rw [← hv1] at S1 v1a v1b
          rw [← hv0] at S0 v0a v0b HL
          rw [← hv0, ← hv1] at HT
          have HV1 := Lib.hid hv1
          clear hv0 hv1
          go_wp2_with fail
          refine (S1.out _).mono ?_
          rintro e w5 ⟨rfl, hb5⟩
          have Y := Lib.hid (Y.out.below hb5 Y.out.lt)
          have BEL := Lib.hid (BEL.out.trans (hb5.mono BEL.out.size))
          clear hb5 d0 d1 d2 d3 d4
          obtain ⟨d0, d1, d2, d3, d4⟩ := Y.out.part
          by_cases hx : x < v1
          · obtain ⟨e1, e2, e3⟩ := HT.out HL.out hx
            have hl := HL.out
            have hq0 := Int.ediv_nonneg (a := x - v0) (b := s) (by omega) (by omega)
            have hq1 := Int.ediv_le_self (a := x - v0) s (by omega)
            have hd1 := Int.tdiv_eq_ediv_of_nonneg (a := x - v0) (b := s) (by omega)
            rw [← e3] at hq0 hq1 hd1
            have EQ := Lib.hid (show K = kd ∧ B = (j : Int) from ⟨e1, e2⟩)
            have hwx : IntKind.i64.wrap (x - v0) = x - v0 := wrap_sm (by omega) (by omega)
            have hwN : IntKind.i64.wrap N = N := wrap_sm (by omega) (by omega)
            have hg0 : s ≠ 0 := by omega
            have hg1 : (s == 0) = false := by simpa using hg0
            clear e1 e2 e3 HIT SE SB END IX PB LAST PA SC HT S1
            go_upto_region 13 with fail
            have hcur : Below w5.heap.size w5 w5.drew := below_drewN (Below.refl _ _) 1
            have keepX : ∀ wx, Below w5.heap.size w5 wx → wx.cell? ⟨b, 0, none⟩ = some (.int .u8 kd) ∧ wx.cell? ⟨b, 1, none⟩ = some (.int .i64 f) ∧ wx.cell? ⟨b, 2, none⟩ = some (.int .i64 ow) ∧ wx.cell? ⟨b, 3, none⟩ = some (.int .i64 th) ∧ wx.cell? ⟨b, 4, none⟩ = some (.int .i64 s) := fun wx hx => (Y.out.below hx Y.out.lt).part
            have hkX := keepX _ hcur
            go_region_held3 (fun w' => w'.cell? ⟨b, 0, none⟩ = some (.int .u8 kd) ∧ w'.cell? ⟨b, 1, none⟩ = some (.int .i64 f) ∧ w'.cell? ⟨b, 2, none⟩ = some (.int .i64 ow) ∧ w'.cell? ⟨b, 3, none⟩ = some (.int .i64 th) ∧ w'.cell? ⟨b, 4, none⟩ = some (.int .i64 s))
              (first | exact hkX | go_keep)
              (first | (go_at_call 71; with_reducible refine (S0.out _).mono ?_; rintro e wM ⟨rfl, hbM⟩; have hcur := hcur.trans (hbM.mono hcur.size); have hkX := keepX _ hcur))
            all_goals (have hfin := Lib.hid (BEL.out.trans (hcur.mono BEL.out.size)); clear keepX hkX; go_wp2; try rw [Exit.noGoto_ret]; (try simp only [Exit.inBlock, Exit.then]); refine bodyPost_ret (results_tmp4 rfl _ _ _) rfl ?_; exact ⟨by rw [EQ.out.1, EQ.out.2]; rfl, hfin.out⟩)
          · have hge : v1 ≤ x := by omega
            rw [HV1.out] at hge
            have HG := Lib.hid hge
            clear hge
            go_wp2
            go_roundw
            case rel =>
              exact ⟨j + 1, by omega, by go_num, by have := HG.out; simpa using this, Y.out, BEL.out⟩
            case measure => simp [intOf]; omega
        · obtain hjw : (j : Int) = ow := by omega
          have HN := Lib.hid (END.out (by rw [← hjw]; exact HL.out))
          clear hjw
          go_wp2
          go_roundw
          case rel => exact ⟨k + 1, by have := HK4.out; omega, by go_num, HN.out, BEL.out⟩
          case measure => have := HK4.out; simp [intOf]; omega
    · exfalso
      obtain rfl : k = 4 := by omega
      have := LAST.out
      omega

set_option maxHeartbeats 1600000 in
theorem pwhat_any (P T A M W Q x : Int) (w : World) : Calls Try.prog 36 #[cfgV P T A M W Q, .int .i64 x] w fun e w' => e = .returned (.tuple #[.int .u8 (whaK P T A M W Q x), .int .i64 (whaA P T A M W Q x), .int .i64 (whaN P T A M W Q x), .int .i64 (whaE P T A M W Q x)]) ∧ Below w.heap.size w w' := by
  by_cases h : mayC P T A M W Q
  · by_cases hx : x < 0 ∨ fE P T A ≤ x
    · have hm := h
      rw [show whaK P T A M W Q x = 0 by unfold whaK; rw [if_pos h, if_pos hx], show whaA P T A M W Q x = 0 by unfold whaA; rw [if_pos h, if_pos hx], show whaN P T A M W Q x = 0 by unfold whaN; rw [if_pos h, if_pos hx], show whaE P T A M W Q x = 2 by unfold whaE; rw [if_pos h, if_pos hx]]
      have SC := Lib.hid (fun w' : World => psectors_any P T A M W Q w')
      rw [show chkC P T A M W Q = 0 by unfold chkC; rw [if_pos h], show secN P T A M W Q = fE P T A by unfold secN; rw [if_pos h]] at SC
      have hle := fE_le h
      have KX := Lib.hid (show ¬ (0 ≤ x ∧ x ≤ fE P T A - 1) by omega)
      obtain ⟨E, hE2⟩ : ∃ E, E = fE P T A := ⟨_, rfl⟩
      rw [← hE2] at SC KX hle
      clear h hm hx hE2
      obtain ⟨x0, hbel⟩ := box_cfg w P T A M W Q
      obtain ⟨c0, c1, c2, c3, c4, c5⟩ := x0.cfg
      have X := Lib.hid x0
      have BEL := Lib.hid hbel
      clear x0 hbel
      go_enter Try.func36, Try.ntmps36
      go_wp2_with fail
      go_step3
      go_wp2_with fail
      refine (SC.out _).mono ?_
      rintro e w1 ⟨rfl, hb1⟩
      have hb := hb1
      have X := Lib.hid (X.out.below (hb.mono (by have := X.out.lt; omega)) X.out.lt)
      have BEL := Lib.hid (BEL.out.trans (hb.mono BEL.out.size))
      clear hb hb1 c0 c1 c2 c3 c4 c5
      obtain ⟨c0, c1, c2, c3, c4, c5⟩ := X.out.cfg
      go_wp2_with fail
      refine (within1_no x 0 (E - 1) w1.heap.size _ w1 rfl KX.out).mono ?_
      rintro e w2 ⟨rfl, hb2⟩
      have BEL := Lib.hid (BEL.out.trans (hb2.mono BEL.out.size))
      clear hb2 c0 c1 c2 c3 c4 c5
      go_wp2
      try rw [Exit.noGoto_ret]
      (try simp only [Exit.inBlock, Exit.then]); refine bodyPost_ret (results_tmp4 rfl _ _ _) rfl ?_
      exact ⟨rfl, BEL.out⟩
    · rw [show whaE P T A M W Q x = 0 by unfold whaE; rw [if_pos h, if_neg hx]]
      exact pwhat_ok P T A M W Q x w h (by omega) (by omega)
  · rw [show whaK P T A M W Q x = 0 by unfold whaK; rw [if_neg h], show whaA P T A M W Q x = 0 by unfold whaA; rw [if_neg h], show whaN P T A M W Q x = 0 by unfold whaN; rw [if_neg h], show whaE P T A M W Q x = 8 by unfold whaE; rw [if_neg h]]
    have SC := Lib.hid (fun w' : World => psectors_any P T A M W Q w')
    rw [show chkC P T A M W Q = 8 by unfold chkC; rw [if_neg h], show secN P T A M W Q = 0 by unfold secN; rw [if_neg h]] at SC
    clear h
    obtain ⟨x0, hbel⟩ := box_cfg w P T A M W Q
    obtain ⟨c0, c1, c2, c3, c4, c5⟩ := x0.cfg
    have X := Lib.hid x0
    have BEL := Lib.hid hbel
    clear x0 hbel
    go_enter Try.func36, Try.ntmps36
    go_wp2_with fail
    go_step3
    go_wp2_with fail
    refine (SC.out _).mono ?_
    rintro e w1 ⟨rfl, hb1⟩
    have hb := hb1
    have X := Lib.hid (X.out.below (hb.mono (by have := X.out.lt; omega)) X.out.lt)
    have BEL := Lib.hid (BEL.out.trans (hb.mono BEL.out.size))
    clear hb hb1 c0 c1 c2 c3 c4 c5
    obtain ⟨c0, c1, c2, c3, c4, c5⟩ := X.out.cfg
    go_wp2
    try rw [Exit.noGoto_ret]
    (try simp only [Exit.inBlock, Exit.then]); refine bodyPost_ret (results_tmp4 rfl _ _ _) rfl ?_
    exact ⟨rfl, BEL.out⟩

end Go.Proofs.Ytghdcajojbbllaa
