/- Layer 3: the document's own small functions: a power, a track of a set, Check, Has, what two sets' first error is. -/
import Derived.Test.YtpkecbejnpkieaaBitsO
import Derived.BigQuiet
namespace Go.Proofs.Ytpkecbejnpkieaa
open Go.RowKit
set_option linter.unusedVariables false

theorem size_yes (n : Int) (w : World) (h1 : 1 ≤ n) (h2 : n ≤ 16) : Calls Try.prog 40 #[.int .i64 n] w fun e w' => e = .returned (.bool true) ∧ w = w' := by
  go_enter Try.func40, Try.ntmps40
  go_wp2
  go_ret
  exact ⟨rfl, rfl⟩
theorem size_no (n : Int) (w : World) (h : ¬ (1 ≤ n ∧ n ≤ 16)) : Calls Try.prog 40 #[.int .i64 n] w fun e w' => e = .returned (.bool false) ∧ w = w' := by
  by_cases h1 : n < 1
  · clear h
    go_enter Try.func40, Try.ntmps40
    go_wp2
    go_ret
    exact ⟨by first | rfl | (simp; done) | (simp; omega), rfl⟩
  · have h2 : 16 < n := by omega
    have h3 : 1 ≤ n := by omega
    clear h h1
    go_enter Try.func40, Try.ntmps40
    go_wp2
    go_ret
    exact ⟨by first | rfl | (simp; done) | (simp; omega), rfl⟩

set_option maxHeartbeats 400000 in
theorem power_any (k : Nat) (w : World) (hk : k < 8) : Calls Try.prog 55 #[.int .i64 (k : Int)] w fun e w' => e = .returned (.int .i64 ((2 ^ k : Nat) : Int)) ∧ w = w' := by
  obtain ⟨P, hP⟩ : ∃ P, P = 2 ^ k := ⟨_, rfl⟩
  rw [← hP]
  have HP := Lib.hid hP
  clear hP
  go_enter Try.func55, Try.ntmps55
  go_wp2
  go_loop [3, 4] (fun n i => ∃ j : Nat, j ≤ k ∧ i = .int .i64 j ∧ n = .int .i64 ((2 ^ j : Nat) : Int)) (fun _ i => k - (intOf i).toNat)
  case atStart => exact ⟨0, Nat.zero_le _, rfl, rfl⟩
  case round =>
    obtain ⟨j, hj, rfl, rfl⟩ := hrel
    have hp : 2 ^ j < 2 ^ 8 := Nat.pow_lt_pow_right (by decide) (by omega)
    have hs : 2 ^ (j + 1) = 2 * 2 ^ j := by rw [Nat.pow_succ, Nat.mul_comm]
    obtain ⟨y, hy⟩ : ∃ y, y = 2 ^ j := ⟨_, rfl⟩
    rw [← hy] at hp hs ⊢
    have HS := Lib.hid hs
    have hp2 : y < 256 := hp
    have HY := Lib.hid hy
    clear hs hy hp
    by_cases hjk : j < k
    · go_wp2
      go_round
      case rel => exact ⟨j + 1, by omega, by go_num, by rw [HS.out]; go_num⟩
      case measure => simp [intOf]; omega
    · obtain rfl : j = k := by omega
      obtain rfl : P = y := HP.out.trans HY.out.symm
      go_wp2
      go_ret
      exact ⟨rfl, rfl⟩

theorem in_bit {x i : Nat} : (x / 2 ^ i % 2 == 1) = x.testBit i := by
  rw [Nat.testBit_eq_decide_div_mod_eq]
  rfl
set_option maxRecDepth 100000 in
set_option maxHeartbeats 1600000 in
theorem in_any (A : Option Addr) (n c : Nat) (l : List Int) (t : Nat) (w : World) (B : Nat) (h : Seq w B A (ints .u8 l)) (hl : l.length = n) (hb : ∀ z ∈ l, isByte z) (ht : t < 16) (htn : t / 8 < n) :
    Calls Try.prog 46 #[.slice A n c, .int .i64 (t : Int)] w fun e w' => e = .returned (.bool (hasT l t)) ∧ ∃ q, w' = w.drewN q := by
  subst hl
  obtain ⟨b, o, rfl, hlt, hc⟩ := h.int htn
  rw [pg_cast hb] at hc
  have hx := pg_lt hb (t / 8)
  have hv := in_bit (x := pg l (t / 8)) (i := t % 8)
  have hE : hasT l t = (pg l (t / 8)).testBit (t % 8) := rfl
  rw [hE]
  have hpos := Nat.two_pow_pos (t % 8)
  have G := Lib.hid (fun q => (power_any (t % 8) (w.drewN q) (Nat.mod_lt _ (by decide))).mono fun e w'' (h : e = .returned (.int .i64 ((2 ^ (t % 8) : Nat) : Int)) ∧ w.drewN q = w'') => (⟨h.1, h.2.symm⟩ : e = .returned (.int .i64 ((2 ^ (t % 8) : Nat) : Int)) ∧ w'' = w.drewN q))
  have hp := pow_lt t
  obtain ⟨x, hxe⟩ : ∃ x, x = pg l (t / 8) := ⟨_, rfl⟩
  obtain ⟨r, hre⟩ : ∃ r, r = x.testBit (t % 8) := ⟨_, rfl⟩
  rw [← hxe] at hc hv hx ⊢
  rw [← hre] at hv ⊢
  obtain ⟨y, hye⟩ : ∃ y, y = 2 ^ (t % 8) := ⟨_, rfl⟩
  rw [← hye] at hv G hpos hp
  obtain ⟨d, hd⟩ : ∃ d, d = x / y := ⟨_, rfl⟩
  rw [← hd] at hv
  have hdi : (x : Int) / (y : Int) = (d : Int) := by rw [hd]; simp
  have hdi2 : (x : Int).tdiv (y : Int) = (d : Int) := by rw [Int.tdiv_eq_ediv_of_nonneg (by omega)]; exact hdi
  have hd256 : d < 256 := by rw [hd]; exact Nat.lt_of_le_of_lt (Nat.div_le_self _ _) hx
  have hr2 : ((d : Int) % 2 == 1) = r := by rw [← hv]; rw [Bool.eq_iff_iff, beq_iff_eq, beq_iff_eq]; omega
  have hr3 : ((d : Int).tmod 2 == 1) = r := by rw [Int.tmod_eq_emod_of_nonneg (by omega)]; exact hr2
  obtain ⟨k, hk⟩ : ∃ k : Nat, k = t / 8 := ⟨_, rfl⟩
  obtain ⟨j, hj⟩ : ∃ j : Nat, j = t % 8 := ⟨_, rfl⟩
  rw [← hk] at hc htn
  rw [← hj] at G
  have hk2 : (t : Int) / 8 = (k : Int) := by omega
  have hj2 : (t : Int) % 8 = (j : Int) := by omega
  have hy0 : ¬ (y : Int) = 0 := by omega
  have hkl : (k : Int) < (l.length : Int) := by omega
  clear hxe hye hre h hb hE hv hd hdi hk hj hpos
  go_enter Try.func46, Try.ntmps46
  go_wp2
  go_quiet ((first | (go_at_call 55; exact Calls.quiet_of_same (G.out _))))
  go_wp2
  go_ret
  exact ⟨rfl, _, rfl⟩

theorem may_size (n : Int) (A : Option Addr) (k c : Nat) (w : World) (h : ¬ (1 ≤ n ∧ n ≤ 16)) :
    Calls Try.prog 43 #[.int .i64 n, .slice A k c] w fun e w' => e = .returned (.bool false) ∧ w = w' := by
  have M := Lib.hid (size_no n w h)
  clear h
  go_enter Try.func43, Try.ntmps43
  go_wp2_with fail
  refine M.out.mono ?_
  rintro e w' ⟨rfl, rfl⟩
  go_wp2
  go_ret
  exact ⟨rfl, rfl⟩
theorem may_len (m : Nat) (A : Option Addr) (k c : Nat) (w : World) (h1 : 1 ≤ m) (h2 : m ≤ 16) (hk : k ≠ pgs m) :
    Calls Try.prog 43 #[.int .i64 (m : Int), .slice A k c] w fun e w' => e = .returned (.bool false) ∧ w = w' := by
  have M := Lib.hid (size_yes m w (by omega) (by omega))
  have hq : ((m : Int) + 7) / 8 = (pgs m : Int) := by unfold pgs; omega
  obtain ⟨p, hp⟩ : ∃ p, p = pgs m := ⟨_, rfl⟩
  rw [← hp] at hq hk
  have hne : ¬ (k : Int) = p := by omega
  clear hp
  go_enter Try.func43, Try.ntmps43
  go_wp2_with fail
  refine M.out.mono ?_
  rintro e w' ⟨rfl, rfl⟩
  go_wp2
  go_ret
  exact ⟨by first | rfl | simp, rfl⟩
set_option maxHeartbeats 800000 in
theorem may_ok (m : Nat) (A : Option Addr) (k c : Nat) (l : List Int) (w : World) (h : Arg w .u8 A k c l) (hb : ∀ z ∈ l, isByte z) (h1 : 1 ≤ m) (h2 : m ≤ 16) (hk : k = pgs m) :
    Calls Try.prog 43 #[.int .i64 (m : Int), .slice A k c] w fun e w' => e = .returned (.bool (decide (may m l))) ∧ ∃ q, w' = w.drewN q := by
  have M := Lib.hid (size_yes m w (by omega) (by omega))
  have hq : ((m : Int) + 8 - 1) / 8 = (k : Int) := by rw [hk]; unfold pgs; omega
  have hk2 : k ≤ 2 := by rw [hk]; unfold pgs; omega
  have hmk : m ≤ 8 * k := by rw [hk]; unfold pgs; omega
  have hyes : (∀ u, m ≤ u → u < 8 * k → hasT l u = false) → decide (may m l) = true := fun hh => by
    rw [decide_eq_true_iff, may_isSet h1 hb]
    refine ⟨h.len.trans hk, hb, fun t ht => ?_⟩
    rcases Nat.lt_or_ge t (8 * k) with h' | h'
    · exact hh t ht h'
    · exact hasT_beyond _ (by rw [h.len]; exact h')
  have hno : ∀ u, m ≤ u → hasT l u = true → decide (may m l) = false := fun u hu hh => by
    rw [decide_eq_false_iff_not, may_isSet h1 hb]
    intro hs
    rw [hs.out u hu] at hh
    cases hh
  have IN := Lib.hid fun t q (ht : t < 8 * k) => in_any A k c l t (w.drewN q) _ (h.seq.keep (w' := w.drewN q) fun _ _ => rfl) h.len hb (by omega) (by omega)
  have YES := Lib.hid hyes
  have NO := Lib.hid hno
  obtain ⟨R, hR⟩ : ∃ R, R = decide (may m l) := ⟨_, rfl⟩
  rw [← hR] at YES NO ⊢
  clear hyes hno h hb hk hR
  go_enter Try.func43, Try.ntmps43
  go_wp2_with fail
  refine M.out.mono ?_
  rintro e w' ⟨rfl, rfl⟩
  go_wp2
  clear hq
  go_loopw [5] (fun i wr => ∃ j : Nat, m ≤ j ∧ j ≤ 8 * k ∧ i = .int .i64 j ∧ (∀ u, m ≤ u → u < j → hasT l u = false) ∧ ∃ q, wr = w.drewN q) (fun i _ => 8 * k - (intOf i).toNat)
  case atStart => exact ⟨m, Nat.le_refl _, hmk, rfl, fun u h1 h2 => by omega, 0, rfl⟩
  case round =>
    obtain ⟨j, hmj, hj, rfl, hall, q, rfl⟩ := hrel
    have ALL := Lib.hid hall
    clear hall
    by_cases hjk : j < 8 * k
    · have T := IN.out j q hjk
      obtain ⟨r, hr⟩ : ∃ r, r = hasT l j := ⟨_, rfl⟩
      rw [← hr] at T
      have HR := Lib.hid hr
      have T := Lib.hid T
      clear hr
      cases r with
      | true =>
        have HN := Lib.hid (NO.out j hmj HR.out.symm)
        go_wp2_with fail
        refine T.out.mono ?_
        rintro e w' ⟨rfl, q2, rfl⟩
        go_wp2
        go_ret
        rw [HN.out]
        exact ⟨rfl, q + q2, by simp⟩
      | false =>
        go_wp2_with fail
        refine T.out.mono ?_
        rintro e w' ⟨rfl, q2, rfl⟩
        go_wp2
        go_roundw
        case rel =>
          refine ⟨j + 1, by omega, by omega, by go_num, fun u hu hu2 => ?_, q + q2, by simp⟩
          rcases Nat.lt_or_ge u j with h' | h'
          · exact ALL.out u hu h'
          · obtain rfl : u = j := by omega
            exact HR.out.symm
        case measure => simp [intOf]; omega
    · obtain rfl : j = 8 * k := by omega
      have HY := Lib.hid (YES.out ALL.out)
      go_wp2
      go_ret
      rw [HY.out]
      exact ⟨rfl, q, rfl⟩
/-- The document's Check. -/
theorem rcheck_any (n : Int) (A : Option Addr) (k c : Nat) (l : List Int) (w : World) (h : Arg w .u8 A k c l) (hb : ∀ z ∈ l, isByte z) :
    Calls Try.prog 17 #[.int .i64 n, .slice A k c] w fun e w' => e = .returned (.int .i64 (chk n l)) ∧ ∃ q, w' = w.drewN q := by
  unfold chk
  by_cases h1 : 1 ≤ n ∧ n ≤ 16
  · rw [if_pos h1]
    obtain ⟨m, rfl⟩ : ∃ m : Nat, n = m := ⟨n.toNat, by omega⟩
    rw [Int.toNat_natCast]
    have M := Lib.hid (size_yes m w h1.1 h1.2)
    have hmay : Calls Try.prog 43 #[.int .i64 (m : Int), .slice A k c] w fun e w' => e = .returned (.bool (decide (may m l))) ∧ ∃ q, w' = w.drewN q := by
      by_cases hk : k = pgs m
      · exact may_ok m A k c l w h hb (by omega) (by omega) hk
      · rw [show decide (may m l) = false from decide_eq_false fun hm => hk (h.len.symm.trans hm.1)]
        exact (may_len m A k c w (by omega) (by omega) hk).mono fun e w' h => ⟨h.1, 0, h.2.symm⟩
    by_cases hm : may m l
    · rw [show decide (may m l) = true from decide_eq_true hm] at hmay
      rw [if_pos hm]
      have Y := Lib.hid hmay
      clear h hb hm hmay h1
      go_enter Try.func17, Try.ntmps17
      go_wp2_with fail
      refine M.out.mono ?_
      rintro e w' ⟨rfl, rfl⟩
      go_wp2_with fail
      refine Y.out.mono ?_
      rintro e w' ⟨rfl, q, rfl⟩
      go_wp2
      go_ret
      exact ⟨rfl, q, rfl⟩
    · rw [show decide (may m l) = false from decide_eq_false hm] at hmay
      rw [if_neg hm]
      have Y := Lib.hid hmay
      clear h hb hm hmay h1
      go_enter Try.func17, Try.ntmps17
      go_wp2_with fail
      refine M.out.mono ?_
      rintro e w' ⟨rfl, rfl⟩
      go_wp2_with fail
      refine Y.out.mono ?_
      rintro e w' ⟨rfl, q, rfl⟩
      go_wp2
      go_ret
      exact ⟨rfl, q, rfl⟩
  · rw [if_neg h1]
    have M := Lib.hid (size_no n w h1)
    clear h hb h1
    go_enter Try.func17, Try.ntmps17
    go_wp2_with fail
    refine M.out.mono ?_
    rintro e w' ⟨rfl, rfl⟩
    go_wp2
    go_ret
    exact ⟨rfl, 0, rfl⟩

/-- The document's Has. -/
theorem rHas_any (n : Int) (A : Option Addr) (k c : Nat) (l : List Int) (t : Int) (w : World) (h : Arg w .u8 A k c l) (hb : ∀ z ∈ l, isByte z) :
    Calls Try.prog 24 #[.int .i64 n, .slice A k c, .int .i64 t] w fun e w' => e = .returned (.tuple #[.bool (hasV n l t), .int .i64 (trkE n l t)]) ∧ ∃ q, w' = w.drewN q := by
  have C := rcheck_any n A k c l w h hb
  by_cases hc : chk n l = 0
  · obtain ⟨m, rfl, h1, h2, h3⟩ := chk_zero hb hc
    rw [hc] at C
    have C := Lib.hid C
    by_cases ht : 0 ≤ t ∧ t < (m : Int)
    · obtain ⟨u, rfl⟩ : ∃ u : Nat, t = u := ⟨t.toNat, by omega⟩
      have hum : u < m := by omega
      have e1 : trkE (m : Int) l (u : Int) = 0 := trkE_ok h1 h2 hum h3
      have e2 : hasV (m : Int) l (u : Int) = hasT l u := by unfold hasV; rw [e1, Int.toNat_natCast]; rfl
      rw [e1, e2]
      have hu1 : (0 : Int) ≤ u := by omega
      have hu2 : (u : Int) < m := by omega
      have I := fun q => in_any A k c l u (w.drewN q) _ (h.seq.keep (w' := w.drewN q) fun _ _ => rfl) h.len hb (by omega) (by rw [← h.len, h3.len]; exact pgs_le hum)
      obtain ⟨r, hr⟩ : ∃ r, r = hasT l u := ⟨_, rfl⟩
      rw [← hr] at I ⊢
      have I := Lib.hid I
      clear h hb hc h3 hr e1 e2 ht
      go_enter Try.func24, Try.ntmps24
      go_wp2_with fail
      refine C.out.mono ?_
      rintro e w' ⟨rfl, q, rfl⟩
      go_wp2_with fail
      refine (I.out q).mono ?_
      rintro e w' ⟨rfl, q2, rfl⟩
      go_wp2
      go_ret2
      exact ⟨rfl, q + q2, by simp⟩
    · have e1 : trkE (m : Int) l t = 2 := by unfold trkE; rw [if_pos hc, if_neg ht]
      have e2 : hasV (m : Int) l t = false := by unfold hasV; rw [e1]; rfl
      rw [e1, e2]
      clear h hb hc h3 e1 e2
      by_cases h0 : t < 0
      · go_enter Try.func24, Try.ntmps24
        go_wp2_with fail
        refine C.out.mono ?_
        rintro e w' ⟨rfl, q, rfl⟩
        go_wp2
        go_ret2
        exact ⟨rfl, q, rfl⟩
      · have h4 : 0 ≤ t := by omega
        have h5 : (m : Int) ≤ t := by omega
        clear ht h0
        go_enter Try.func24, Try.ntmps24
        go_wp2_with fail
        refine C.out.mono ?_
        rintro e w' ⟨rfl, q, rfl⟩
        go_wp2
        go_ret2
        exact ⟨rfl, q, rfl⟩
  · have e1 : trkE n l t = chk n l := by unfold trkE; rw [if_neg hc]
    have e2 : hasV n l t = false := by unfold hasV; rw [e1, decide_eq_false hc]; rfl
    rw [e1, e2]
    have hne : (chk n l != 0) = true := by rw [bne_iff_ne]; exact hc
    have hne2 : (chk n l == 0) = false := beq_eq_false_iff_ne.2 hc
    obtain ⟨E, hE⟩ : ∃ E, E = chk n l := ⟨_, rfl⟩
    rw [← hE] at C hne hne2 ⊢
    have C := Lib.hid C
    clear h hb hc hE e1 e2
    go_enter Try.func24, Try.ntmps24
    go_wp2_with fail
    refine C.out.mono ?_
    rintro e w' ⟨rfl, q, rfl⟩
    go_wp2
    go_ret2
    exact ⟨rfl, q, rfl⟩
/-- The first error of two sets. -/
theorem rfirst_any (n : Int) (A : Option Addr) (k c : Nat) (a : List Int) (A' : Option Addr) (k' c' : Nat) (b : List Int) (w : World) (h : Arg w .u8 A k c a) (hb : ∀ z ∈ a, isByte z) (h' : Arg w .u8 A' k' c' b) (hb' : ∀ z ∈ b, isByte z) :
    Calls Try.prog 50 #[.int .i64 n, .slice A k c, .slice A' k' c'] w fun e w' => e = .returned (.int .i64 (bothE n a b)) ∧ ∃ q, w' = w.drewN q := by
  have C := rcheck_any n A k c a w h hb
  have D := fun q => rcheck_any n A' k' c' b (w.drewN q) (h'.below (below_drewN (Below.refl _ _) q)) hb'
  unfold bothE
  obtain ⟨F, hF⟩ : ∃ F, F = chk n b := ⟨_, rfl⟩
  rw [← hF] at D ⊢
  have D := Lib.hid D
  by_cases hc : chk n a = 0
  · rw [if_pos hc]
    rw [hc] at C
    have C := Lib.hid C
    clear h hb hc h' hb' hF
    go_enter Try.func50, Try.ntmps50
    go_wp2_with fail
    refine C.out.mono ?_
    rintro e w' ⟨rfl, q, rfl⟩
    go_wp2_with fail
    refine (D.out q).mono ?_
    rintro e w' ⟨rfl, q2, rfl⟩
    go_wp2
    go_ret
    exact ⟨rfl, q + q2, by simp⟩
  · rw [if_neg hc]
    have hne : (chk n a != 0) = true := by rw [bne_iff_ne]; exact hc
    obtain ⟨E, hE⟩ : ∃ E, E = chk n a := ⟨_, rfl⟩
    rw [← hE] at C hne ⊢
    have C := Lib.hid C
    clear h hb hc hE h' hb' hF
    go_enter Try.func50, Try.ntmps50
    go_wp2_with fail
    refine C.out.mono ?_
    rintro e w' ⟨rfl, q, rfl⟩
    go_wp2
    go_ret
    exact ⟨rfl, q, rfl⟩

end Go.Proofs.Ytpkecbejnpkieaa
