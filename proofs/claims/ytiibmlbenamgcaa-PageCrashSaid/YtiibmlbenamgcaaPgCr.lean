/- Layer 13, PageCrash: what it asks of lists. -/
import Derived.Test.YtiibmlbenamgcaaPgP4
namespace Go.Proofs.Ytiibmlbenamgcaa
open Go.RowKit
set_option linter.unusedVariables false
set_option maxRecDepth 100000

theorem px_at {P T A M W Q p n b : Int} (h : pxE P T A M W Q p n b = 0) : (mayC P T A M W Q ∧ 0 ≤ p ∧ p < P ∧ 0 ≤ n ∧ n < pagC T) ∧ subP b (fulP T n.toNat) ∧ pxT P T A M W Q p n b = pgSec p n b ∧ pxN P T A M W Q p n b = atP T A p n := by
  have h1 : pgeE P T A M W Q p n = 0 ∧ subP b (fulP T n.toNat) := by
    have h2 := h
    unfold pxE at h2
    split at h2
    · split at h2
      · exact ⟨by assumption, by assumption⟩
      · cases h2
    · rename_i h3; exact absurd h2 h3
  exact ⟨pge_zero h1.1, h1.2, if_pos h, if_pos h⟩
theorem pxT_small (P T A M W Q p n : Int) {b : Int} (hb : isByte b) : (∀ z ∈ pxT P T A M W Q p n b, isByte z) ∧ (pxT P T A M W Q p n b).length ≤ 100 := by
  by_cases h : pxE P T A M W Q p n b = 0
  · obtain ⟨⟨hc, h0, h1, h2, h3⟩, _, ht, _⟩ := px_at h
    rw [ht]
    refine ⟨fun z hz => ?_, by rw [pgSec_len]; decide⟩
    have hg := pag_is hc
    unfold mayC at hc
    unfold pgSec at hz
    rcases List.mem_append.1 hz with hz | hz
    · simp only [List.mem_cons, List.not_mem_nil, or_false] at hz
      rcases hz with rfl | rfl | rfl | rfl
      · exact ⟨by decide, by decide⟩
      · exact ⟨h0, by omega⟩
      · exact ⟨h2, by omega⟩
      · exact hb
    · rw [List.eq_of_mem_replicate hz]
      exact ⟨by decide, by decide⟩
  · rw [show pxT P T A M W Q p n b = [] from if_neg h]
    exact ⟨fun z hz => absurd hz List.not_mem_nil, Nat.zero_le _⟩
theorem mk_zero {P T A M W Q p : Int} {S : List Sec} {C : List Pnd} (h : mkE P T A M W Q S C p = 0) : mayT P T A M W Q S C ∧ 0 ≤ p ∧ p < P := by
  unfold mkE at h
  split at h
  · split at h
    · rename_i h1 h2; exact ⟨h1, h2⟩
    · cases h
  · cases h
theorem mk_len (P T A M W Q p : Int) (S : List Sec) (C : List Pnd) : (mkB P T A M W Q S C p).length ≤ 2 := by
  unfold mkB
  split
  · rw [mk_length]
    have := pagC_or T
    omega
  · exact Nat.zero_le _

/-- All that PageCrash asks, in plain words. -/
theorem pc_all {P T A M W Q p b : Int} {n : Nat} {S : List Sec} (hE : mkE P T A M W Q S [] p = 0) (h0 : pxE P T A M W Q p n b = 0) (F : List Int) {x : Int} {t : Txt} (hx : x = pxN P T A M W Q p n b) (ht : t = pxT P T A M W Q p n b) :
    (wrE S [] x t = 0 ∧ wrS S [] x t = S ∧ wrC S [] x t = [(x, t)]) ∧ mayD S [(x, t)] = true ∧ (t.length = 32 ∧ 0 ≤ x ∧ x < (S.length : Int)) ∧
    (mayT P T A M W Q (crS S [(x, t)] F) [] ∧ mayT P T A M W Q (flS S [(x, t)]) []) ∧ ((crS S [(x, t)] F).length = S.length ∧ (flS S [(x, t)]).length = S.length) ∧
    (∀ j : Nat, j < (pagC T).toNat →
      (j ≠ n → (mkL T A (crS S [(x, t)] F) [] p (pagC T).toNat).getD j 0 = (mkL T A S [] p (pagC T).toNat).getD j 0 ∧ (mkL T A (flS S [(x, t)]) [] p (pagC T).toNat).getD j 0 = (mkL T A S [] p (pagC T).toNat).getD j 0) ∧
      (j = n → ((mkL T A (crS S [(x, t)] F) [] p (pagC T).toNat).getD j 0 = (mkL T A S [] p (pagC T).toNat).getD j 0 ∨ (mkL T A (crS S [(x, t)] F) [] p (pagC T).toNat).getD j 0 = b ∨ (mkL T A (crS S [(x, t)] F) [] p (pagC T).toNat).getD j 0 = (allB T).getD j 0) ∧ (mkL T A (flS S [(x, t)]) [] p (pagC T).toNat).getD j 0 = b)) ∧
    ∀ q, mkE P T A M W Q (crS S [(x, t)] F) [] q = mkE P T A M W Q S [] q ∧ (q ≠ p → mkB P T A M W Q (crS S [(x, t)] F) [] q = mkB P T A M W Q S [] q) := by
  obtain ⟨hm, hp⟩ := mk_zero hE
  obtain ⟨⟨hc, _, _, hn0, hn1⟩, hs, htt, hxx⟩ := px_at h0
  rw [hxx] at hx
  rw [htt] at ht
  rw [Int.toNat_natCast] at hs
  have hat := at_page hc hp (m := (n : Int)) ⟨hn0, hn1⟩
  have hxr : 0 ≤ x ∧ x < (S.length : Int) := by
    rw [hx, hm.2.2]
    exact ⟨hat.2.2.1, hat.2.2.2⟩
  have htl : t.length = 32 := by rw [ht]; exact pgSec_len _ _
  have hmd := (mayD_iff S []).1 hm.2.1
  have hD : mayD S [(x, t)] = true := by
    rw [mayD_iff]
    refine ⟨⟨hmd.1.1, hmd.1.2.1, show 1 ≤ 64 by decide⟩, hmd.2.1, fun c hc => ?_⟩
    rw [List.mem_singleton] at hc
    subst hc
    exact ⟨hxr.1, hxr.2, htl⟩
  have hw : wrE S [] x t = 0 := by
    have hA : askE S [] x = 0 := by
      unfold askE
      rw [if_pos hm.2.1, if_neg (by omega)]
    unfold wrE
    rw [if_pos hA, if_pos htl, if_neg (by decide)]
  have hcm := cr_may hD F
  have hfm : mayD (flS S [(x, t)]) [] = true ∧ (flS S [(x, t)]).length = S.length := cr_may hD _
  have m3 : mayT P T A M W Q (crS S [(x, t)] F) [] := ⟨hm.1, hcm.1, by rw [hcm.2]; exact hm.2.2⟩
  have m4 : mayT P T A M W Q (flS S [(x, t)]) [] := ⟨hm.1, hfm.1, by rw [hfm.2]; exact hm.2.2⟩
  have key := page_crash (n := n) hm hp hn1 hs (by rw [← hx, ← ht]; exact hD) F
  rw [← hx, ← ht] at key
  refine ⟨⟨hw, if_pos hw, if_pos hw⟩, hD, ⟨htl, hxr⟩, ⟨m3, m4⟩, ⟨hcm.2, hfm.2⟩, fun j hj => ?_, fun q => ?_⟩
  · exact key.1 j (by omega)
  · have e1 : mkE P T A M W Q (crS S [(x, t)] F) [] q = if 0 ≤ q ∧ q < P then 0 else 2 := if_pos m3
    have e2 : mkE P T A M W Q S [] q = if 0 ≤ q ∧ q < P then 0 else 2 := if_pos hm
    refine ⟨by rw [e1, e2], fun hne => ?_⟩
    unfold mkB
    rw [e1, e2]
    by_cases hq : 0 ≤ q ∧ q < P
    · rw [if_pos hq, if_pos rfl, if_pos rfl]
      exact key.2 q hq hne
    · rw [if_neg hq, if_neg (by decide), if_neg (by decide)]

end Go.Proofs.Ytiibmlbenamgcaa
