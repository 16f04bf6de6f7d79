/- Layer 7: what is found stands there, and what stands there is found. No statement is proved here. -/
import Derived.Test.YtghdcajojbbllaaPlL
namespace Go.Proofs.Ytghdcajojbbllaa
open Go.RowKit
set_option linter.unusedVariables false

theorem div_mul {x b : Int} (hb : 0 < b) : x / b * b ≤ x ∧ x < x / b * b + b ∧ x % b = x - x / b * b := by
  have h1 := Int.emod_nonneg x (b := b) (by omega)
  have h2 := Int.emod_lt_of_pos x hb
  have h3 := Int.emod_add_mul_ediv x b
  rw [Int.mul_comm] at h3
  omega
/-- A quotient below a bound. -/
theorem div_lt' {x b o : Int} (hb : 0 < b) (h0 : 0 ≤ x) (h1 : x < o * b) : 0 ≤ x / b ∧ x / b < o :=
  ⟨Int.ediv_nonneg h0 (by omega), Int.ediv_lt_of_lt_mul hb h1⟩

/-- The four ways of What, for a config that may be and a sector that is there. -/
theorem wha_ways {P T A M W Q x : Int} (h : mayC P T A M W Q) (he : whaE P T A M W Q x = 0) :
    0 ≤ x ∧ x < fE P T A ∧
    ((whaK P T A M W Q x = 1 ∧ whaA P T A M W Q x = 0 ∧ whaN P T A M W Q x = 0 ∧ x < 2) ∨
     (whaK P T A M W Q x = 2 ∧ areE P T A M W Q (whaA P T A M W Q x) (whaN P T A M W Q x) = 0 ∧ areN P T A M W Q (whaA P T A M W Q x) (whaN P T A M W Q x) = x) ∨
     (whaK P T A M W Q x = 3 ∧ pgeE P T A M W Q (whaA P T A M W Q x) (whaN P T A M W Q x) = 0 ∧ pgeN P T A M W Q (whaA P T A M W Q x) (whaN P T A M W Q x) = x) ∨
     (whaK P T A M W Q x = 4 ∧ traE P T A M W Q (whaA P T A M W Q x) (whaN P T A M W Q x) = 0 ∧ traN P T A M W Q (whaA P T A M W Q x) (whaN P T A M W Q x) ≤ x ∧ x < traN P T A M W Q (whaA P T A M W Q x) (whaN P T A M W Q x) + 4 ∧ 0 ≤ traN P T A M W Q (whaA P T A M W Q x) (whaN P T A M W Q x))) := by
  have hm := h
  have hb := bounds_may h
  obtain ⟨h1, h2, h3, h4, h5, h6, h7⟩ := h
  obtain ⟨b1, b2, b3, b4, b5, b6, b7⟩ := hb
  have e1 : fP A = 2 + 2 * A := rfl
  have e2 : fT P T A = 2 + 2 * A + P * pagC T := rfl
  have e3 : fE P T A = 2 + 2 * A + P * pagC T + 4 * P * T := rfl
  have hno : ¬ (x < 0 ∨ fE P T A ≤ x) := by
    intro hx
    unfold whaE at he
    rw [if_pos hm, if_pos hx] at he
    omega
  refine ⟨by omega, by omega, ?_⟩
  by_cases k1 : x < 2
  · left
    unfold whaK whaA whaN
    rw [if_pos hm, if_neg hno, if_pos k1, if_pos hm, if_neg hno, if_pos k1, if_pos hm, if_neg hno, if_pos k1]
    exact ⟨rfl, rfl, rfl, k1⟩
  · by_cases k2 : x < fP A
    · right; left
      have hK : whaK P T A M W Q x = 2 := by unfold whaK; rw [if_pos hm, if_neg hno, if_neg k1, if_pos k2]
      have hA : whaA P T A M W Q x = (x - 2) / A := by unfold whaA; rw [if_pos hm, if_neg hno, if_neg k1, if_pos k2]
      have hN : whaN P T A M W Q x = (x - 2) % A := by unfold whaN; rw [if_pos hm, if_neg hno, if_neg k1, if_pos k2]
      have d := div_mul (x := x - 2) (b := A) (by omega)
      have l := div_lt' (x := x - 2) (b := A) (o := 2) (by omega) (by omega) (by omega)
      rw [hK, hA, hN, d.2.2]
      obtain ⟨q, hq⟩ : ∃ q, q = (x - 2) / A := ⟨_, rfl⟩
      rw [← hq] at d l ⊢
      have c : 0 ≤ q ∧ q ≤ 1 ∧ 0 ≤ x - 2 - q * A ∧ x - 2 - q * A ≤ A - 1 := by omega
      refine ⟨rfl, ?_, ?_⟩
      · unfold areE; rw [if_pos hm, if_pos c]
      · unfold areN; rw [if_pos hm, if_pos c]; omega
    · by_cases k3 : x < fT P T A
      · right; right; left
        have hK : whaK P T A M W Q x = 3 := by unfold whaK; rw [if_pos hm, if_neg hno, if_neg k1, if_neg k2, if_pos k3]
        have hA : whaA P T A M W Q x = (x - fP A) / pagC T := by unfold whaA; rw [if_pos hm, if_neg hno, if_neg k1, if_neg k2, if_pos k3]
        have hN : whaN P T A M W Q x = (x - fP A) % pagC T := by unfold whaN; rw [if_pos hm, if_neg hno, if_neg k1, if_neg k2, if_pos k3]
        have d := div_mul (x := x - fP A) (b := pagC T) (by omega)
        have l := div_lt' (x := x - fP A) (b := pagC T) (o := P) (by omega) (by omega) (by omega)
        rw [hK, hA, hN, d.2.2]
        obtain ⟨q, hq⟩ : ∃ q, q = (x - fP A) / pagC T := ⟨_, rfl⟩
        rw [← hq] at d l ⊢
        have c : 0 ≤ q ∧ q ≤ P - 1 ∧ 0 ≤ x - fP A - q * pagC T ∧ x - fP A - q * pagC T ≤ pagC T - 1 := by omega
        refine ⟨rfl, ?_, ?_⟩
        · unfold pgeE; rw [if_pos hm, if_pos c]
        · unfold pgeN; rw [if_pos hm, if_pos c]; omega
      · right; right; right
        have hK : whaK P T A M W Q x = 4 := by unfold whaK; rw [if_pos hm, if_neg hno, if_neg k1, if_neg k2, if_neg k3]
        have hA : whaA P T A M W Q x = (x - fT P T A) / 4 / T := by unfold whaA; rw [if_pos hm, if_neg hno, if_neg k1, if_neg k2, if_neg k3]
        have hN : whaN P T A M W Q x = (x - fT P T A) / 4 % T := by unfold whaN; rw [if_pos hm, if_neg hno, if_neg k1, if_neg k2, if_neg k3]
        have d := div_mul (x := (x - fT P T A) / 4) (b := T) (by omega)
        have l := div_lt' (x := (x - fT P T A) / 4) (b := T) (o := P) (by omega) (by omega) (by omega)
        rw [hK, hA, hN, d.2.2]
        obtain ⟨y, hy⟩ : ∃ y, y = (x - fT P T A) / 4 := ⟨_, rfl⟩
        have hy2 : 4 * y ≤ x - fT P T A ∧ x - fT P T A < 4 * y + 4 := by omega
        rw [← hy] at d l ⊢
        obtain ⟨q, hq⟩ : ∃ q, q = y / T := ⟨_, rfl⟩
        rw [← hq] at d l ⊢
        have c : 0 ≤ q ∧ q ≤ P - 1 ∧ 0 ≤ y - q * T ∧ y - q * T ≤ T - 1 := by omega
        have e4 : q * T + (y - q * T) = y := by omega
        refine ⟨rfl, ?_, ?_⟩
        · unfold traE; rw [if_pos hm, if_pos c]
        · unfold traN; rw [if_pos hm, if_pos c, e4]; omega
/-- A sector that is told is one of a config that may be. -/
theorem wha_may {P T A M W Q x : Int} (he : whaE P T A M W Q x = 0) : mayC P T A M W Q := by
  unfold whaE at he
  by_cases h : mayC P T A M W Q
  · exact h
  · rw [if_neg h] at he; omega

/-- What is found stands there. -/
theorem are_back {P T A M W Q a n : Int} (he : areE P T A M W Q a n = 0) : whaE P T A M W Q (areN P T A M W Q a n) = 0 ∧ whaK P T A M W Q (areN P T A M W Q a n) = 2 ∧ whaA P T A M W Q (areN P T A M W Q a n) = a ∧ whaN P T A M W Q (areN P T A M W Q a n) = n := by
  unfold areE at he
  by_cases hm : mayC P T A M W Q
  · rw [if_pos hm] at he
    by_cases c : 0 ≤ a ∧ a ≤ 1 ∧ 0 ≤ n ∧ n ≤ A - 1
    · have hb := bounds_may hm
      have hN : areN P T A M W Q a n = 2 + a * A + n := by unfold areN; rw [if_pos hm, if_pos c]
      rw [hN]
      obtain ⟨h1, h2, h3, h4, h5, h6, h7⟩ := id hm
      obtain ⟨b1, b2, b3, b4, b5, b6, b7⟩ := hb
      have e1 : fP A = 2 + 2 * A := rfl
      have e3 : fE P T A = 2 + 2 * A + P * pagC T + 4 * P * T := rfl
      have hx : 0 ≤ a * A ∧ a * A + A ≤ 2 * A := by rcases mul3 c.1 (by omega) A with q | q | q | q <;> omega
      obtain ⟨x, hxx⟩ : ∃ x, x = 2 + a * A + n := ⟨_, rfl⟩
      rw [← hxx]
      have hno : ¬ (x < 0 ∨ fE P T A ≤ x) := by omega
      have k1 : ¬ x < 2 := by omega
      have k2 : x < fP A := by omega
      have d := div_at (q := 0) (x := x - 2) (o := a) (b := A) (by omega) (by omega) (by omega)
      unfold whaE whaK whaA whaN
      rw [if_pos hm, if_neg hno, if_pos hm, if_neg hno, if_neg k1, if_pos k2, if_pos hm, if_neg hno, if_neg k1, if_pos k2, if_pos hm, if_neg hno, if_neg k1, if_pos k2]
      exact ⟨rfl, rfl, d.1, by rw [d.2]; omega⟩
    · rw [if_neg c] at he; omega
  · rw [if_neg hm] at he; omega
theorem pge_back {P T A M W Q a n : Int} (he : pgeE P T A M W Q a n = 0) : whaE P T A M W Q (pgeN P T A M W Q a n) = 0 ∧ whaK P T A M W Q (pgeN P T A M W Q a n) = 3 ∧ whaA P T A M W Q (pgeN P T A M W Q a n) = a ∧ whaN P T A M W Q (pgeN P T A M W Q a n) = n := by
  unfold pgeE at he
  by_cases hm : mayC P T A M W Q
  · rw [if_pos hm] at he
    by_cases c : 0 ≤ a ∧ a ≤ P - 1 ∧ 0 ≤ n ∧ n ≤ pagC T - 1
    · have hb := bounds_may hm
      have hN : pgeN P T A M W Q a n = fP A + a * pagC T + n := by unfold pgeN; rw [if_pos hm, if_pos c]
      rw [hN]
      obtain ⟨h1, h2, h3, h4, h5, h6, h7⟩ := id hm
      obtain ⟨b1, b2, b3, b4, b5, b6, b7⟩ := hb
      have e1 : fP A = 2 + 2 * A := rfl
      have e2 : fT P T A = 2 + 2 * A + P * pagC T := rfl
      have e3 : fE P T A = 2 + 2 * A + P * pagC T + 4 * P * T := rfl
      have hx : 0 ≤ a * pagC T ∧ a * pagC T + pagC T ≤ P * pagC T := by
        refine ⟨Int.mul_nonneg c.1 (by omega), ?_⟩
        have : a * pagC T + pagC T = (a + 1) * pagC T := by rw [Int.add_mul]; omega
        rw [this]
        exact Int.mul_le_mul_of_nonneg_right (by omega) (by omega)
      obtain ⟨x, hxx⟩ : ∃ x, x = fP A + a * pagC T + n := ⟨_, rfl⟩
      rw [← hxx]
      have hno : ¬ (x < 0 ∨ fE P T A ≤ x) := by omega
      have k1 : ¬ x < 2 := by omega
      have k2 : ¬ x < fP A := by omega
      have k3 : x < fT P T A := by omega
      have d := div_at (q := 0) (x := x - fP A) (o := a) (b := pagC T) (by omega) (by omega) (by omega)
      unfold whaE whaK whaA whaN
      rw [if_pos hm, if_neg hno, if_pos hm, if_neg hno, if_neg k1, if_neg k2, if_pos k3, if_pos hm, if_neg hno, if_neg k1, if_neg k2, if_pos k3, if_pos hm, if_neg hno, if_neg k1, if_neg k2, if_pos k3]
      exact ⟨rfl, rfl, d.1, by rw [d.2]; omega⟩
    · rw [if_neg c] at he; omega
  · rw [if_neg hm] at he; omega
theorem tra_back {P T A M W Q a n : Int} (he : traE P T A M W Q a n = 0) (m : Int) (m0 : 0 ≤ m) (m1 : m < 4) : (0 ≤ traN P T A M W Q a n ∧ traN P T A M W Q a n ≤ 300) ∧ whaE P T A M W Q (traN P T A M W Q a n + m) = 0 ∧ whaK P T A M W Q (traN P T A M W Q a n + m) = 4 ∧ whaA P T A M W Q (traN P T A M W Q a n + m) = a ∧ whaN P T A M W Q (traN P T A M W Q a n + m) = n := by
  unfold traE at he
  by_cases hm : mayC P T A M W Q
  · rw [if_pos hm] at he
    by_cases c : 0 ≤ a ∧ a ≤ P - 1 ∧ 0 ≤ n ∧ n ≤ T - 1
    · have hb := bounds_may hm
      have hN : traN P T A M W Q a n = fT P T A + 4 * (a * T + n) := by unfold traN; rw [if_pos hm, if_pos c]
      have hE := fE_le hm
      rw [hN]
      obtain ⟨h1, h2, h3, h4, h5, h6, h7⟩ := id hm
      obtain ⟨b1, b2, b3, b4, b5, b6, b7⟩ := hb
      have e1 : fP A = 2 + 2 * A := rfl
      have e2 : fT P T A = 2 + 2 * A + P * pagC T := rfl
      have e3 : fE P T A = 2 + 2 * A + P * pagC T + 4 * P * T := rfl
      have hx : 0 ≤ a * T ∧ a * T + T ≤ P * T := by
        refine ⟨Int.mul_nonneg c.1 (by omega), ?_⟩
        have : a * T + T = (a + 1) * T := by rw [Int.add_mul]; omega
        rw [this]
        exact Int.mul_le_mul_of_nonneg_right (by omega) (by omega)
      obtain ⟨x, hxx⟩ : ∃ x, x = fT P T A + 4 * (a * T + n) + m := ⟨_, rfl⟩
      refine ⟨by omega, ?_⟩
      rw [← hxx]
      have hno : ¬ (x < 0 ∨ fE P T A ≤ x) := by omega
      have k1 : ¬ x < 2 := by omega
      have k2 : ¬ x < fP A := by omega
      have k3 : ¬ x < fT P T A := by omega
      have hy : (x - fT P T A) / 4 = a * T + n := by omega
      have d := div_at (q := 0) (x := a * T + n) (o := a) (b := T) (by omega) (by omega) (by omega)
      unfold whaE whaK whaA whaN
      rw [if_pos hm, if_neg hno, if_pos hm, if_neg hno, if_neg k1, if_neg k2, if_neg k3, if_pos hm, if_neg hno, if_neg k1, if_neg k2, if_neg k3, if_pos hm, if_neg hno, if_neg k1, if_neg k2, if_neg k3, hy]
      exact ⟨rfl, rfl, d.1, by rw [d.2]; omega⟩
    · rw [if_neg c] at he; omega
  · rw [if_neg hm] at he; omega

end Go.Proofs.Ytghdcajojbbllaa
