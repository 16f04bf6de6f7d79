/- Layer 1, NumOrder: the walk: of rows of the same sizes the lesser one is that of which the first number that differs is less. -/
import Derived.Test.YtkmimecakpghhaaNumG
namespace Go.Proofs.Ytkmimecakpghhaa
open Go.RowKit
set_option linter.unusedVariables false

/-- Byte by byte. -/
def ltI : List Int → List Int → Bool
  | _, [] => false
  | [], _ :: _ => true
  | x :: a, y :: b => decide (x < y) || (decide (x = y) && ltI a b)
/-- The first number that differs is less. -/
def lessL : List Int → List Int → Bool
  | x :: a, y :: b => if x = y then lessL a b else decide (x < y)
  | _, _ => false

theorem ltI_pre (p x y : List Int) : ltI (p ++ x) (p ++ y) = ltI x y := by
  induction p with
  | nil => rfl
  | cons a p ih => simp [ltI, ih]
theorem ltI_self (p : List Int) : ltI p p = false := by
  induction p with
  | nil => rfl
  | cons a p ih => simp [ltI, ih]
theorem emod_step (u m : Int) (hm : 0 < m) : u % (m * 256) = u / m % 256 * m + u % m := by
  have h1 := Int.mul_ediv_add_emod u m
  have h2 := Int.mul_ediv_add_emod (u / m) 256
  have b1 := Int.emod_nonneg u (show m ≠ 0 by omega)
  have b2 := Int.emod_lt_of_pos u hm
  have b3 := Int.emod_nonneg (u / m) (show (256 : Int) ≠ 0 by omega)
  have b4 := Int.emod_lt_of_pos (u / m) (show (0 : Int) < 256 by omega)
  generalize u / m % 256 = p at *
  generalize u % m = q at *
  generalize u / m / 256 = d at *
  have hp : p * m ≤ 255 * m := Int.mul_le_mul_of_nonneg_right (by omega) (by omega)
  have hp0 : 0 ≤ p * m := Int.mul_nonneg (by omega) (by omega)
  have e : u = p * m + q + m * 256 * d := by
    rw [← h1, ← h2, Int.mul_add, Int.mul_comm m p, ← Int.mul_assoc]
    omega
  rw [e, Int.add_mul_emod_self_left]
  exact Int.emod_eq_of_lt (by omega) (by omega)
theorem ltI_digs (k : Nat) (u v : Int) (r t : List Int) (hu : 0 ≤ u) (hv : 0 ≤ v) (hne : u % 256 ^ k ≠ v % 256 ^ k) :
    ltI (digs k u ++ r) (digs k v ++ t) = decide (u % 256 ^ k < v % 256 ^ k) := by
  induction k with
  | zero => simp at hne
  | succ k ih =>
    rw [digs_cons, digs_cons, List.cons_append, List.cons_append, ltI]
    have hp : (0 : Int) < 256 ^ k := Int.pow_pos (by omega)
    have e1 : u % 256 ^ (k + 1) = u / 256 ^ k % 256 * 256 ^ k + u % 256 ^ k := by
      rw [Int.pow_succ]
      exact emod_step u _ hp
    have e2 : v % 256 ^ (k + 1) = v / 256 ^ k % 256 * 256 ^ k + v % 256 ^ k := by
      rw [Int.pow_succ]
      exact emod_step v _ hp
    have b1 := Int.emod_nonneg u (show (256 : Int) ^ k ≠ 0 by omega)
    have b2 := Int.emod_lt_of_pos u hp
    have b3 := Int.emod_nonneg v (show (256 : Int) ^ k ≠ 0 by omega)
    have b4 := Int.emod_lt_of_pos v hp
    generalize u / 256 ^ k % 256 = p at *
    generalize v / 256 ^ k % 256 = q at *
    by_cases hpq : p = q
    · subst hpq
      rw [ih (by intro h; apply hne; rw [e1, e2, h]), e1, e2]
      simp
    · rw [e1, e2]
      have hd : decide (p = q) = false := decide_eq_false hpq
      rw [hd, Bool.false_and, Bool.or_false]
      generalize u % 256 ^ k = a at *
      generalize v % 256 ^ k = b at *
      generalize (256 : Int) ^ k = m at *
      rcases Int.lt_or_gt_of_ne hpq with h | h
      · have hm : (p + 1) * m ≤ q * m := Int.mul_le_mul_of_nonneg_right (by omega) (by omega)
        rw [Int.add_mul] at hm
        rw [decide_eq_true h, eq_comm, decide_eq_true_eq]
        omega
      · have hm : (q + 1) * m ≤ p * m := Int.mul_le_mul_of_nonneg_right (by omega) (by omega)
        rw [Int.add_mul] at hm
        rw [decide_eq_false (by omega), eq_comm, decide_eq_false_iff_not]
        omega
theorem digs_lt (k : Nat) (u v : Int) (r t : List Int) (hu : 0 ≤ u) (hv : 0 ≤ v) (fu : u / 256 ^ k = 0) (fv : v / 256 ^ k = 0) (hne : u ≠ v) : ltI (digs k u ++ r) (digs k v ++ t) = decide (u < v) := by
  have mu : u % 256 ^ k = u := Int.emod_eq_of_lt hu ((div_zero_iff u k hu).1 fu)
  have mv : v % 256 ^ k = v := Int.emod_eq_of_lt hv ((div_zero_iff v k hv).1 fv)
  have := ltI_digs k u v r t hu hv (by rw [mu, mv]; exact hne)
  rwa [mu, mv] at this

theorem rowTo_pre (l s : List Int) (k : Nat) : ∀ n, k ≤ n → ∃ r, rowTo l s n = rowTo l s k ++ r := by
  intro n
  induction n with
  | zero => intro h; exact ⟨[], by simp [show k = 0 from by omega]⟩
  | succ n ih =>
    intro h
    rcases Nat.lt_or_ge k (n + 1) with h1 | h1
    · obtain ⟨r, hr⟩ := ih (by omega)
      exact ⟨r ++ digs (szOf s n) (l.getD n 0), by rw [rowTo, hr, List.append_assoc]⟩
    · exact ⟨[], by simp [show k = n + 1 from by omega]⟩
theorem rowTo_same (a b s : List Int) : ∀ k, (∀ j, j < k → a.getD j 0 = b.getD j 0) → rowTo a s k = rowTo b s k := by
  intro k
  induction k with
  | zero => intro _; rfl
  | succ k ih => intro h; rw [rowTo, rowTo, ih (fun j hj => h j (by omega)), h k (by omega)]
/-- The first place where two lists part, if they do. -/
theorem first_diff (a b : List Int) (n : Nat) : (∀ j, j < n → a.getD j 0 = b.getD j 0) ∨ ∃ i, i < n ∧ (∀ j, j < i → a.getD j 0 = b.getD j 0) ∧ a.getD i 0 ≠ b.getD i 0 := by
  induction n with
  | zero => exact .inl (fun j h => by omega)
  | succ n ih =>
    rcases ih with h | ⟨i, hi, h⟩
    · by_cases e : a.getD n 0 = b.getD n 0
      · refine .inl (fun j hj => ?_)
        rcases Nat.lt_or_ge j n with h1 | h1
        · exact h j h1
        · rw [show j = n from by omega]; exact e
      · exact .inr ⟨n, by omega, h, e⟩
    · exact .inr ⟨i, by omega, h⟩
theorem lessL_at : ∀ (a b : List Int) (i : Nat), i < a.length → i < b.length → (∀ j, j < i → a.getD j 0 = b.getD j 0) → a.getD i 0 ≠ b.getD i 0 → lessL a b = decide (a.getD i 0 < b.getD i 0)
  | [], _, i, h, _, _, _ => by simp at h
  | _ :: _, [], i, _, h, _, _ => by simp at h
  | x :: a, y :: b, 0, _, _, _, hne => by simp at hne; simp [lessL, hne]
  | x :: a, y :: b, i + 1, h1, h2, hs, hne => by
    have e : x = y := by simpa using hs 0 (by omega)
    have := lessL_at a b i (by simpa using h1) (by simpa using h2) (fun j hj => by simpa using hs (j + 1) (by omega)) (by simpa using hne)
    simp only [lessL, e, if_true]
    simpa using this
theorem lessL_same : ∀ (a b : List Int), (∀ j, j < a.length → a.getD j 0 = b.getD j 0) → lessL a b = false
  | [], _, _ => by simp [lessL]
  | _ :: _, [], _ => by simp [lessL]
  | x :: a, y :: b, h => by
    have e : x = y := by simpa using h 0 (by simp)
    simp only [lessL, e, if_true]
    exact lessL_same a b fun j hj => by simpa using h (j + 1) (by simpa using hj)
theorem order {a b s : List Int} (h1 : wrE a s = 0) (h2 : wrE b s = 0) (ha : ∀ z ∈ a, isWord z) (hb : ∀ z ∈ b, isWord z) : ltI (wrB a s) (wrB b s) = lessL a b := by
  have k1 := wrE_zero h1
  have k2 := wrE_zero h2
  have e1 : wrB a s = rowTo a s s.length := by simp [wrB, h1]
  have e2 : wrB b s = rowTo b s s.length := by simp [wrB, h2]
  rw [e1, e2]
  rcases first_diff a b s.length with h | ⟨i, hi, hs, hne⟩
  · rw [rowTo_same a b s s.length h, ltI_self, lessL_same a b (fun j hj => h j (by omega))]
  · obtain ⟨r, hr⟩ := rowTo_pre a s (i + 1) s.length hi
    obtain ⟨t, ht⟩ := rowTo_pre b s (i + 1) s.length hi
    rw [hr, ht, rowTo, rowTo, rowTo_same a b s i hs, List.append_assoc, List.append_assoc, ltI_pre,
      digs_lt _ _ _ _ _ (getD_word ha i).1 (getD_word hb i).1 (fitsTo_at k1.2.2 hi) (fitsTo_at k2.2.2 hi) hne, lessL_at a b i (by omega) (by omega) hs hne]
theorem byte_lt {x y : Int} (hx : isByte x) (hy : isByte y) : (UInt8.ofNat x.toNat < UInt8.ofNat y.toNat) ↔ x < y := by
  unfold isByte at hx hy
  rw [UInt8.lt_iff_toNat_lt, UInt8.toNat_ofNat', UInt8.toNat_ofNat', Nat.mod_eq_of_lt (by omega), Nat.mod_eq_of_lt (by omega)]
  omega
theorem byte_eq {x y : Int} (hx : isByte x) (hy : isByte y) : (UInt8.ofNat x.toNat = UInt8.ofNat y.toNat) ↔ x = y := by
  unfold isByte at hx hy
  rw [← UInt8.toNat_inj, UInt8.toNat_ofNat', UInt8.toNat_ofNat', Nat.mod_eq_of_lt (by omega), Nat.mod_eq_of_lt (by omega)]
  omega
theorem bytesLess_nums : ∀ (x y : List Int), (∀ z ∈ x, isByte z) → (∀ z ∈ y, isByte z) → Op.bytesLess (x.map fun n => UInt8.ofNat n.toNat) (y.map fun n => UInt8.ofNat n.toNat) = ltI x y
  | [], [], _, _ => rfl
  | _ :: _, [], _, _ => rfl
  | [], _ :: _, _, _ => rfl
  | a :: x, b :: y, hx, hy => by
    have ih := bytesLess_nums x y (fun z h => hx z (by simp [h])) (fun z h => hy z (by simp [h]))
    have h1 := byte_lt (hx a (by simp)) (hy b (by simp))
    have h2 := byte_eq (hx a (by simp)) (hy b (by simp))
    simp only [List.map_cons, Op.bytesLess, ltI, ih, h1]
    congr 2
    rw [Bool.eq_iff_iff]
    simp [h2]

theorem str_less {x y : List Int} (hx : ∀ z ∈ x, isByte z) (hy : ∀ z ∈ y, isByte z) : Op.bytesLess (strOfNums x).toList (strOfNums y).toList = ltI x y := by
  rw [ByteArray.toList_eq, ByteArray.toList_eq, strOfNums_data, strOfNums_data]
  exact bytesLess_nums x y hx hy

set_option maxHeartbeats 400000 in
theorem less_any (A A2 : Option Addr) (n c c2 : Nat) (a b : List Int) (w : World) (B : Nat) (h : Seq w B A (ints .u64 a)) (h2 : Seq w B A2 (ints .u64 b)) (hl : a.length = n) (hl2 : b.length = n) (hn : n ≤ 1000000) :
    Calls Try.prog 17 #[.slice A n c, .slice A2 n c2] w fun e w' => e = .returned (.bool (lessL a b)) ∧ ∃ k, w' = w.drewN k := by
  have HL2 := Lib.hid hl2
  clear hl2
  subst hl
  go_enter Try.func17, Try.ntmps17
  go_wp2
  go_loopw [5] (fun i wr => ∃ k : Nat, k ≤ a.length ∧ i = .int .i64 k ∧ Hid (∀ j, j < k → a.getD j 0 = b.getD j 0) ∧ ∃ q, wr = w.drewN q) (fun i _ => a.length - (intOf i).toNat)
  case atStart => exact ⟨0, Nat.zero_le _, rfl, (fun j h => by omega), 0, rfl⟩
  case round =>
    obtain ⟨k, hk, rfl, hs, q, rfl⟩ := hrel
    by_cases hkn : k < a.length
    · obtain ⟨ba, oa, rfl, hba, hac⟩ := h.int hkn
      obtain ⟨bb, ob, rfl, hbb, hbc⟩ := h2.int (j := k) (by rw [HL2.out]; exact hkn)
      obtain ⟨u, hu⟩ : ∃ u, u = a.getD k 0 := ⟨_, rfl⟩
      obtain ⟨v, hv⟩ : ∃ v, v = b.getD k 0 := ⟨_, rfl⟩
      rw [← hu] at hac
      rw [← hv] at hbc
      have HU := Lib.hid hu
      have HV := Lib.hid hv
      clear hu hv h h2
      by_cases huv : u = v
      · have HE := Lib.hid huv
        have hne : (u != v) = false := by rw [huv]; simp
        clear huv
        go_wp2
        go_quiet (fail)
        go_wp2
        go_roundw
        case rel =>
          refine ⟨k + 1, by omega, by go_num, (fun j hj => ?_), _, rfl⟩
          rcases Nat.lt_or_ge j k with h1 | h1
          · exact hs.out j h1
          · rw [show j = k from by omega, ← HU.out, ← HV.out]; exact HE.out
        case measure => simp [intOf]; omega
      · have hne : (u != v) = true := by rw [bne_iff_ne]; exact huv
        have hr := lessL_at a b k hkn (by rw [HL2.out]; exact hkn) hs.out (by rw [← HU.out, ← HV.out]; exact huv)
        rw [← HU.out, ← HV.out] at hr
        have HR := Lib.hid hr
        clear huv hr
        go_wp2
        go_quiet (fail)
        go_wp2
        go_quiet (fail)
        go_wp2
        go_ret
        refine ⟨by rw [HR.out]; rfl, ?_⟩
        simp only [World.drewN_drewN]
        exact ⟨_, rfl⟩
    · obtain rfl : k = a.length := by omega
      have HR := Lib.hid (lessL_same a b hs.out)
      go_wp2
      go_ret
      exact ⟨by rw [HR.out]; rfl, q, rfl⟩

set_option maxHeartbeats 1600000 in
theorem walk_NumOrder (a0 : Option Addr) (len0 cap0 : Nat) (z0 : List Int) (a1 : Option Addr) (len1 cap1 : Nat) (z1 : List Int) (a2 : Option Addr) (len2 cap2 : Nat) (z2 : List Int) (w : World) (w0 : IsRow .u64 w a0 len0 cap0 z0) (w1 : IsRow .u64 w a1 len1 cap1 z1) (w2 : IsRow .i64 w a2 len2 cap2 z2) :
    Calls Try.prog 6 #[.slice a0 len0 cap0, .slice a1 len1 cap1, .slice a2 len2 cap2] w fun e w' => e = .returned (.bool true) ∧ Below w.heap.size w w' := by
  obtain ⟨a, ha, haw⟩ := w0.arg
  obtain ⟨b, hb, hbw⟩ := w1.arg
  obtain ⟨s, hs, _⟩ := w2.arg
  have HAW := Lib.hid (fun z hz => wf_word (haw z hz))
  have HBW := Lib.hid (fun z hz => wf_word (hbw z hz))
  have HA := Lib.hid ha
  have HB := Lib.hid hb
  have HS := Lib.hid hs
  clear ha hb hs haw hbw w0 w1 w2
  have AL := Lib.hid (alive_any w)
  by_cases g0 : 100 < len0
  · go_enter Try.func6, Try.ntmps6
    go_wp2_with fail
    refine AL.out.mono ?_
    rintro e w1 ⟨rfl, hb1⟩
    go_wp2
    go_ret
    exact ⟨rfl, hb1⟩
  by_cases g1 : 100 < len1
  · go_enter Try.func6, Try.ntmps6
    go_wp2_with fail
    refine AL.out.mono ?_
    rintro e w1 ⟨rfl, hb1⟩
    go_wp2
    go_ret
    exact ⟨rfl, hb1⟩
  by_cases g2 : 100 < len2
  · go_enter Try.func6, Try.ntmps6
    go_wp2_with fail
    refine AL.out.mono ?_
    rintro e w1 ⟨rfl, hb1⟩
    go_wp2
    go_ret
    exact ⟨rfl, hb1⟩
  go_enter Try.func6, Try.ntmps6
  go_wp2_with fail
  refine AL.out.mono ?_
  rintro e w1 ⟨rfl, hb1⟩
  have B1 := Lib.hid hb1
  clear hb1 AL
  go_wp2_with fail
  refine (write_gen (HA.out.below B1.out) (HS.out.below B1.out) (by omega) (by omega) HAW.out).mono ?_
  rintro e w2 ⟨A1, c1, rfl, hown, hbel⟩
  have B2 := Lib.hid (B1.out.trans (hbel.mono B1.out.size))
  have X := Lib.hid (Arg.own hown)
  clear hown hbel
  go_wp2_with fail
  refine (write_gen (HB.out.below B2.out) (HS.out.below B2.out) (by omega) (by omega) HBW.out).mono ?_
  rintro e w3 ⟨A2, c2, rfl, hown, hbel⟩
  have B3 := Lib.hid (B2.out.trans (hbel.mono B2.out.size))
  have X3 := Lib.hid (X.out.below hbel)
  have Y := Lib.hid (Arg.own hown)
  clear hown hbel
  by_cases hE1 : wrE a s = 0
  · by_cases hE2 : wrE b s = 0
    · have hlen : len1 = len0 := by have := (wrE_zero hE1).2.1; have := (wrE_zero hE2).2.1; have := HA.out.len; have := HB.out.len; omega
      subst hlen
      rw [hE1, hE2]
      have hx := fun q => run_str (P := Try.prog) (w3.drewN q) 22 9 5 Try.underlying22 Try.underlying5 Try.underlying9 (c := c1) (B := w3.heap.size) X3.out.seq rfl
      have hy := fun q => run_str (P := Try.prog) (w3.drewN q) 22 9 5 Try.underlying22 Try.underlying5 Try.underlying9 (c := c2) (B := w3.heap.size) Y.out.seq rfl
      have hlt := (str_less (wrB_byte a s) (wrB_byte b s)).trans (order hE1 hE2 HAW.out HBW.out)
      have HLESS := Lib.hid (fun q => less_any a0 a1 len1 cap0 cap1 a b (w3.drewN q) w3.heap.size (HA.out.below B3.out).seq (HB.out.below B3.out).seq HA.out.len HB.out.len (by omega))
      clear hE1 hE2
      go_wp2
      go_quiet ((go_at_call 17; exact Calls.quiet_of (HLESS.out _)))
      go_wp2
      go_ret
      exact ⟨rfl, below_drewN B3.out _⟩
    · have hne2 : (wrE b s != 0) = true := by rw [bne_iff_ne]; exact hE2
      rw [hE1]
      clear hE1 hE2
      go_wp2
      go_ret
      exact ⟨rfl, B3.out⟩
  · have hne : (wrE a s == 0) = false := beq_eq_false_iff_ne.2 hE1
    have hne2 : (wrE a s != 0) = true := by rw [bne_iff_ne]; exact hE1
    have hl : (wrB a s).length = 0 := by simp [wrB, hE1]
    rw [hl]
    clear hE1 hl
    go_wp2
    go_ret
    exact ⟨rfl, B3.out⟩

end Go.Proofs.Ytkmimecakpghhaa
