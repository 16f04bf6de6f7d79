/- Layer 1, NumJoined: the walk: a row of a list and more is both rows, one behind the other. -/
import Derived.Test.YtkmimecakpghhaaNumG
import Derived.Test.YtkmimecakpghhaaBase2
namespace Go.Proofs.Ytkmimecakpghhaa
open Go.RowKit
set_option linter.unusedVariables false

theorem getD_left (a b : List Int) {k : Nat} (h : k < a.length) : (a ++ b).getD k 0 = a.getD k 0 := by
  simp [List.getD, List.getElem?_append, h]
theorem getD_right (a b : List Int) (j : Nat) : (a ++ b).getD (a.length + j) 0 = b.getD j 0 := by
  rw [List.getD_eq_getElem?_getD, List.getD_eq_getElem?_getD, List.getElem?_append_right (by omega), Nat.add_sub_cancel_left]
theorem szOf_left (a b : List Int) {k : Nat} (h : k < a.length) : szOf (a ++ b) k = szOf a k := by unfold szOf; rw [getD_left a b h]
theorem szOf_right (a b : List Int) (j : Nat) : szOf (a ++ b) (a.length + j) = szOf b j := by unfold szOf; rw [getD_right]
theorem okTo_left (m n : List Int) : ∀ k, k ≤ m.length → okTo (m ++ n) k = okTo m k := by
  intro k
  induction k with
  | zero => intro _; rfl
  | succ k ih => intro hk; rw [okTo, okTo, ih (by omega), getD_left m n (by omega)]
theorem okTo_right (m n : List Int) (h : okTo m m.length = true) : ∀ j, okTo (m ++ n) (m.length + j) = okTo n j := by
  intro j
  induction j with
  | zero => rw [Nat.add_zero, okTo_left m n _ (Nat.le_refl _), h]; rfl
  | succ j ih => rw [← Nat.add_assoc, okTo, okTo, ih, getD_right]
theorem rowTo_left (a b m n : List Int) (h : a.length = m.length) : ∀ k, k ≤ m.length → rowTo (a ++ b) (m ++ n) k = rowTo a m k := by
  intro k
  induction k with
  | zero => intro _; rfl
  | succ k ih => intro hk; rw [rowTo, rowTo, ih (by omega), szOf_left m n (by omega), getD_left a b (by omega)]
theorem rowTo_right (a b m n : List Int) (h : a.length = m.length) : ∀ j, rowTo (a ++ b) (m ++ n) (m.length + j) = rowTo a m m.length ++ rowTo b n j := by
  intro j
  induction j with
  | zero => rw [Nat.add_zero, rowTo_left a b m n h _ (Nat.le_refl _)]; simp [rowTo]
  | succ j ih =>
    have e : (a ++ b).getD (m.length + j) 0 = b.getD j 0 := by rw [← h, getD_right]
    rw [← Nat.add_assoc, rowTo, rowTo, ih, szOf_right, e, List.append_assoc]
theorem fitsTo_left (a b m n : List Int) (h : a.length = m.length) : ∀ k, k ≤ m.length → fitsTo (a ++ b) (m ++ n) k = fitsTo a m k := by
  intro k
  induction k with
  | zero => intro _; rfl
  | succ k ih => intro hk; rw [fitsTo, fitsTo, ih (by omega), szOf_left m n (by omega), getD_left a b (by omega)]
theorem fitsTo_right (a b m n : List Int) (h : a.length = m.length) (hf : fitsTo a m m.length = true) : ∀ j, fitsTo (a ++ b) (m ++ n) (m.length + j) = fitsTo b n j := by
  intro j
  induction j with
  | zero => rw [Nat.add_zero, fitsTo_left a b m n h _ (Nat.le_refl _), hf]; rfl
  | succ j ih =>
    have e : (a ++ b).getD (m.length + j) 0 = b.getD j 0 := by rw [← h, getD_right]
    rw [← Nat.add_assoc, fitsTo, fitsTo, ih, szOf_right, e]
theorem joined {a b m n : List Int} (h1 : wrE a m = 0) (h2 : wrE b n = 0) (h16 : m.length + n.length ≤ 16) : wrE (a ++ b) (m ++ n) = 0 ∧ wrB (a ++ b) (m ++ n) = wrB a m ++ wrB b n := by
  have k1 := wrE_zero h1
  have k2 := wrE_zero h2
  have hok : okB (m ++ n) = true := by
    simp only [okB, List.length_append, okTo_right m n (okB_okTo k1.1), okB_okTo k2.1, Bool.and_true, decide_eq_true_eq]
    exact h16
  have e : wrE (a ++ b) (m ++ n) = 0 := by
    simp [wrE, hok, k1.2.1, k2.2.1, fitsTo_right a b m n k1.2.1 k1.2.2, k2.2.2]
  refine ⟨e, ?_⟩
  simp [wrB, e, h1, h2, rowTo_right a b m n k1.2.1]
theorem strOfNums_app (x y : List Int) : strOfNums (x ++ y) = strOfNums x ++ strOfNums y := by
  apply ByteArray.ext
  simp [strOfNums, ByteArray.data_append]

theorem jint_info : (Try.prog.info? 3).map (fun i => (i.zero, i.size, i.bytes)) = some (some (.int .i64 0), 1, 8) := by kernel_rfl

set_option maxRecDepth 100000 in
set_option maxHeartbeats 1600000 in
theorem walk_NumJoined (a0 : Option Addr) (len0 cap0 : Nat) (z0 : List Int) (a1 : Option Addr) (len1 cap1 : Nat) (z1 : List Int) (a2 : Option Addr) (len2 cap2 : Nat) (z2 : List Int) (a3 : Option Addr) (len3 cap3 : Nat) (z3 : List Int) (w : World) (w0 : IsRow .u64 w a0 len0 cap0 z0) (w1 : IsRow .u64 w a1 len1 cap1 z1) (w2 : IsRow .i64 w a2 len2 cap2 z2) (w3 : IsRow .i64 w a3 len3 cap3 z3) :
    Calls Try.prog 7 #[.slice a0 len0 cap0, .slice a1 len1 cap1, .slice a2 len2 cap2, .slice a3 len3 cap3] w fun e w' => e = .returned (.bool true) ∧ Below w.heap.size w w' := by
  obtain ⟨a, ha, haw⟩ := w0.arg
  obtain ⟨b, hb, hbw⟩ := w1.arg
  obtain ⟨m, hm, _⟩ := w2.arg
  obtain ⟨n, hn, _⟩ := w3.arg
  have HAW := Lib.hid (fun z hz => wf_word (haw z hz))
  have HBW := Lib.hid (fun z hz => wf_word (hbw z hz))
  have HA := Lib.hid ha
  have HB := Lib.hid hb
  have HM := Lib.hid hm
  have HN := Lib.hid hn
  clear ha hb hm hn haw hbw w0 w1 w2 w3
  have AL := Lib.hid (alive_any w)
  by_cases g0 : 100 < len0
  · go_enter Try.func7, Try.ntmps7
    go_wp2_with fail
    refine AL.out.mono ?_
    rintro e w1 ⟨rfl, hb1⟩
    go_wp2
    go_ret
    exact ⟨rfl, hb1⟩
  by_cases g1 : 100 < len1
  · go_enter Try.func7, Try.ntmps7
    go_wp2_with fail
    refine AL.out.mono ?_
    rintro e w1 ⟨rfl, hb1⟩
    go_wp2
    go_ret
    exact ⟨rfl, hb1⟩
  by_cases g2 : 100 < len2
  · go_enter Try.func7, Try.ntmps7
    go_wp2_with fail
    refine AL.out.mono ?_
    rintro e w1 ⟨rfl, hb1⟩
    go_wp2
    go_ret
    exact ⟨rfl, hb1⟩
  by_cases g3 : 100 < len3
  · go_enter Try.func7, Try.ntmps7
    go_wp2_with fail
    refine AL.out.mono ?_
    rintro e w1 ⟨rfl, hb1⟩
    go_wp2
    go_ret
    exact ⟨rfl, hb1⟩
  obtain ⟨iw, hiw, hwz, hw1, hw2⟩ := info_parts rword_info
  obtain ⟨ii, hii, hiz, hi1, hi2⟩ := info_parts jint_info
  have hml : (1000 : Nat) ≤ maxLen := by decide
  go_enter Try.func7, Try.ntmps7
  go_wp2_with fail
  refine AL.out.mono ?_
  rintro e w1 ⟨rfl, hb1⟩
  have B1 := Lib.hid hb1
  clear hb1 AL
  go_wp2_with fail
  refine (write_gen (HA.out.below B1.out) (HM.out.below B1.out) (by omega) (by omega) HAW.out).mono ?_
  rintro e w2 ⟨A1, c1, rfl, hown, hbel⟩
  have B2 := Lib.hid (B1.out.trans (hbel.mono B1.out.size))
  have X := Lib.hid (Arg.own hown)
  clear hown hbel
  go_wp2_with fail
  refine (write_gen (HB.out.below B2.out) (HN.out.below B2.out) (by omega) (by omega) HBW.out).mono ?_
  rintro e w3 ⟨A2, c2, rfl, hown, hbel⟩
  have B3 := Lib.hid (B2.out.trans (hbel.mono B2.out.size))
  have X3 := Lib.hid (X.out.below hbel)
  have Y := Lib.hid (Arg.own hown)
  clear hown hbel
  go_wp2_with (first
    | (at_builtin; refine wpList_dup w3 rfl (.tmp 53) (.tmp 54) _ rfl 26 iw _ 8 Try.underlying27 hiw hwz hw1 hw2 rfl rfl a0 len0 cap0 (ints .u64 a) rfl (by rw [ints_length, HA.out.len]) (HA.out.below B3.out).seq (ints_one _ _) (by omega) (by omega) ?_; intro A4 c4 w4 hown4 hbel4; have O4 := Lib.hid hown4; have B4 := Lib.hid hbel4; have hs4 := hbel4.size; clear hown4 hbel4)
    | (at_builtin; refine wpList_app w4 rfl (.tmp 55) (.tmp 56) _ rfl w3.heap.size 26 iw _ 8 Try.underlying27 hiw hwz hw1 hw2 rfl (.slice A4 len0 c4) len0 _ rfl O4.out _ a1 len1 cap1 (ints .u64 b) rfl (by rw [ints_length, HB.out.len]) ((HB.out.below B3.out).below B4.out).seq (ints_one _ _) (by omega) (by omega) hs4 ?_; intro v5 w5 hown5 hg5 _; obtain ⟨A5, c5, rfl⟩ := owns_slice hown5; have O5 := Lib.hid hown5; have B5 := Lib.hid (B4.out.grown hg5 hs4 (fun g e => (O4.out.lt g e).1)); have hs5 := B5.out.size; clear hown5 hg5)
    | (at_builtin; refine wpList_dup w5 rfl (.tmp 58) (.tmp 59) _ rfl 3 ii _ 8 Try.underlying28 hii hiz hi1 hi2 rfl rfl a2 len2 cap2 (ints .i64 m) rfl (by rw [ints_length, HM.out.len]) ((HM.out.below B3.out).below B5.out).seq (ints_one _ _) (by omega) (by omega) ?_; intro A6 c6 w6 hown6 hbel6; have O6 := Lib.hid hown6; have B6 := Lib.hid hbel6; have hs6 := hbel6.size; clear hown6 hbel6)
    | (at_builtin; refine wpList_app w6 rfl (.tmp 60) (.tmp 61) _ rfl w5.heap.size 3 ii _ 8 Try.underlying28 hii hiz hi1 hi2 rfl (.slice A6 len2 c6) len2 _ rfl O6.out _ a3 len3 cap3 (ints .i64 n) rfl (by rw [ints_length, HN.out.len]) (((HN.out.below B3.out).below B5.out).below B6.out).seq (ints_one _ _) (by omega) (by omega) hs6 ?_; intro v7 w7 hown7 hg7 _; obtain ⟨A7, c7, rfl⟩ := owns_slice hown7; have O7 := Lib.hid hown7; have B7 := Lib.hid (B6.out.grown hg7 hs6 (fun g e => (O6.out.lt g e).1)); have hs7 := B7.out.size; clear hown7 hg7))
  have AB := Lib.hid (Arg.own (w := w7) (k := .u64) (zs := a ++ b) (by rw [ints_app]; exact owns_below O5.out B7.out))
  have MN := Lib.hid (Arg.own (w := w7) (k := .i64) (zs := m ++ n) (by rw [ints_app]; exact O7.out))
  have B37 := Lib.hid (B5.out.trans (B7.out.mono hs5))
  refine (write_gen AB.out MN.out (by omega) (by omega) (by intro z hz; rcases List.mem_append.1 hz with h | h; exact HAW.out z h; exact HBW.out z h)).mono ?_
  rintro e w8 ⟨A8, c8, rfl, hown, hbel⟩
  have B38 := Lib.hid (B37.out.trans (hbel.mono B37.out.size))
  have Z := Lib.hid (Arg.own hown)
  have BF := Lib.hid (B3.out.trans (B38.out.mono B3.out.size))
  clear hown hbel AB MN O4 O5 O6 O7 B4 B5 B6 B7 B37
  by_cases hE1 : wrE a m = 0
  · by_cases hE2 : wrE b n = 0
    · by_cases h16 : m.length + n.length ≤ 16
      · have hj := joined hE1 hE2 h16
        have hmn : len2 + len3 ≤ 16 := by have := HM.out.len; have := HN.out.len; omega
        rw [hj.2] at Z
        rw [hj.1, hj.2, hE1, hE2]
        have hx := run_str (P := Try.prog) w8 22 9 5 Try.underlying22 Try.underlying5 Try.underlying9 (c := c1) (X3.out.below B38.out).seq rfl
        have hy := run_str (P := Try.prog) w8 22 9 5 Try.underlying22 Try.underlying5 Try.underlying9 (c := c2) (Y.out.below B38.out).seq rfl
        have hz := run_str (P := Try.prog) w8 22 9 5 Try.underlying22 Try.underlying5 Try.underlying9 (c := c8) Z.out.seq rfl
        rw [strOfNums_app, List.length_append] at hz
        have sx : (strOfNums (wrB a m)).size ≤ 128 := by rw [strOfNums_size]; exact wrB_length a m
        have sy : (strOfNums (wrB b n)).size ≤ 128 := by rw [strOfNums_size]; exact wrB_length b n
        clear hj h16 hE1 hE2
        go_wp2
        go_ret
        exact ⟨rfl, BF.out⟩
      · have hmn : 16 < len2 + len3 := by have := HM.out.len; have := HN.out.len; omega
        rw [hE1, hE2]
        clear h16 hE1 hE2
        go_wp2
        go_ret
        exact ⟨rfl, BF.out⟩
    · have hne : (wrE b n == 0) = false := beq_eq_false_iff_ne.2 hE2
      have hne2 : (wrE b n != 0) = true := by rw [bne_iff_ne]; exact hE2
      rw [hE1]
      clear hE1 hE2
      go_wp2
      go_ret
      exact ⟨rfl, BF.out⟩
  · have hne : (wrE a m == 0) = false := beq_eq_false_iff_ne.2 hE1
    have hne2 : (wrE a m != 0) = true := by rw [bne_iff_ne]; exact hE1
    have hl : (wrB a m).length = 0 := by simp [wrB, hE1]
    rw [hl]
    clear hE1 hl
    go_wp2
    go_ret
    exact ⟨rfl, BF.out⟩

end Go.Proofs.Ytkmimecakpghhaa
