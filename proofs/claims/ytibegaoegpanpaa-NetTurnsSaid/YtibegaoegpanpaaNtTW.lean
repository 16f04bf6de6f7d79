/- Layer 16, NetTurns: the walk, told of what the program's calls do. No statement is proved here. -/
import Derived.Test.YtibegaoegpanpaaNtA
import Derived.Test.YtibegaoegpanpaaNtL
import Derived.Deep.QuietTactic
import Derived.BigQuiet
namespace Go.Proofs.Ytibegaoegpanpaa
open Go.RowKit
set_option linter.unusedVariables false
set_option maxRecDepth 100000

theorem twL_long {q : List Text} {i : Int} (h : q.length < (twL q i).length) : (twL q i).length = q.length + 1 ∧ 0 < q.length ∧ (twL q i).take q.length = q := by
  unfold twL at h ⊢
  by_cases hE : ntE2 q i = 0
  · rw [if_pos hE] at h ⊢
    obtain ⟨_, k, _, hk⟩ := ntE2_zero hE
    unfold sentN at h ⊢
    by_cases h64 : q.length < 64
    · rw [if_pos h64] at h ⊢
      exact ⟨by rw [List.length_append]; rfl, by omega, by rw [List.take_append_of_le_length (Nat.le_refl _), List.take_length]⟩
    · rw [if_neg h64] at h
      omega
  · rw [if_neg hE] at h
    cases h
theorem tkB_byte {w : World} {A : Option Addr} {n c : Nat} {q : List Text} (h : Texts w A n c q) (i : Int) : ∀ z ∈ tkB q i, isByte z := by
  unfold tkB
  split
  · exact h.byte_at _
  · simp
theorem twL_at {q L : List Text} (h : L.take q.length = q) {k : Nat} (hk : k < q.length) : L.getD k [] = q.getD k [] := by
  have e : (L.take q.length)[k]? = L[k]? := by rw [List.getElem?_take, if_pos hk]
  rw [h] at e
  rw [List.getD_eq_getElem?_getD, List.getD_eq_getElem?_getD, e]

set_option maxHeartbeats 1600000 in
theorem turns16_great (ND : NetDoes) (A : Option Addr) (n c : Nat) (q : List Text) (A' : Option Addr) (n' c' : Nat) (q2 : List Text) (Ab : Option Addr) (nb cb : Nat) (b : Text) (i : Int) (w : World) (hq : Texts w A n c q) (ho : Texts w A' n' c' q2) (hb : Arg w .u8 Ab nb cb b) (hby : ∀ z ∈ b, isByte z) (hg : greatB q = true ∨ greatB q2 = true ∨ 200 < nb) :
    Calls Try.prog 4 #[.slice A n c, .slice A' n' c', .slice Ab nb cb, .int .i64 i] w fun e w' => e = .returned (.bool true) ∧ Below w.heap.size w w' := by
  have G1 := Lib.hid (great16_any A n c q w hq)
  have G2 := Lib.hid (great16_any A' n' c' q2 w ho)
  rcases h1 : greatB q with _ | _
  rotate_left
  · rw [h1] at G1
    clear hg hq ho hb hby h1
    go_enter Try.func4, Try.ntmps4
    go_wp2_with fail
    refine G1.out.mono ?_
    rintro e w1 ⟨rfl, rfl⟩
    go_wp2
    go_ret
    exact ⟨rfl, Below.refl _ _⟩
  rw [h1] at G1
  rcases h2 : greatB q2 with _ | _
  rotate_left
  · rw [h2] at G2
    clear hg hq ho hb hby h1 h2
    go_enter Try.func4, Try.ntmps4
    go_wp2_with fail
    refine G1.out.mono ?_
    rintro e w1 ⟨rfl, rfl⟩
    go_wp2_with fail
    refine G2.out.mono ?_
    rintro e w1 ⟨rfl, rfl⟩
    go_wp2
    go_ret
    exact ⟨rfl, Below.refl _ _⟩
  rw [h2] at G2
  have h3 : (200 : Int) < (nb : Int) := by
    rcases hg with h | h | h
    · rw [h1] at h; cases h
    · rw [h2] at h; cases h
    · omega
  clear hg hq ho hb hby h1 h2
  go_enter Try.func4, Try.ntmps4
  go_wp2_with fail
  refine G1.out.mono ?_
  rintro e w1 ⟨rfl, rfl⟩
  go_wp2_with fail
  refine G2.out.mono ?_
  rintro e w1 ⟨rfl, rfl⟩
  go_wp2
  go_ret
  exact ⟨rfl, Below.refl _ _⟩

set_option maxHeartbeats 12800000 in
theorem turns16_main (ND : NetDoes) (A : Option Addr) (n c : Nat) (q : List Text) (A' : Option Addr) (n' c' : Nat) (q2 : List Text) (Ab : Option Addr) (nb cb : Nat) (b : Text) (i : Int) (w : World) (hq : Texts w A n c q) (ho : Texts w A' n' c' q2) (hb : Arg w .u8 Ab nb cb b) (hby : ∀ z ∈ b, isByte z) (h1 : greatB q = false) (h2 : greatB q2 = false) (h3 : nb ≤ 200) :
    Calls Try.prog 4 #[.slice A n c, .slice A' n' c', .slice Ab nb cb, .int .i64 i] w fun e w' => e = .returned (.bool true) ∧ Below w.heap.size w w' := by
  obtain ⟨ib, hib, hbz, hb1, hb2⟩ := info_parts byte_info
  have hml : (1000 : Nat) ≤ maxLen := by decide
  have hs := small_of h1
  have hs2 := small_of h2
  have G1 := Lib.hid (great16_any A n c q w hq)
  have G2 := Lib.hid (great16_any A' n' c' q2 w ho)
  rw [h1] at G1
  rw [h2] at G2
  have h3i : ¬ (200 : Int) < (nb : Int) := by omega
  have TA := Lib.hid (twinAll_any A n c q w hq hs)
  have HS := Lib.hid hs
  have HS2 := Lib.hid hs2
  have TQ := Lib.hid hq
  have TO := Lib.hid ho
  have TB := Lib.hid hb
  have HBY := Lib.hid hby
  have HL := Lib.hid hq.len
  have hn100 : n ≤ 100 := by have := hs.many; have := hq.len; omega
  have PP := Lib.hid ND
  have SM1 := Lib.hid (hs.sd (b := b) (by have := hb.len; omega))
  have SM2 := Lib.hid (hs.tk i)
  have SM3 := Lib.hid (hs.tw i)
  have LB2 := Lib.hid (tkB_le hs i)
  have LNG := Lib.hid (twL_long (q := q) (i := i))
  obtain ⟨E1, hE1⟩ : ∃ x, x = ntE q := ⟨_, rfl⟩
  obtain ⟨E2, hE2⟩ : ∃ x, x = ntE2 q i := ⟨_, rfl⟩
  obtain ⟨L1, hL1⟩ : ∃ x, x = sdL q b := ⟨_, rfl⟩
  obtain ⟨L2, hL2⟩ : ∃ x, x = tkL q i := ⟨_, rfl⟩
  obtain ⟨L3, hL3⟩ : ∃ x, x = twL q i := ⟨_, rfl⟩
  obtain ⟨b2, hb2'⟩ : ∃ x, x = tkB q i := ⟨_, rfl⟩
  have HE1 := Lib.hid hE1
  have HE2 := Lib.hid hE2
  have HL1 := Lib.hid hL1
  have HL2 := Lib.hid hL2
  have HL3 := Lib.hid hL3
  have HB2 := Lib.hid hb2'
  rw [← hL1] at SM1
  rw [← hL2] at SM2
  rw [← hL3] at SM3 LNG
  rw [← hb2'] at LB2
  obtain ⟨m1, hm1⟩ : ∃ x, x = L1.length := ⟨_, rfl⟩
  obtain ⟨m2, hm2⟩ : ∃ x, x = L2.length := ⟨_, rfl⟩
  obtain ⟨m3, hm3⟩ : ∃ x, x = L3.length := ⟨_, rfl⟩
  obtain ⟨mb, hmb⟩ : ∃ x, x = b2.length := ⟨_, rfl⟩
  have HM1 := Lib.hid hm1
  have HM2 := Lib.hid hm2
  have HM3 := Lib.hid hm3
  have HMB := Lib.hid hmb
  have hm1l : m1 ≤ 100 := by rw [hm1]; exact SM1.out.many
  have hm2l : m2 ≤ 100 := by rw [hm2]; exact SM2.out.many
  have hm3l : m3 ≤ 100 := by rw [hm3]; exact SM3.out.many
  have hmbl : mb ≤ 200 := by rw [hmb]; exact LB2.out
  clear hq ho hb hby hs hs2 h1 h2 ND hE1 hE2 hL1 hL2 hL3 hb2' hm1 hm2 hm3 hmb
  go_enter Try.func4, Try.ntmps4
  go_wp2_with fail
  refine G1.out.mono ?_
  rintro e w1 ⟨rfl, rfl⟩
  go_wp2_with fail
  refine G2.out.mono ?_
  rintro e w1 ⟨rfl, rfl⟩
  go_wp2_with fail
  clear G1 G2
  refine TA.out.mono ?_
  rintro e w1 ⟨A1, c1, rfl, hown, hbb⟩
  have OW := Lib.hid hown
  have B := Lib.hid hbb
  have TB1 := Lib.hid (TB.out.below hbb)
  have HBY2 := Lib.hid (show ∀ z ∈ b2, isByte z by rw [HB2.out]; exact tkB_byte TQ.out i)
  have LBB := Lib.hid (show (ints .u8 b).length = nb by rw [ints_length]; exact TB.out.len)
  clear hown hbb TA
  go_wp2_with (first
    | (at_builtin; (refine wpList_dup_g w1 rfl (.tmp 42) (.tmp 43) _ rfl 5 ib _ 1 Try.underlying26 hib hbz hb1 hb2 rfl rfl Ab nb cb (ints .u8 b) rfl LBB.out TB1.out.seq (ints_one _ _) (by omega) (by omega) ?_); intro A2 c2 w2 hown2 hbel2; have O2 := Lib.hid hown2; have B2 := Lib.hid hbel2; clear hown2 hbel2)
    | fail)
  have TQ := Lib.hid (TQ.out.below (B.out.trans (B2.out.mono B.out.size)))
  have TO := Lib.hid (TO.out.below (B.out.trans (B2.out.mono B.out.size)))
  have TB := Lib.hid (TB1.out.below B2.out)
  have OW := Lib.hid (Texts.of_own (OW.out.below B2.out))
  have MI := Lib.hid (Arg.own O2.out)
  have B := Lib.hid (B.out.trans (B2.out.mono B.out.size))
  have Z := Lib.hid (show Below w2.heap.size w2 w2 from Below.refl _ _)
  clear O2 B2 TB1
  have N := Lib.hid (PP.out.send A1 n c1 q A2 nb c2 b w2 OW.out HS.out MI.out HBY.out h3)
  go_wp2_with fail
  refine N.out.mono ?_
  intro e w3 hout
  obtain ⟨A3, c3, rfl, hown, hbb⟩ := hout.is HL1.out.symm HE1.out.symm HM1.out.symm
  have Z := Lib.hid (Z.out.trans (hbb.mono Z.out.size))
  have z3 : w2.heap.size ≤ w3.heap.size := hbb.size
  have X := Lib.hid (OwnIn.of hown)
  clear hown
  clear N hout hbb
  have N := Lib.hid (rsend16_any A n c q Ab nb cb b w3 (TQ.out.below Z.out) HS.out (TB.out.below Z.out) HBY.out h3)
  go_wp2_with fail
  refine N.out.mono ?_
  intro e w4 hout
  obtain ⟨A4, c4, rfl, hown, hbb⟩ := hout.is HL1.out.symm HE1.out.symm HM1.out.symm
  have Z := Lib.hid (Z.out.trans (hbb.mono Z.out.size))
  have z4 : w3.heap.size ≤ w4.heap.size := hbb.size
  have X := Lib.hid (X.out.below hbb)
  have Y := Lib.hid (Texts.of_own hown)
  clear hown
  clear N hout hbb
  have N := Lib.hid (PP.out.take A1 n c1 q i w4 (OW.out.below Z.out) HS.out)
  go_wp2_with fail
  refine N.out.mono ?_
  intro e w5 hout
  obtain ⟨A5, c5, A6, c6, rfl, hown, hrow, hbb⟩ := hout.is HL2.out.symm HB2.out.symm HE2.out.symm HM2.out.symm HMB.out.symm
  have Z := Lib.hid (Z.out.trans (hbb.mono Z.out.size))
  have z5 : w4.heap.size ≤ w5.heap.size := hbb.size
  have X := Lib.hid (X.out.below hbb)
  have Y := Lib.hid (Y.out.below hbb)
  have P := Lib.hid (OwnIn.of hown)
  have C := Lib.hid hrow
  have CB := Lib.hid (owns_band hrow)
  clear hown hrow
  clear N hout hbb
  have N := Lib.hid (rtake16_any A n c q i w5 (TQ.out.below Z.out) HS.out)
  go_wp2_with fail
  refine N.out.mono ?_
  intro e w6 hout
  obtain ⟨A7, c7, A8, c8, rfl, hown, hrow, hbb⟩ := hout.is HL2.out.symm HB2.out.symm HE2.out.symm HM2.out.symm HMB.out.symm
  have Z := Lib.hid (Z.out.trans (hbb.mono Z.out.size))
  have z6 : w5.heap.size ≤ w6.heap.size := hbb.size
  have X := Lib.hid (X.out.below hbb)
  have Y := Lib.hid (Y.out.below hbb)
  have P := Lib.hid (P.out.below hbb)
  have C := Lib.hid (owns_below C.out hbb)
  have PR := Lib.hid (Texts.of_own hown)
  have D := Lib.hid (Arg.own hrow)
  clear hown hrow
  clear N hout hbb
  have N := Lib.hid (PP.out.twice A1 n c1 q i w6 (OW.out.below Z.out) HS.out)
  go_wp2_with fail
  refine N.out.mono ?_
  intro e w7 hout
  obtain ⟨A9, c9, rfl, hown, hla, hbb⟩ := hout.is HL3.out.symm HE2.out.symm HM3.out.symm
  have Z := Lib.hid (Z.out.trans (hbb.mono Z.out.size))
  have z7 : w6.heap.size ≤ w7.heap.size := hbb.size
  have X := Lib.hid (X.out.below hbb)
  have Y := Lib.hid (Y.out.below hbb)
  have P := Lib.hid (P.out.below hbb)
  have PR := Lib.hid (PR.out.below hbb)
  have D := Lib.hid (D.out.below hbb)
  have C := Lib.hid (owns_below C.out hbb)
  have T := Lib.hid (OwnIn.of hown)
  have LT := Lib.hid (show m3 = q.length + 1 → ∃ L, OwnLast (fun g => w6.heap.size ≤ g ∧ g < w7.heap.size) L w7 w6.heap.size A9 m3 c9 L3 q.length from fun hx => OwnLast.of hown (hla hx) (by omega))
  clear hown hla
  clear N hout hbb
  have N := Lib.hid (rtwice16_any A n c q i w7 (TQ.out.below Z.out) HS.out)
  go_wp2_with fail
  refine N.out.mono ?_
  intro e w8 hout
  obtain ⟨A10, c10, rfl, hown, hbb⟩ := hout.is HL3.out.symm HE2.out.symm HM3.out.symm
  have Z := Lib.hid (Z.out.trans (hbb.mono Z.out.size))
  have z8 : w7.heap.size ≤ w8.heap.size := hbb.size
  have X := Lib.hid (X.out.below hbb)
  have Y := Lib.hid (Y.out.below hbb)
  have P := Lib.hid (P.out.below hbb)
  have PR := Lib.hid (PR.out.below hbb)
  have D := Lib.hid (D.out.below hbb)
  have T := Lib.hid (T.out.below hbb)
  have LT := Lib.hid (show m3 = q.length + 1 → ∃ L, OwnLast (fun g => w6.heap.size ≤ g ∧ g < w7.heap.size) L w8 w6.heap.size A9 m3 c9 L3 q.length from fun hx => by obtain ⟨L, h⟩ := LT.out hx; exact ⟨L, h.below hbb⟩)
  have C := Lib.hid (owns_below C.out hbb)
  have U := Lib.hid (OwnIn.of hown)
  clear hown
  clear N hout hbb
  have N := Lib.hid (PP.out.twin A1 n c1 q w8 (OW.out.below Z.out) HS.out)
  unfold OneTexts at N
  rw [HL.out] at N
  go_wp2_with fail
  refine N.out.mono ?_
  rintro e w9 ⟨A11, c11, rfl, hown, hbb⟩
  have Z := Lib.hid (Z.out.trans (hbb.mono Z.out.size))
  have z9 : w8.heap.size ≤ w9.heap.size := hbb.size
  have X := Lib.hid (X.out.below hbb)
  have Y := Lib.hid (Y.out.below hbb)
  have P := Lib.hid (P.out.below hbb)
  have PR := Lib.hid (PR.out.below hbb)
  have D := Lib.hid (D.out.below hbb)
  have T := Lib.hid (T.out.below hbb)
  have U := Lib.hid (U.out.below hbb)
  have LT := Lib.hid (show m3 = q.length + 1 → ∃ L, OwnLast (fun g => w6.heap.size ≤ g ∧ g < w7.heap.size) L w9 w6.heap.size A9 m3 c9 L3 q.length from fun hx => by obtain ⟨L, h⟩ := LT.out hx; exact ⟨L, h.below hbb⟩)
  have C := Lib.hid (owns_below C.out hbb)
  have V := Lib.hid (OwnIn.of hown)
  have ZZ := Lib.hid (Nat.le_refl w9.heap.size)
  clear N hown hbb
  have N := Lib.hid (sameAll_any A3 m1 c3 L1 A4 m1 c4 L1 w9 (Texts.of_own X.out.own) Y.out)
  rw [show decide (L1 = L1) = true from decide_eq_true rfl] at N
  go_wp2_with fail
  refine N.out.mono ?_
  rintro e w10 ⟨rfl, r, hr⟩
  have hbb : Below w9.heap.size w9 w10 := by rw [hr]; exact below_drewN (Below.refl _ _) r
  have Z := Lib.hid (Z.out.trans (hbb.mono Z.out.size))
  have ZZ := Lib.hid (Nat.le_trans ZZ.out hbb.size)
  have X := Lib.hid (X.out.below hbb)
  have Y := Lib.hid (Y.out.below hbb)
  have P := Lib.hid (P.out.below hbb)
  have PR := Lib.hid (PR.out.below hbb)
  have D := Lib.hid (D.out.below hbb)
  have T := Lib.hid (T.out.below hbb)
  have U := Lib.hid (U.out.below hbb)
  have V := Lib.hid (V.out.below hbb)
  have C := Lib.hid (owns_below C.out hbb)
  have LT := Lib.hid (show m3 = q.length + 1 → ∃ L, OwnLast (fun g => w6.heap.size ≤ g ∧ g < w7.heap.size) L w10 w6.heap.size A9 m3 c9 L3 q.length from fun hx => by obtain ⟨L, h⟩ := LT.out hx; exact ⟨L, h.below hbb⟩)
  clear N hr hbb
  have N := Lib.hid (sameAll_any A5 m2 c5 L2 A7 m2 c7 L2 w10 (Texts.of_own P.out.own) PR.out)
  rw [show decide (L2 = L2) = true from decide_eq_true rfl] at N
  go_wp2_with fail
  refine N.out.mono ?_
  rintro e w11 ⟨rfl, r, hr⟩
  have hbb : Below w10.heap.size w10 w11 := by rw [hr]; exact below_drewN (Below.refl _ _) r
  have Z := Lib.hid (Z.out.trans (hbb.mono Z.out.size))
  have ZZ := Lib.hid (Nat.le_trans ZZ.out hbb.size)
  have X := Lib.hid (X.out.below hbb)
  have P := Lib.hid (P.out.below hbb)
  have PR := Lib.hid (PR.out.below hbb)
  have D := Lib.hid (D.out.below hbb)
  have T := Lib.hid (T.out.below hbb)
  have U := Lib.hid (U.out.below hbb)
  have V := Lib.hid (V.out.below hbb)
  have C := Lib.hid (owns_below C.out hbb)
  have LT := Lib.hid (show m3 = q.length + 1 → ∃ L, OwnLast (fun g => w6.heap.size ≤ g ∧ g < w7.heap.size) L w11 w6.heap.size A9 m3 c9 L3 q.length from fun hx => by obtain ⟨L, h⟩ := LT.out hx; exact ⟨L, h.below hbb⟩)
  clear N hr hbb
  have st1 := str_arg0 (Arg.own C.out)
  have st2 := str_arg0 D.out
  obtain ⟨st, hst0⟩ : ∃ x, x = strOfNums b2 := ⟨_, rfl⟩
  rw [← hst0] at st1 st2
  have hst : (st.toList == st.toList) = true := beq_self_eq_true _
  clear hst0
  have N := Lib.hid (sameAll_any A9 m3 c9 L3 A10 m3 c10 L3 w11 (Texts.of_own T.out.own) (Texts.of_own U.out.own))
  rw [show decide (L3 = L3) = true from decide_eq_true rfl] at N
  go_wp2_with fail
  refine N.out.mono ?_
  rintro e w12 ⟨rfl, r, hr⟩
  have hbb : Below w11.heap.size w11 w12 := by rw [hr]; exact below_drewN (Below.refl _ _) r
  have Z := Lib.hid (Z.out.trans (hbb.mono Z.out.size))
  have ZZ := Lib.hid (Nat.le_trans ZZ.out hbb.size)
  have X := Lib.hid (X.out.below hbb)
  have P := Lib.hid (P.out.below hbb)
  have D := Lib.hid (D.out.below hbb)
  have T := Lib.hid (T.out.below hbb)
  have U := Lib.hid (U.out.below hbb)
  have V := Lib.hid (V.out.below hbb)
  have C := Lib.hid (owns_below C.out hbb)
  have LT := Lib.hid (show m3 = q.length + 1 → ∃ L, OwnLast (fun g => w6.heap.size ≤ g ∧ g < w7.heap.size) L w12 w6.heap.size A9 m3 c9 L3 q.length from fun hx => by obtain ⟨L, h⟩ := LT.out hx; exact ⟨L, h.below hbb⟩)
  clear N hr hbb
  clear st1 st2 hst
  have N := Lib.hid (sameAll_any A11 n c11 q A n c q w12 (Texts.of_own V.out.own) (TQ.out.below Z.out))
  rw [show decide (q = q) = true from decide_eq_true rfl] at N
  go_wp2_with fail
  refine N.out.mono ?_
  rintro e w13 ⟨rfl, r, hr⟩
  have hbb : Below w12.heap.size w12 w13 := by rw [hr]; exact below_drewN (Below.refl _ _) r
  have Z := Lib.hid (Z.out.trans (hbb.mono Z.out.size))
  have ZZ := Lib.hid (Nat.le_trans ZZ.out hbb.size)
  have X := Lib.hid (X.out.below hbb)
  have P := Lib.hid (P.out.below hbb)
  have T := Lib.hid (T.out.below hbb)
  have U := Lib.hid (U.out.below hbb)
  have V := Lib.hid (V.out.below hbb)
  have C := Lib.hid (owns_below C.out hbb)
  have LT := Lib.hid (show m3 = q.length + 1 → ∃ L, OwnLast (fun g => w6.heap.size ≤ g ∧ g < w7.heap.size) L w13 w6.heap.size A9 m3 c9 L3 q.length from fun hx => by obtain ⟨L, h⟩ := LT.out hx; exact ⟨L, h.below hbb⟩)
  clear N hr hbb
  obtain ⟨rr, hrr⟩ : ∃ x, x = decide (q = q2) := ⟨_, rfl⟩
  obtain ⟨r1, hr1⟩ : ∃ x, x = decide (q = q2) := ⟨_, rfl⟩
  have hrb : (r1 == rr) = true := by rw [hr1, hrr]; exact beq_self_eq_true _
  have N := Lib.hid (PP.out.same A1 n c1 q A' n' c' q2 w13 (OW.out.below Z.out) (TO.out.below Z.out) HS.out HS2.out)
  rw [← hr1] at N
  have HRR := Lib.hid hrr
  clear hr1 hrr
  go_wp2_with fail
  refine N.out.mono ?_
  rintro e w14 ⟨rfl, hbb⟩
  have Z := Lib.hid (Z.out.trans (hbb.mono Z.out.size))
  have ZZ := Lib.hid (Nat.le_trans ZZ.out hbb.size)
  have X := Lib.hid (X.out.below hbb)
  have P := Lib.hid (P.out.below hbb)
  have T := Lib.hid (T.out.below hbb)
  have U := Lib.hid (U.out.below hbb)
  have V := Lib.hid (V.out.below hbb)
  have LT := Lib.hid (show m3 = q.length + 1 → ∃ L, OwnLast (fun g => w6.heap.size ≤ g ∧ g < w7.heap.size) L w14 w6.heap.size A9 m3 c9 L3 q.length from fun hx => by obtain ⟨L, h⟩ := LT.out hx; exact ⟨L, h.below hbb⟩)
  have C := Lib.hid (owns_below C.out hbb)
  clear N hbb
  have N := Lib.hid (sameAll_any A n c q A' n' c' q2 w14 (TQ.out.below Z.out) (TO.out.below Z.out))
  rw [← HRR.out] at N
  go_wp2_with fail
  refine N.out.mono ?_
  rintro e w15 ⟨rfl, r, hr⟩
  have hbb : Below w14.heap.size w14 w15 := by rw [hr]; exact below_drewN (Below.refl _ _) r
  have Z := Lib.hid (Z.out.trans (hbb.mono Z.out.size))
  have ZZ := Lib.hid (Nat.le_trans ZZ.out hbb.size)
  have X := Lib.hid (X.out.below hbb)
  have P := Lib.hid (P.out.below hbb)
  have T := Lib.hid (T.out.below hbb)
  have U := Lib.hid (U.out.below hbb)
  have V := Lib.hid (V.out.below hbb)
  have C := Lib.hid (owns_below C.out hbb)
  have LT := Lib.hid (show m3 = q.length + 1 → ∃ L, OwnLast (fun g => w6.heap.size ≤ g ∧ g < w7.heap.size) L w15 w6.heap.size A9 m3 c9 L3 q.length from fun hx => by obtain ⟨L, h⟩ := LT.out hx; exact ⟨L, h.below hbb⟩)
  clear N hr hbb
  have N := Lib.hid (PP.out.same A1 n c1 q A n c q w15 (OW.out.below Z.out) (TQ.out.below Z.out) HS.out HS.out)
  rw [show decide (q = q) = true from decide_eq_true rfl] at N
  go_wp2_with fail
  refine N.out.mono ?_
  rintro e w16 ⟨rfl, hbb⟩
  have Z := Lib.hid (Z.out.trans (hbb.mono Z.out.size))
  have ZZ := Lib.hid (Nat.le_trans ZZ.out hbb.size)
  have X := Lib.hid (X.out.below hbb)
  have P := Lib.hid (P.out.below hbb)
  have T := Lib.hid (T.out.below hbb)
  have U := Lib.hid (U.out.below hbb)
  have V := Lib.hid (V.out.below hbb)
  have LT := Lib.hid (show m3 = q.length + 1 → ∃ L, OwnLast (fun g => w6.heap.size ≤ g ∧ g < w7.heap.size) L w16 w6.heap.size A9 m3 c9 L3 q.length from fun hx => by obtain ⟨L, h⟩ := LT.out hx; exact ⟨L, h.below hbb⟩)
  have C := Lib.hid (owns_below C.out hbb)
  clear N hbb
  have N := Lib.hid (PP.out.check A1 n c1 q w16 (OW.out.below Z.out) HS.out)
  rw [← HE1.out] at N
  go_wp2_with fail
  refine N.out.mono ?_
  rintro e w17 ⟨rfl, hbb⟩
  have Z := Lib.hid (Z.out.trans (hbb.mono Z.out.size))
  have ZZ := Lib.hid (Nat.le_trans ZZ.out hbb.size)
  have X := Lib.hid (X.out.below hbb)
  have P := Lib.hid (P.out.below hbb)
  have T := Lib.hid (T.out.below hbb)
  have U := Lib.hid (U.out.below hbb)
  have V := Lib.hid (V.out.below hbb)
  have LT := Lib.hid (show m3 = q.length + 1 → ∃ L, OwnLast (fun g => w6.heap.size ≤ g ∧ g < w7.heap.size) L w17 w6.heap.size A9 m3 c9 L3 q.length from fun hx => by obtain ⟨L, h⟩ := LT.out hx; exact ⟨L, h.below hbb⟩)
  have C := Lib.hid (owns_below C.out hbb)
  clear N hbb
  have N := Lib.hid (rcheck16_any A n c q w17 HL.out)
  rw [← HE1.out] at N
  go_wp2_with fail
  refine N.out.mono ?_
  rintro e w18 ⟨rfl, rfl⟩
  clear N
  have CE := Lib.hid (show ∃ zs, (∀ z ∈ zs, isByte z) ∧ World.ownsRow w18 w4.heap.size 5 1 (.slice A6 mb c6) mb (ints .u8 zs) from ⟨b2, HBY2.out, C.out⟩)
  have N := Lib.hid (spoil16_any (fun g => (w2.heap.size ≤ g ∧ g < w3.heap.size) ∧ ∀ a, A3 = some a → g ≠ a.block) A3 m1 c3 w18 (SpT.of X.out SM1.out) hm1l)
  go_wp2_with fail
  refine N.out.mono ?_
  rintro e w19 ⟨rfl, hoo⟩
  have Z := Lib.hid (Z.out.trans (hoo.below (fun g hp => by obtain ⟨⟨b1, b2⟩, _⟩ := hp; omega)))
  have ZZ := Lib.hid (Nat.le_trans ZZ.out (Nat.le_of_eq hoo.size.symm))
  have P := Lib.hid (P.out.only hoo (fun g hg hp => by obtain ⟨a1, a2⟩ := hg; obtain ⟨⟨b1, b2⟩, _⟩ := hp; omega))
  have T := Lib.hid (T.out.only hoo (fun g hg hp => by obtain ⟨a1, a2⟩ := hg; obtain ⟨⟨b1, b2⟩, _⟩ := hp; omega))
  have U := Lib.hid (U.out.only hoo (fun g hg hp => by obtain ⟨a1, a2⟩ := hg; obtain ⟨⟨b1, b2⟩, _⟩ := hp; omega))
  have V := Lib.hid (V.out.only hoo (fun g hg hp => by obtain ⟨a1, a2⟩ := hg; obtain ⟨⟨b1, b2⟩, _⟩ := hp; omega))
  have LT := Lib.hid (show m3 = q.length + 1 → ∃ L, OwnLast (fun g => w6.heap.size ≤ g ∧ g < w7.heap.size) L w19 w6.heap.size A9 m3 c9 L3 q.length from fun hx => by obtain ⟨L, h⟩ := LT.out hx; exact ⟨L, h.only hoo (fun g hg hp => by obtain ⟨a1, a2⟩ := hg; obtain ⟨⟨b1, b2⟩, _⟩ := hp; omega)⟩)
  have CE := Lib.hid (show ∃ zs, (∀ z ∈ zs, isByte z) ∧ World.ownsRow w19 w4.heap.size 5 1 (.slice A6 mb c6) mb (ints .u8 zs) from by obtain ⟨zs, hz, ho⟩ := CE.out; obtain ⟨zs2, hz2, _, ho2⟩ := hoo.bytes _ _ _ _ _ hz ho; exact ⟨zs2, hz2, ho2⟩)
  clear N hoo
  have N := Lib.hid (spoil16_any (fun g => (w4.heap.size ≤ g ∧ g < w5.heap.size) ∧ ∀ a, A5 = some a → g ≠ a.block) A5 m2 c5 w19 (SpT.of P.out SM2.out) hm2l)
  go_wp2_with fail
  refine N.out.mono ?_
  rintro e w20 ⟨rfl, hoo⟩
  have Z := Lib.hid (Z.out.trans (hoo.below (fun g hp => by obtain ⟨⟨b1, b2⟩, _⟩ := hp; omega)))
  have ZZ := Lib.hid (Nat.le_trans ZZ.out (Nat.le_of_eq hoo.size.symm))
  have T := Lib.hid (T.out.only hoo (fun g hg hp => by obtain ⟨a1, a2⟩ := hg; obtain ⟨⟨b1, b2⟩, _⟩ := hp; omega))
  have U := Lib.hid (U.out.only hoo (fun g hg hp => by obtain ⟨a1, a2⟩ := hg; obtain ⟨⟨b1, b2⟩, _⟩ := hp; omega))
  have V := Lib.hid (V.out.only hoo (fun g hg hp => by obtain ⟨a1, a2⟩ := hg; obtain ⟨⟨b1, b2⟩, _⟩ := hp; omega))
  have LT := Lib.hid (show m3 = q.length + 1 → ∃ L, OwnLast (fun g => w6.heap.size ≤ g ∧ g < w7.heap.size) L w20 w6.heap.size A9 m3 c9 L3 q.length from fun hx => by obtain ⟨L, h⟩ := LT.out hx; exact ⟨L, h.only hoo (fun g hg hp => by obtain ⟨a1, a2⟩ := hg; obtain ⟨⟨b1, b2⟩, _⟩ := hp; omega)⟩)
  have CE := Lib.hid (show ∃ zs, (∀ z ∈ zs, isByte z) ∧ World.ownsRow w20 w4.heap.size 5 1 (.slice A6 mb c6) mb (ints .u8 zs) from by obtain ⟨zs, hz, ho⟩ := CE.out; obtain ⟨zs2, hz2, _, ho2⟩ := hoo.bytes _ _ _ _ _ hz ho; exact ⟨zs2, hz2, ho2⟩)
  clear N hoo
  have N := Lib.hid (spoil16_any (fun g => (w8.heap.size ≤ g ∧ g < w9.heap.size) ∧ ∀ a, A11 = some a → g ≠ a.block) A11 n c11 w20 (SpT.of V.out HS.out) hn100)
  go_wp2_with fail
  refine N.out.mono ?_
  rintro e w21 ⟨rfl, hoo⟩
  have Z := Lib.hid (Z.out.trans (hoo.below (fun g hp => by obtain ⟨⟨b1, b2⟩, _⟩ := hp; omega)))
  have ZZ := Lib.hid (Nat.le_trans ZZ.out (Nat.le_of_eq hoo.size.symm))
  have T := Lib.hid (T.out.only hoo (fun g hg hp => by obtain ⟨a1, a2⟩ := hg; obtain ⟨⟨b1, b2⟩, _⟩ := hp; omega))
  have U := Lib.hid (U.out.only hoo (fun g hg hp => by obtain ⟨a1, a2⟩ := hg; obtain ⟨⟨b1, b2⟩, _⟩ := hp; omega))
  have LT := Lib.hid (show m3 = q.length + 1 → ∃ L, OwnLast (fun g => w6.heap.size ≤ g ∧ g < w7.heap.size) L w21 w6.heap.size A9 m3 c9 L3 q.length from fun hx => by obtain ⟨L, h⟩ := LT.out hx; exact ⟨L, h.only hoo (fun g hg hp => by obtain ⟨a1, a2⟩ := hg; obtain ⟨⟨b1, b2⟩, _⟩ := hp; omega)⟩)
  have CE := Lib.hid (show ∃ zs, (∀ z ∈ zs, isByte z) ∧ World.ownsRow w21 w4.heap.size 5 1 (.slice A6 mb c6) mb (ints .u8 zs) from by obtain ⟨zs, hz, ho⟩ := CE.out; obtain ⟨zs2, hz2, _, ho2⟩ := hoo.bytes _ _ _ _ _ hz ho; exact ⟨zs2, hz2, ho2⟩)
  clear N hoo
  have hal : Below w21.heap.size w21 (w21.alloc (.cells #[.slice A6 mb c6] 26)) := (Below.refl _ _).alloc (Nat.le_refl _) _
  have hcl := (Blk.new w21 26 [.slice A6 mb c6]).cell 0
  obtain ⟨s21, hs21⟩ : ∃ x, x = w21.heap.size := ⟨_, rfl⟩
  obtain ⟨w22, hw22⟩ : ∃ x : World, x = w21.alloc (.cells #[.slice A6 mb c6] 26) := ⟨_, rfl⟩
  have hcl : w22.cell? ⟨s21, 0, none⟩ = some (.slice A6 mb c6) := by rw [hw22, hs21]; exact hcl
  rw [← hw22] at hal
  have Z := Lib.hid (Z.out.trans (hal.mono Z.out.size))
  have ZC := Lib.hid (show w9.heap.size ≤ s21 by rw [hs21]; exact ZZ.out)
  have ZZ := Lib.hid (Nat.le_trans ZZ.out hal.size)
  have T := Lib.hid (T.out.below hal)
  have U := Lib.hid (U.out.below hal)
  have LT := Lib.hid (show m3 = q.length + 1 → ∃ L, OwnLast (fun g => w6.heap.size ≤ g ∧ g < w7.heap.size) L w22 w6.heap.size A9 m3 c9 L3 q.length from fun hx => by obtain ⟨L, h⟩ := LT.out hx; exact ⟨L, h.below hal⟩)
  have SC := Lib.hid (show SpT (fun g => w4.heap.size ≤ g ∧ g < w5.heap.size) w22 (some ⟨s21, 0, none⟩) 1 from fun i hi => by
    obtain rfl : i = 0 := by omega
    obtain ⟨zs, hz, ho⟩ := CE.out
    exact ⟨s21, 0, A6, mb, c6, _, zs, rfl, fun hx => by have := hx.2; have := ZC.out; omega, hcl, hz, owns_below ho hal, CB.out, hmbl⟩)
  rw [hs21] at SC
  clear hal hcl CE
  have N := Lib.hid (spoil16_any (fun g => w4.heap.size ≤ g ∧ g < w5.heap.size) _ 1 1 w22 SC.out (by decide))
  go_wp2_with fail
  rw [← hw22]
  refine N.out.mono ?_
  rintro e w23 ⟨rfl, hoo⟩
  have Z := Lib.hid (Z.out.trans (hoo.below (fun g hp => by obtain ⟨b1, b2⟩ := hp; omega)))
  have ZZ := Lib.hid (Nat.le_trans ZZ.out (Nat.le_of_eq hoo.size.symm))
  have T := Lib.hid (T.out.only hoo (fun g hg hp => by obtain ⟨a1, a2⟩ := hg; obtain ⟨b1, b2⟩ := hp; omega))
  have U := Lib.hid (U.out.only hoo (fun g hg hp => by obtain ⟨a1, a2⟩ := hg; obtain ⟨b1, b2⟩ := hp; omega))
  have LT := Lib.hid (show m3 = q.length + 1 → ∃ L, OwnLast (fun g => w6.heap.size ≤ g ∧ g < w7.heap.size) L w23 w6.heap.size A9 m3 c9 L3 q.length from fun hx => by obtain ⟨L, h⟩ := LT.out hx; exact ⟨L, h.only hoo (fun g hg hp => by obtain ⟨a1, a2⟩ := hg; obtain ⟨b1, b2⟩ := hp; omega)⟩)
  clear N hoo hw22 hs21 SC
  have N := Lib.hid (sameAll_any A9 m3 c9 L3 A10 m3 c10 L3 w23 (Texts.of_own T.out.own) (Texts.of_own U.out.own))
  rw [show decide (L3 = L3) = true from decide_eq_true rfl] at N
  go_wp2_with fail
  refine N.out.mono ?_
  rintro e w24 ⟨rfl, r, hr⟩
  have hbb : Below w23.heap.size w23 w24 := by rw [hr]; exact below_drewN (Below.refl _ _) r
  have Z := Lib.hid (Z.out.trans (hbb.mono Z.out.size))
  have LT := Lib.hid (show m3 = q.length + 1 → ∃ L, OwnLast (fun g => w6.heap.size ≤ g ∧ g < w7.heap.size) L w24 w6.heap.size A9 m3 c9 L3 q.length from fun hx => by obtain ⟨L, h⟩ := LT.out hx; exact ⟨L, h.below hbb⟩)
  clear N hr hbb T U ZZ
  have FIN := Lib.hid (fun (wx : World) (hx : Below w2.heap.size w2 wx) => sameAll_any A1 n c1 q A n c q wx (OW.out.below hx) (TQ.out.below hx))
  rw [show decide (q = q) = true from decide_eq_true rfl] at FIN
  by_cases hlong : n < m3
  · obtain ⟨g1, g2, g3⟩ := LNG.out (by have := HL.out; have := HM3.out; omega)
    have hm3n : m3 = n + 1 := by have := HL.out; have := HM3.out; omega
    have hn0 : 0 < n := by have := HL.out; omega
    obtain ⟨L, hL⟩ := LT.out (by have := HL.out; omega)
    rw [HL.out] at hL
    obtain ⟨gA, rfl, hLb, hsp, hrest⟩ := hL.last (by omega) SM3.out (fun g hg => hg.1)
    have HAT := Lib.hid (show ∀ k, k < n → L3.getD k [] = q.getD k [] from fun k hk => twL_at g3 (by have := HL.out; omega))
    have HRS := Lib.hid hrest
    have hcap := (Texts.of_own (show OwnTexts w24 w6.heap.size (some ⟨gA, 0, none⟩) m3 c9 L3 from by
      obtain ⟨vs, h1, _, h2, h3, h4, _⟩ := hL
      refine ⟨vs, h1, h2, h3, fun i hi => ?_⟩
      obtain ⟨Ai, ni, ci, h5, h6, _⟩ := h4 i hi
      exact ⟨Ai, ni, ci, h5, h6⟩)).cap
    have hmax := (Texts.of_own (show OwnTexts w24 w6.heap.size (some ⟨gA, 0, none⟩) m3 c9 L3 from by
      obtain ⟨vs, h1, _, h2, h3, h4, _⟩ := hL
      refine ⟨vs, h1, h2, h3, fun i hi => ?_⟩
      obtain ⟨Ai, ni, ci, h5, h6, _⟩ := h4 i hi
      exact ⟨Ai, ni, ci, h5, h6⟩)).max
    unfold maxLen at hmax
    have N := Lib.hid (spoil16_any L (some ⟨gA, n, none⟩) 1 (c9 - n) w24 hsp (by decide))
    have LB3 := Lib.hid (show ∀ g, L g → w2.heap.size ≤ g from fun g hg => by have := hLb g hg; omega)
    subst hm3n
    have hw : IntKind.i64.wrap ((n : Int) + 1 - 1) = (n : Int) := by rw [Int.add_sub_cancel]; exact Lib.wrap_i64_small n (by omega)
    have hne : ¬ c9 = n := by omega
    have hlo : (n : Int) ≤ (n : Int) + 1 := by omega
    have hhi : (n : Int) + 1 ≤ (c9 : Int) := by omega
    have hg1 : (1 : Int) < (n : Int) + 1 := by omega
    have hg2 : (n : Int) < (n : Int) + 1 := by omega
    have hn1 : n + 1 - n = 1 := by omega
    clear hlong g1 g2 g3 hL hLb hsp hrest LT LNG SM3 HM3 HL3 hm3l
    go_wp2_with fail
    refine N.out.mono ?_
    rintro e w25 ⟨rfl, hoo⟩
    have Z := Lib.hid (Z.out.trans (hoo.below LB3.out))
    have RD := Lib.hid (HRS.out _ hoo)
    clear N hoo HRS LB3
    go_wp2
    go_loopw [26, 28] (fun v x wr => ∃ k : Nat, k ≤ n ∧ v = .bool true ∧ x = .int .i64 k ∧ ∃ r, wr = w25.drewN r) (fun _ x _ => n - (intOf x).toNat)
    case atStart => exact ⟨0, Nat.zero_le _, rfl, rfl, 0, rfl⟩
    case round =>
      obtain ⟨k, hk, rfl, rfl, r, rfl⟩ := hrel
      by_cases hkn : k < n
      · obtain ⟨Ai, ni, ci, hc1, ha1⟩ := RD.out k hkn
        rw [HAT.out k hkn] at ha1
        obtain ⟨b2_, o2, Aj, nj, cj, rfl, hlt2, hc2, ha2⟩ := (TQ.out.below Z.out).at_ k hkn
        have hst1 := fun r => run_str (P := Try.prog) (w25.drewN r) 26 9 5 Try.underlying26 Try.underlying5 Try.underlying9 (c := ci) (ha1.seq.keep (w' := w25.drewN r) fun _ _ => rfl) ha1.len
        have hst2 := fun r => run_str (P := Try.prog) (w25.drewN r) 26 9 5 Try.underlying26 Try.underlying5 Try.underlying9 (c := cj) (ha2.seq.keep (w' := w25.drewN r) fun _ _ => rfl) ha2.len
        obtain ⟨st, hst0⟩ : ∃ x, x = strOfNums (q.getD k []) := ⟨_, rfl⟩
        rw [← hst0] at hst1 hst2
        have hst : (st.toList == st.toList) = true := beq_self_eq_true _
        have hk1 : (k : Int) < (n : Int) := by omega
        have hk2 : (k : Int) < (n : Int) + 1 := by omega
        clear hst0 ha1 ha2
        go_wp2
        go_quiet (fail)
        go_wp2
        go_roundw
        case rel => exact ⟨k + 1, by omega, rfl, by go_num, _, rfl⟩
        case measure => simp [intOf]; omega
      · obtain rfl : k = n := by omega
        have Z := Lib.hid (show Below w2.heap.size w2 (w25.drewN r) from below_drewN Z.out r)
        go_wp2_with fail
        refine (FIN.out _ Z.out).mono ?_
        rintro e we ⟨rfl, r, hr⟩
        have Z := Lib.hid (show Below w2.heap.size w2 we by rw [hr]; exact below_drewN Z.out r)
        clear hr
        have st1 := str_arg0 (MI.out.below Z.out)
        have st2 := str_arg0 (TB.out.below Z.out)
        obtain ⟨st, hst0⟩ : ∃ x, x = strOfNums b := ⟨_, rfl⟩
        rw [← hst0] at st1 st2
        have hst : (st.toList == st.toList) = true := beq_self_eq_true _
        have BF := Lib.hid (B.out.trans (Z.out.mono B.out.size))
        clear hst0
        go_wp2
        go_ret
        exact ⟨rfl, BF.out⟩
  · have hm3n : ¬ (n : Int) < (m3 : Int) := by omega
    clear hlong LNG LT
    by_cases h1m : 1 < m3
    · have h1i : (1 : Int) < (m3 : Int) := by omega
      go_wp2_with fail
      refine (FIN.out _ Z.out).mono ?_
      rintro e we ⟨rfl, r, hr⟩
      have Z := Lib.hid (show Below w2.heap.size w2 we by rw [hr]; exact below_drewN Z.out r)
      clear hr
      have st1 := str_arg0 (MI.out.below Z.out)
      have st2 := str_arg0 (TB.out.below Z.out)
      obtain ⟨st, hst0⟩ : ∃ x, x = strOfNums b := ⟨_, rfl⟩
      rw [← hst0] at st1 st2
      have hst : (st.toList == st.toList) = true := beq_self_eq_true _
      have BF := Lib.hid (B.out.trans (Z.out.mono B.out.size))
      clear hst0
      go_wp2
      go_ret
      exact ⟨rfl, BF.out⟩
    · have h1i : ¬ (1 : Int) < (m3 : Int) := by omega
      go_wp2_with fail
      refine (FIN.out _ Z.out).mono ?_
      rintro e we ⟨rfl, r, hr⟩
      have Z := Lib.hid (show Below w2.heap.size w2 we by rw [hr]; exact below_drewN Z.out r)
      clear hr
      have st1 := str_arg0 (MI.out.below Z.out)
      have st2 := str_arg0 (TB.out.below Z.out)
      obtain ⟨st, hst0⟩ : ∃ x, x = strOfNums b := ⟨_, rfl⟩
      rw [← hst0] at st1 st2
      have hst : (st.toList == st.toList) = true := beq_self_eq_true _
      have BF := Lib.hid (B.out.trans (Z.out.mono B.out.size))
      clear hst0
      go_wp2
      go_ret
      exact ⟨rfl, BF.out⟩

theorem turns16_of (ND : NetDoes) (A : Option Addr) (n c : Nat) (q : List Text) (A' : Option Addr) (n' c' : Nat) (q2 : List Text) (Ab : Option Addr) (nb cb : Nat) (b : Text) (i : Int) (w : World) (hq : Texts w A n c q) (ho : Texts w A' n' c' q2) (hb : Arg w .u8 Ab nb cb b) (hby : ∀ z ∈ b, isByte z) :
    Calls Try.prog 4 #[.slice A n c, .slice A' n' c', .slice Ab nb cb, .int .i64 i] w fun e w' => e = .returned (.bool true) ∧ Below w.heap.size w w' := by
  by_cases h : greatB q = true ∨ greatB q2 = true ∨ 200 < nb
  · exact turns16_great ND A n c q A' n' c' q2 Ab nb cb b i w hq ho hb hby h
  · refine turns16_main ND A n c q A' n' c' q2 Ab nb cb b i w hq ho hb hby ?_ ?_ ?_
    · cases h1 : greatB q
      · rfl
      · exact absurd (.inl h1) h
    · cases h1 : greatB q2
      · rfl
      · exact absurd (.inr (.inl h1)) h
    · have : ¬ 200 < nb := fun e => h (.inr (.inr e))
      omega
end Go.Proofs.Ytibegaoegpanpaa
