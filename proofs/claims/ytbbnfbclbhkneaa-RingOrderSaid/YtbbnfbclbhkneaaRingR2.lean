/- Layer 4: the document's own: whether two queues are the same, whether one may be, a new one, its list. -/
import Derived.Test.YtbbnfbclbhkneaaRingR
import Derived.Test.YtbbnfbclbhkneaaStrs
import Derived.BigQuiet
namespace Go.Proofs.Ytbbnfbclbhkneaa
open Go.RowKit
set_option linter.unusedVariables false

theorem list_same {a b : List Text} {n : Nat} (ha : a.length = n) (hb : b.length = n) (h : ∀ y, y < n → a.getD y [] = b.getD y []) : a = b := by
  refine List.ext_getElem (ha.trans hb.symm) fun i h1 h2 => ?_
  have := h i (by omega)
  simpa [List.getD_eq_getElem?_getD, h1, h2] using this

theorem sameAll_len (A : Option Addr) (n c : Nat) (A' : Option Addr) (n' c' : Nat) (w : World) (hne : n ≠ n') :
    Calls Try.prog 19 #[.slice A n c, .slice A' n' c'] w fun e w' => e = .returned (.bool false) ∧ ∃ q, w' = w.drewN q := by
  have h2 : ¬ (n : Int) = (n' : Int) := by omega
  go_enter Try.func19, Try.ntmps19
  go_wp2
  go_ret
  exact ⟨rfl, 0, rfl⟩
set_option maxRecDepth 100000 in
set_option maxHeartbeats 1600000 in
theorem sameAll_any (A : Option Addr) (n c : Nat) (a : List Text) (A' : Option Addr) (n' c' : Nat) (b : List Text) (w : World) (ha : Texts w A n c a) (hb : Texts w A' n' c' b) :
    Calls Try.prog 19 #[.slice A n c, .slice A' n' c'] w fun e w' => e = .returned (.bool (decide (a = b))) ∧ ∃ q, w' = w.drewN q := by
  by_cases hn : n = n'
  · subst hn
    have HA := Lib.hid ha
    have HB := Lib.hid hb
    have hcm := Nat.le_trans ha.cap ha.max
    unfold maxLen at hcm
    have YES := Lib.hid fun h => (show decide (a = b) = true from decide_eq_true (list_same ha.len hb.len h))
    have NO := Lib.hid fun k (h : a.getD k [] ≠ b.getD k []) => (show decide (a = b) = false from decide_eq_false fun e => h (by rw [e]))
    obtain ⟨R, hR⟩ : ∃ R, R = decide (a = b) := ⟨_, rfl⟩
    rw [← hR] at YES NO ⊢
    clear ha hb hR
    go_enter Try.func19, Try.ntmps19
    go_wp2
    go_loopw [5] (fun i wr => ∃ k : Nat, k ≤ n ∧ i = .int .i64 k ∧ (∀ y, y < k → a.getD y [] = b.getD y []) ∧ ∃ q, wr = w.drewN q) (fun i _ => n - (intOf i).toNat)
    case atStart => exact ⟨0, Nat.zero_le _, rfl, fun y hy => by omega, 0, rfl⟩
    case round =>
      obtain ⟨k, hk, rfl, hall, q, rfl⟩ := hrel
      have ALL := Lib.hid hall
      clear hall
      by_cases hkn : k < n
      · obtain ⟨b1, o1, A1, n1, c1, rfl, hlt1, hc1, ha1⟩ := HA.out.at_ k hkn
        obtain ⟨b2, o2, A2, n2, c2, rfl, hlt2, hc2, ha2⟩ := HB.out.at_ k hkn
        have hst1 := fun q => run_str (P := Try.prog) (w.drewN q) 28 9 5 Try.underlying28 Try.underlying5 Try.underlying9 (c := c1) (ha1.seq.keep (w' := w.drewN q) fun _ _ => rfl) ha1.len
        have hst2 := fun q => run_str (P := Try.prog) (w.drewN q) 28 9 5 Try.underlying28 Try.underlying5 Try.underlying9 (c := c2) (ha2.seq.keep (w' := w.drewN q) fun _ _ => rfl) ha2.len
        have hse := strs_eq (HA.out.byte_at k) (HB.out.byte_at k)
        have NOK := Lib.hid (NO.out k)
        obtain ⟨x, hx⟩ : ∃ x, x = a.getD k [] := ⟨_, rfl⟩
        obtain ⟨y, hy⟩ : ∃ y, y = b.getD k [] := ⟨_, rfl⟩
        rw [← hx] at hst1 hse NOK
        rw [← hy] at hst2 hse NOK
        have HX := Lib.hid hx
        have HY := Lib.hid hy
        clear hx hy ha1 ha2
        by_cases hxy : x = y
        · have hse2 : ((strOfNums x).toList == (strOfNums y).toList) = true := hse.trans (decide_eq_true hxy)
          have HXY := Lib.hid hxy
          clear hxy hse
          go_wp2
          go_quiet (fail)
          go_wp2
          go_roundw
          case rel =>
            refine ⟨k + 1, by omega, by go_num, fun y' hy' => ?_, _, rfl⟩
            rcases Nat.lt_or_ge y' k with h' | h'
            · exact ALL.out y' h'
            · obtain rfl : y' = k := by omega
              rw [← HX.out, ← HY.out]
              exact HXY.out
          case measure => simp [intOf]; omega
        · have hse2 : ((strOfNums x).toList == (strOfNums y).toList) = false := hse.trans (decide_eq_false hxy)
          have HN := Lib.hid (NOK.out hxy)
          clear hxy hse
          go_wp2
          go_quiet (fail)
          go_wp2
          go_ret
          rw [HN.out]
          exact ⟨rfl, _, by rw [World.drewN_drewN]⟩
      · obtain rfl : k = n := by omega
        have HY := Lib.hid (YES.out ALL.out)
        go_wp2
        go_ret
        rw [HY.out]
        exact ⟨rfl, q, rfl⟩
  · rw [show decide (a = b) = false from decide_eq_false fun e => hn (by rw [← ha.len, ← hb.len, e])]
    exact sameAll_len A n c A' n' c' w hn

theorem boxes2 (w : World) (A : Option Addr) (n c : Nat) (h m : Int) (A' : Option Addr) (n' c' : Nat) (h' m' : Int) :
    Blk ((w.alloc (.cells #[.slice A n c, .int .i64 h, .int .i64 m] 24)).alloc (.cells #[.slice A' n' c', .int .i64 h', .int .i64 m'] 24)) w.heap.size 24 [.slice A n c, .int .i64 h, .int .i64 m] ∧
    Blk ((w.alloc (.cells #[.slice A n c, .int .i64 h, .int .i64 m] 24)).alloc (.cells #[.slice A' n' c', .int .i64 h', .int .i64 m'] 24)) (w.heap.size + 1) 24 [.slice A' n' c', .int .i64 h', .int .i64 m'] ∧
    Below w.heap.size w ((w.alloc (.cells #[.slice A n c, .int .i64 h, .int .i64 m] 24)).alloc (.cells #[.slice A' n' c', .int .i64 h', .int .i64 m'] 24)) := by
  refine ⟨(Blk.new w 24 [.slice A n c, .int .i64 h, .int .i64 m]).grown (World.grownBy_alloc _ _ none) (by simp), ?_, ((Below.refl _ _).alloc (Nat.le_refl _) _).alloc (by simp) _⟩
  have := Blk.new (w.alloc (.cells #[.slice A n c, .int .i64 h, .int .i64 m] 24)) 24 [.slice A' n' c', .int .i64 h', .int .i64 m']
  rwa [World.size_alloc] at this

set_option maxHeartbeats 800000 in
theorem same_any (A : Option Addr) (n c : Nat) (h m : Int) (a : List Text) (A' : Option Addr) (n' c' : Nat) (h' m' : Int) (b : List Text) (w : World) (ha : Texts w A n c a) (hb : Texts w A' n' c' b) :
    Calls Try.prog 18 #[queueV A n c h m, queueV A' n' c' h' m'] w fun e w' => e = .returned (.bool (sameB a h m b h' m')) ∧ Below w.heap.size w w' := by
  obtain ⟨x1, x2, hbel⟩ := boxes2 w A n c h m A' n' c' h' m'
  have S := Lib.hid (sameAll_any A n c a A' n' c' b _ (ha.below hbel) (hb.below hbel))
  have d0 := x1.cell 0
  have d1 := x1.cell 1
  have d2 := x1.cell 2
  have e0 := x2.cell 0
  have e1 := x2.cell 1
  have e2 := x2.cell 2
  simp only [List.getElem?_cons_zero, List.getElem?_cons_succ] at d0 d1 d2 e0 e1 e2
  have BEL := Lib.hid hbel
  have hE : sameB a h m b h' m' = decide (h = h' ∧ m = m' ∧ a = b) := rfl
  clear hbel x1 x2 ha hb
  by_cases hh : h = h'
  · subst hh
    by_cases hm : m = m'
    · subst hm
      rw [show sameB a h m b h m = decide (a = b) by rw [hE]; simp]
      obtain ⟨R, hR⟩ : ∃ R, R = decide (a = b) := ⟨_, rfl⟩
      rw [← hR] at S ⊢
      clear hR hE
      go_enter Try.func18, Try.ntmps18
      go_wp2_with fail
      refine S.out.mono ?_
      rintro e w2 ⟨rfl, q, rfl⟩
      go_wp2
      go_ret
      exact ⟨rfl, below_drewN BEL.out q⟩
    · rw [show sameB a h m b h m' = false by rw [hE]; simp [hm]]
      have hm2 : (m == m') = false := beq_eq_false_iff_ne.2 hm
      clear hE
      go_enter Try.func18, Try.ntmps18
      go_wp2
      go_ret
      exact ⟨rfl, BEL.out⟩
  · rw [show sameB a h m b h' m' = false by rw [hE]; simp [hh]]
    have hh2 : (h == h') = false := beq_eq_false_iff_ne.2 hh
    clear hE
    go_enter Try.func18, Try.ntmps18
    go_wp2
    go_ret
    exact ⟨rfl, BEL.out⟩

set_option maxRecDepth 100000 in
set_option maxHeartbeats 1600000 in
theorem may_any (A : Option Addr) (n c : Nat) (h m : Int) (q : List Text) (w : World) (hq : Texts w A n c q) :
    Calls Try.prog 31 #[queueV A n c h m] w fun e w' => e = .returned (.bool (mayB q h m)) ∧ Below w.heap.size w w' := by
  have hbel : Below w.heap.size w (w.alloc (.cells #[.slice A n c, .int .i64 h, .int .i64 m] 24)) := (Below.refl _ _).alloc (Nat.le_refl _) _
  have HQ := hq.below hbel
  obtain ⟨c0, c1, c2⟩ := box_queue w A n c h m
  have hl := hq.len
  have hcm := Nat.le_trans hq.cap hq.max
  unfold maxLen at hcm
  have hmay := mayB_iff q h m
  rw [hl] at hmay
  obtain ⟨R, hR⟩ : ∃ R, R = mayB q h m := ⟨_, rfl⟩
  rw [← hR] at hmay ⊢
  have hnot : ¬ (1 ≤ n ∧ n ≤ 64 ∧ 0 ≤ h ∧ h < (n : Int) ∧ 0 ≤ m ∧ m ≤ (n : Int)) → R = false := fun hh => by
    cases hRv : R with
    | false => rfl
    | true => exact absurd (hmay.1 hRv).1 hh
  have NOT := Lib.hid hnot
  have MAY := Lib.hid hmay
  have BEL := Lib.hid hbel
  obtain ⟨w1, hw1⟩ : ∃ w1, w1 = w.alloc (.cells #[.slice A n c, .int .i64 h, .int .i64 m] 24) := ⟨_, rfl⟩
  rw [← hw1] at BEL HQ c0 c1 c2
  have HQ := Lib.hid HQ
  clear hq hbel hl hR hmay hnot
  by_cases k1 : n < 1
  · rw [NOT.out (by omega)]
    have k1' : n = 0 := by omega
    subst k1'
    go_enter Try.func31, Try.ntmps31
    rw [hw1] at c0 c1 c2 BEL
    go_wp2
    go_ret
    exact ⟨rfl, BEL.out⟩
  by_cases k2 : 64 < n
  · rw [NOT.out (by omega)]
    go_enter Try.func31, Try.ntmps31
    rw [hw1] at c0 c1 c2 BEL
    go_wp2
    go_ret
    exact ⟨rfl, BEL.out⟩
  by_cases k3 : h < 0
  · rw [NOT.out (by omega)]
    go_enter Try.func31, Try.ntmps31
    rw [hw1] at c0 c1 c2 BEL
    go_wp2
    go_ret
    exact ⟨rfl, BEL.out⟩
  by_cases k4 : (n : Int) ≤ h
  · rw [NOT.out (by omega)]
    go_enter Try.func31, Try.ntmps31
    rw [hw1] at c0 c1 c2 BEL
    go_wp2
    go_ret
    exact ⟨rfl, BEL.out⟩
  by_cases k5 : m < 0
  · rw [NOT.out (by omega)]
    go_enter Try.func31, Try.ntmps31
    rw [hw1] at c0 c1 c2 BEL
    go_wp2
    go_ret
    exact ⟨rfl, BEL.out⟩
  by_cases k6 : (n : Int) < m
  · rw [NOT.out (by omega)]
    go_enter Try.func31, Try.ntmps31
    rw [hw1] at c0 c1 c2 BEL
    go_wp2
    go_ret
    exact ⟨rfl, BEL.out⟩
  obtain ⟨H, rfl⟩ : ∃ H : Nat, h = H := ⟨h.toNat, by omega⟩
  obtain ⟨M, rfl⟩ : ∃ M : Nat, m = M := ⟨m.toNat, by omega⟩
  have hHn : H < n := by omega
  have hMn : M ≤ n := by omega
  have hHi : (H : Int) < n := by omega
  have hMi : (M : Int) ≤ n := by omega
  have hn0 : ¬ (n : Int) = 0 := by omega
  have IT := Lib.hid (show ∀ k, itm q H k = q.getD ((H + k) % n) [] from fun k => by unfold itm; rw [HQ.out.len])
  have hmay := MAY.out
  rw [Int.toNat_natCast, Int.toNat_natCast] at hmay
  have MAY := Lib.hid hmay
  clear NOT hmay k3 k4 k5 k6
  go_enter Try.func31, Try.ntmps31
  rw [hw1] at c0 c1 c2 BEL HQ
  go_wp2
  rw [← hw1] at c0 c1 c2 BEL HQ ⊢
  clear hw1
  go_loopw [4] (fun i wr => ∃ k : Nat, M ≤ k ∧ k ≤ n ∧ i = .int .i64 k ∧ (∀ y, M ≤ y → y < k → itm q H y = []) ∧ ∃ r, wr = w1.drewN r) (fun i _ => n - (intOf i).toNat)
  case atStart => exact ⟨M, Nat.le_refl _, hMn, rfl, fun y h1 h2 => by omega, 0, rfl⟩
  case round =>
    obtain ⟨k, hMk, hk, rfl, hall, r, rfl⟩ := hrel
    have ALL := Lib.hid hall
    clear hall
    by_cases hkn : k < n
    · have hpn : (H + k) % n < n := Nat.mod_lt _ (by omega)
      obtain ⟨b, o, Ai, ni, ci, rfl, hlt, hc, ha⟩ := HQ.out.at_ _ hpn
      have hni := ha.len
      have hcc := Nat.le_trans ha.cap ha.max
      unfold maxLen at hcc
      have ITK := Lib.hid (IT.out k)
      obtain ⟨p, hp⟩ : ∃ p, p = (H + k) % n := ⟨_, rfl⟩
      have hpi : ((H : Int) + (k : Int)) % (n : Int) = (p : Int) := by rw [hp]; simp
      have hpi2 : ((H : Int) + (k : Int)).tmod (n : Int) = (p : Int) := by rw [Int.tmod_eq_emod_of_nonneg (by omega)]; exact hpi
      rw [← hp] at hc hpn ITK hni
      have hpn2 : (p : Int) < (n : Int) := by omega
      have HNI := Lib.hid hni
      clear hp ha hni
      by_cases h0 : ni = 0
      · subst h0
        have he : itm q H k = [] := by rw [ITK.out]; exact List.eq_nil_of_length_eq_zero HNI.out
        have HE := Lib.hid he
        clear he
        go_wp2
        go_quiet (fail)
        go_wp2
        go_roundw
        case rel =>
          refine ⟨k + 1, by omega, by omega, by go_num, fun y h1 h2 => ?_, _, rfl⟩
          rcases Nat.lt_or_ge y k with h' | h'
          · exact ALL.out y h1 h'
          · obtain rfl : y = k := by omega
            exact HE.out
        case measure => simp [intOf]; omega
      · have hpos : (0 : Int) < (ni : Int) := by omega
        have hRf : R = false := by
          cases hRv : R with
          | false => rfl
          | true =>
            have := (MAY.out.1 hRv).2 k hkn hMk
            rw [ITK.out] at this
            rw [this] at HNI
            exact absurd HNI.out.symm h0
        have HF := Lib.hid hRf
        clear hRf h0
        go_wp2
        go_quiet (fail)
        go_wp2
        go_ret
        rw [HF.out]
        exact ⟨rfl, below_drewN (below_drewN BEL.out _) _⟩
    · obtain rfl : k = n := by omega
      have HT := Lib.hid (MAY.out.2 ⟨⟨by omega, by omega, by omega, by omega, by omega, by omega⟩, fun y h1 h2 => ALL.out y h2 h1⟩)
      go_wp2
      go_ret
      rw [HT.out]
      exact ⟨rfl, below_drewN BEL.out r⟩

theorem rcheck_any (A : Option Addr) (n c : Nat) (h m : Int) (q : List Text) (w : World) (hq : Texts w A n c q) :
    Calls Try.prog 20 #[queueV A n c h m] w fun e w' => e = .returned (.int .i64 (chkQ q h m)) ∧ Below w.heap.size w w' := by
  have hbel : Below w.heap.size w (w.alloc (.cells #[.slice A n c, .int .i64 h, .int .i64 m] 24)) := (Below.refl _ _).alloc (Nat.le_refl _) _
  have M := may_any A n c h m q _ (hq.below hbel)
  obtain ⟨c0, c1, c2⟩ := box_queue w A n c h m
  unfold chkQ
  have BEL := Lib.hid hbel
  obtain ⟨R, hR⟩ : ∃ R, R = mayB q h m := ⟨_, rfl⟩
  rw [← hR] at M ⊢
  have M := Lib.hid M
  clear hbel hR hq
  cases R with
  | true =>
    go_enter Try.func20, Try.ntmps20
    go_wp2_with fail
    refine M.out.mono ?_
    rintro e w2 ⟨rfl, hb2⟩
    have B2 := Lib.hid (BEL.out.trans (hb2.mono BEL.out.size))
    clear hb2
    go_wp2
    go_ret
    exact ⟨rfl, B2.out⟩
  | false =>
    go_enter Try.func20, Try.ntmps20
    go_wp2_with fail
    refine M.out.mono ?_
    rintro e w2 ⟨rfl, hb2⟩
    have B2 := Lib.hid (BEL.out.trans (hb2.mono BEL.out.size))
    clear hb2
    go_wp2
    go_ret
    exact ⟨rfl, B2.out⟩

end Go.Proofs.Ytbbnfbclbhkneaa
