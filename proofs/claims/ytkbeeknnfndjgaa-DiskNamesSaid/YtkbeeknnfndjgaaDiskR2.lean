/- Layer 5: the document's own: whether a disk may be. -/
import Derived.Test.YtkbeeknnfndjgaaDiskR
namespace Go.Proofs.Ytkbeeknnfndjgaa
open Go.RowKit
set_option linter.unusedVariables false

set_option maxHeartbeats 800000 in
theorem blank_any (A : Option Addr) (n c : Nat) (b : Txt) (w : World) (h : Arg w .u8 A n c b) :
    Calls Try.prog 88 #[.slice A n c] w fun e w' => e = .returned (.bool (b.all fun z => decide (z = 0))) ∧ w' = w := by
  have hl := h.len
  have hcm := Nat.le_trans h.cap h.max
  unfold maxLen at hcm
  have YES : (∀ y, y < n → b.getD y 0 = 0) → (b.all fun z => decide (z = 0)) = true := fun hall => by
    rw [List.all_eq_true]
    intro z hz
    obtain ⟨k, hk, rfl⟩ := List.getElem_of_mem hz
    have := hall k (by omega)
    rw [List.getD_eq_getElem?_getD, List.getElem?_eq_getElem hk, Option.getD_some] at this
    rw [decide_eq_true_iff]
    exact this
  have NO : ∀ y, y < n → b.getD y 0 ≠ 0 → (b.all fun z => decide (z = 0)) = false := fun y hy hne => by
    rw [List.all_eq_false]
    refine ⟨b[y]'(by omega), List.getElem_mem _, ?_⟩
    rw [List.getD_eq_getElem?_getD, List.getElem?_eq_getElem (by omega), Option.getD_some] at hne
    rw [decide_eq_true_iff]
    exact hne
  have YES := Lib.hid YES
  have NO := Lib.hid NO
  have H := Lib.hid h
  obtain ⟨R, hR⟩ : ∃ R, R = b.all fun z => decide (z = 0) := ⟨_, rfl⟩
  rw [← hR] at YES NO ⊢
  clear h hR
  go_enter Try.func88, Try.ntmps88
  go_wp2
  go_loop [3] (fun i => ∃ k : Nat, k ≤ n ∧ i = .int .i64 k ∧ ∀ y, y < k → b.getD y 0 = 0) (fun i => n - (intOf i).toNat)
  case atStart => exact ⟨0, Nat.zero_le _, rfl, fun y hy => by omega⟩
  case round =>
    obtain ⟨k, hk, rfl, hall⟩ := hrel
    have ALL := Lib.hid hall
    clear hall
    by_cases hkn : k < n
    · have hki : (k : Int) < (n : Int) := by omega
      obtain ⟨bb, o, rfl, _, hc⟩ := H.out.seq.int (j := k) (by omega)
      obtain ⟨z, hz⟩ : ∃ z, z = b.getD k 0 := ⟨_, rfl⟩
      rw [← hz] at hc
      by_cases h0 : z = 0
      · have HZ := Lib.hid (hz.symm.trans h0)
        have hq : (z != 0) = false := by rw [h0]; rfl
        clear hz h0
        go_wp2
        go_round
        case rel =>
          refine ⟨k + 1, by omega, by go_num, fun y hy => ?_⟩
          rcases Nat.lt_or_ge y k with h' | h'
          · exact ALL.out y h'
          · obtain rfl : y = k := by omega
            exact HZ.out
        case measure => simp [intOf]; omega
      · have HR := Lib.hid (NO.out k hkn (by rw [← hz]; exact h0))
        have hq : (z != 0) = true := bne_iff_ne.2 h0
        clear hz h0
        go_wp2
        go_ret
        rw [HR.out]
        exact ⟨rfl, rfl⟩
    · obtain rfl : k = n := by omega
      have HR := Lib.hid (YES.out ALL.out)
      go_wp2
      go_ret
      rw [HR.out]
      exact ⟨rfl, rfl⟩

theorem may_no1 {S : List Sec} {C : List Pnd} (h : ¬ (1 ≤ S.length ∧ S.length ≤ 1024 ∧ C.length ≤ 64)) : mayD S C = false := by
  cases hR : mayD S C with
  | false => rfl
  | true => exact absurd ((mayD_iff S C).1 hR).1 h
theorem may_no2 {S : List Sec} {C : List Pnd} {k : Nat} (hk : k < S.length) (h : secOk (S.getD k (false, [])) = false) : mayD S C = false := by
  unfold mayD
  rw [show S.all secOk = false from ?_]
  · simp
  · rw [List.all_eq_false]
    refine ⟨S[k], List.getElem_mem hk, ?_⟩
    rw [List.getD_eq_getElem?_getD, List.getElem?_eq_getElem hk, Option.getD_some] at h
    rw [h]; simp
theorem may_no3 {S : List Sec} {C : List Pnd} {k : Nat} (hk : k < C.length) (h : pndOk S.length (C.getD k (0, [])) = false) : mayD S C = false := by
  unfold mayD
  rw [show C.all (pndOk S.length) = false from ?_]
  · simp
  · rw [List.all_eq_false]
    refine ⟨C[k], List.getElem_mem hk, ?_⟩
    rw [List.getD_eq_getElem?_getD, List.getElem?_eq_getElem hk, Option.getD_some] at h
    rw [h]; simp
theorem may_yes {S : List Sec} {C : List Pnd} (h : 1 ≤ S.length ∧ S.length ≤ 1024 ∧ C.length ≤ 64) (h1 : ∀ k, k < S.length → secOk (S.getD k (false, [])) = true) (h2 : ∀ k, k < C.length → pndOk S.length (C.getD k (0, [])) = true) : mayD S C = true := by
  unfold mayD
  rw [show S.all secOk = true from ?_, show C.all (pndOk S.length) = true from ?_, decide_eq_true h.1, decide_eq_true h.2.1, decide_eq_true h.2.2]
  · rfl
  · rw [List.all_eq_true]
    intro s hs
    obtain ⟨k, hk, rfl⟩ := List.getElem_of_mem hs
    have := h2 k hk
    rwa [List.getD_eq_getElem?_getD, List.getElem?_eq_getElem hk, Option.getD_some] at this
  · rw [List.all_eq_true]
    intro s hs
    obtain ⟨k, hk, rfl⟩ := List.getElem_of_mem hs
    have := h1 k hk
    rwa [List.getD_eq_getElem?_getD, List.getElem?_eq_getElem hk, Option.getD_some] at this

set_option maxRecDepth 100000 in
set_option maxHeartbeats 3200000 in
theorem may_any (A : Option Addr) (n c : Nat) (A' : Option Addr) (n' c' : Nat) (S : List Sec) (C : List Pnd) (w : World) (hq : Dsk w A n c A' n' c' S C) :
    Calls Try.prog 59 #[diskV A n c A' n' c'] w fun e w' => e = .returned (.bool (mayD S C)) ∧ Below w.heap.size w w' := by
  have hbel : Below w.heap.size w (w.alloc (.cells #[.slice A n c, .slice A' n' c'] 25)) := (Below.refl _ _).alloc (Nat.le_refl _) _
  have HQ := hq.below hbel
  obtain ⟨c0, c1⟩ := box_disk w A n c A' n' c'
  have hl := hq.secs.len
  have hl' := hq.pnds.len
  have hcm := Nat.le_trans hq.secs.cap hq.secs.max
  have hcm' := Nat.le_trans hq.pnds.cap hq.pnds.max
  unfold maxLen at hcm hcm'
  have N1 := may_no1 (S := S) (C := C)
  have N2 := fun k => may_no2 (S := S) (C := C) (k := k)
  have N3 := fun k => may_no3 (S := S) (C := C) (k := k)
  have Y := may_yes (S := S) (C := C)
  rw [hl, hl'] at N1 Y
  rw [hl] at N2 N3
  rw [hl'] at N3
  obtain ⟨R, hR⟩ : ∃ R, R = mayD S C := ⟨_, rfl⟩
  rw [← hR] at N1 N2 N3 Y ⊢
  have N1 := Lib.hid N1
  have N2 := Lib.hid N2
  have N3 := Lib.hid N3
  have Y := Lib.hid Y
  have BEL := Lib.hid hbel
  obtain ⟨w1, hw1⟩ : ∃ w1, w1 = w.alloc (.cells #[.slice A n c, .slice A' n' c'] 25) := ⟨_, rfl⟩
  rw [← hw1] at BEL HQ c0 c1
  have HQ := Lib.hid HQ
  clear hq hbel hl hl' hR
  by_cases k1 : n < 1
  · have HR := Lib.hid (N1.out (by omega))
    have k1i : (n : Int) < 1 := by omega
    go_enter Try.func59, Try.ntmps59
    rw [hw1] at c0 c1 BEL
    go_wp2
    go_ret
    rw [HR.out]
    exact ⟨rfl, BEL.out⟩
  have k1i : ¬ (n : Int) < 1 := by omega
  by_cases k2 : 1024 < n
  · have HR := Lib.hid (N1.out (by omega))
    have k2i : (1024 : Int) < (n : Int) := by omega
    go_enter Try.func59, Try.ntmps59
    rw [hw1] at c0 c1 BEL
    go_wp2
    go_ret
    rw [HR.out]
    exact ⟨rfl, BEL.out⟩
  have k2i : ¬ (1024 : Int) < (n : Int) := by omega
  by_cases k3 : 64 < n'
  · have HR := Lib.hid (N1.out (by omega))
    have k3i : (64 : Int) < (n' : Int) := by omega
    go_enter Try.func59, Try.ntmps59
    rw [hw1] at c0 c1 BEL
    go_wp2
    go_ret
    try rw [HR.out]
    exact ⟨rfl, BEL.out⟩
  have k3i : ¬ (64 : Int) < (n' : Int) := by omega
  have OK := Lib.hid (show 1 ≤ n ∧ n ≤ 1024 ∧ n' ≤ 64 by omega)
  clear N1 k1 k2 k3
  go_enter Try.func59, Try.ntmps59
  rw [hw1] at c0 c1 BEL HQ
  go_wp2
  rw [← hw1] at c0 c1 BEL HQ ⊢
  clear hw1
  go_loop [4] (fun i => ∃ k : Nat, k ≤ n ∧ i = .int .i64 k ∧ ∀ y, y < k → secOk (S.getD y (false, [])) = true) (fun i => n - (intOf i).toNat)
  case atStart => exact ⟨0, Nat.zero_le _, rfl, fun y hy => by omega⟩
  case round =>
    obtain ⟨k, hk, rfl, hall⟩ := hrel
    have ALL := Lib.hid hall
    clear hall
    by_cases hkn : k < n
    · have hki : (k : Int) < (n : Int) := by omega
      obtain ⟨b, o, Ai, ni, ci, rfl, hlt, hc, hx, ha⟩ := HQ.out.secs.at_ k hkn
      have NOK := Lib.hid (N2.out k hkn)
      have BL := Lib.hid (blank_any Ai ni ci _ w1 ha)
      have hlen := ha.len
      have hLm := Nat.le_trans ha.cap ha.max
      unfold maxLen at hLm
      obtain ⟨sec, hsec⟩ : ∃ sec, sec = S.getD k (false, []) := ⟨_, rfl⟩
      rw [← hsec] at NOK BL hlen hx ha
      have HSEC := Lib.hid hsec
      obtain ⟨bad, txt⟩ := sec
      dsimp only at hlen hx BL ha
      clear hsec ha
      by_cases h32 : ni = 32
      · subst h32
        cases bad with
        | false =>
          have HOK := Lib.hid (show secOk (false, txt) = true by simp [secOk, hlen])
          clear hlen
          go_wp2
          go_round
          case rel =>
            refine ⟨k + 1, by omega, by go_num, fun y hy => ?_⟩
            rcases Nat.lt_or_ge y k with h' | h'
            · exact ALL.out y h'
            · obtain rfl : y = k := by omega
              rw [← HSEC.out]
              exact HOK.out
          case measure => simp [intOf]; omega
        | true =>
          obtain ⟨bl, hbl⟩ : ∃ bl, bl = txt.all fun z => decide (z = 0) := ⟨_, rfl⟩
          rw [← hbl] at BL
          cases bl with
          | true =>
            have HOK := Lib.hid (show secOk (true, txt) = true by simp only [secOk, hlen, ← hbl]; rfl)
            clear hlen hbl
            go_wp2_with fail
            refine BL.out.mono ?_
            rintro e w2 ⟨rfl, rfl⟩
            go_wp2
            go_round
            case rel =>
              refine ⟨k + 1, by omega, by go_num, fun y hy => ?_⟩
              rcases Nat.lt_or_ge y k with h' | h'
              · exact ALL.out y h'
              · obtain rfl : y = k := by omega
                rw [← HSEC.out]
                exact HOK.out
            case measure => simp [intOf]; omega
          | false =>
            have HR := Lib.hid (NOK.out (by simp only [secOk, hlen, ← hbl]; rfl))
            clear hlen hbl
            go_wp2_with fail
            refine BL.out.mono ?_
            rintro e w2 ⟨rfl, rfl⟩
            go_wp2
            go_ret
            rw [HR.out]
            exact ⟨rfl, BEL.out⟩
      · have HR := Lib.hid (NOK.out (by simp [secOk, hlen, h32]))
        have h32i : ((ni : Int) != 32) = true := bne_iff_ne.2 (by omega)
        clear hlen
        go_wp2
        go_ret
        rw [HR.out]
        exact ⟨rfl, BEL.out⟩
    · obtain rfl : k = n := by omega
      have ALL1 := Lib.hid ALL.out
      clear ALL
      go_wp2
      go_loop [5] (fun i => ∃ j : Nat, j ≤ n' ∧ i = .int .i64 j ∧ ∀ y, y < j → pndOk k (C.getD y (0, [])) = true) (fun i => n' - (intOf i).toNat)
      case atStart => exact ⟨0, Nat.zero_le _, rfl, fun y hy => by omega⟩
      case round =>
        obtain ⟨j, hj, rfl, hall⟩ := hrel
        have ALL := Lib.hid hall
        clear hall
        by_cases hjn : j < n'
        · have hji : (j : Int) < (n' : Int) := by omega
          obtain ⟨b, o, Ai, ni, ci, rfl, hlt, hc, hx, ha⟩ := HQ.out.pnds.at_ j hjn
          have NOK := Lib.hid (N3.out j hjn)
          have hlen := ha.len
          have hLm := Nat.le_trans ha.cap ha.max
          unfold maxLen at hLm
          obtain ⟨pnd, hpnd⟩ : ∃ pnd, pnd = C.getD j (0, []) := ⟨_, rfl⟩
          rw [← hpnd] at NOK hlen hx
          have HPND := Lib.hid hpnd
          obtain ⟨at_, txt⟩ := pnd
          dsimp only at hlen hx
          clear hpnd ha
          by_cases a0 : at_ < 0
          · have HR := Lib.hid (NOK.out (by simp [pndOk]; omega))
            clear hlen
            go_wp2
            go_ret
            rw [HR.out]
            exact ⟨rfl, BEL.out⟩
          by_cases a1 : (k : Int) ≤ at_
          · have HR := Lib.hid (NOK.out (by simp [pndOk]; omega))
            clear hlen
            go_wp2
            go_ret
            rw [HR.out]
            exact ⟨rfl, BEL.out⟩
          by_cases h32 : ni = 32
          · subst h32
            have HOK := Lib.hid (show pndOk k (at_, txt) = true by simp [pndOk, hlen]; omega)
            clear hlen
            go_wp2
            go_round
            case rel =>
              refine ⟨j + 1, by omega, by go_num, fun y hy => ?_⟩
              rcases Nat.lt_or_ge y j with h' | h'
              · exact ALL.out y h'
              · obtain rfl : y = j := by omega
                rw [← HPND.out]
                exact HOK.out
            case measure => simp [intOf]; omega
          · have HR := Lib.hid (NOK.out (by simp [pndOk, hlen, h32]))
            have h32i : ((ni : Int) != 32) = true := bne_iff_ne.2 (by omega)
            clear hlen
            go_wp2
            go_ret
            rw [HR.out]
            exact ⟨rfl, BEL.out⟩
        · obtain rfl : j = n' := by omega
          have HR := Lib.hid (Y.out OK.out ALL1.out ALL.out)
          go_wp2
          go_ret
          rw [HR.out]
          exact ⟨rfl, BEL.out⟩

theorem rcheck_any (A : Option Addr) (n c : Nat) (A' : Option Addr) (n' c' : Nat) (S : List Sec) (C : List Pnd) (w : World) (hq : Dsk w A n c A' n' c' S C) :
    Calls Try.prog 28 #[diskV A n c A' n' c'] w fun e w' => e = .returned (.int .i64 (chkD S C)) ∧ Below w.heap.size w w' := by
  have hbel : Below w.heap.size w (w.alloc (.cells #[.slice A n c, .slice A' n' c'] 25)) := (Below.refl _ _).alloc (Nat.le_refl _) _
  have M := may_any A n c A' n' c' S C _ (hq.below hbel)
  obtain ⟨c0, c1⟩ := box_disk w A n c A' n' c'
  unfold chkD
  have BEL := Lib.hid hbel
  obtain ⟨R, hR⟩ : ∃ R, R = mayD S C := ⟨_, rfl⟩
  rw [← hR] at M ⊢
  have M := Lib.hid M
  clear hbel hR hq
  cases R with
  | true =>
    go_enter Try.func28, Try.ntmps28
    go_wp2_with fail
    refine M.out.mono ?_
    rintro e w2 ⟨rfl, hb2⟩
    have B2 := Lib.hid (BEL.out.trans (hb2.mono BEL.out.size))
    clear hb2
    go_wp2
    go_ret
    exact ⟨rfl, B2.out⟩
  | false =>
    go_enter Try.func28, Try.ntmps28
    go_wp2_with fail
    refine M.out.mono ?_
    rintro e w2 ⟨rfl, hb2⟩
    have B2 := Lib.hid (BEL.out.trans (hb2.mono BEL.out.size))
    clear hb2
    go_wp2
    go_ret
    exact ⟨rfl, B2.out⟩

end Go.Proofs.Ytkbeeknnfndjgaa
