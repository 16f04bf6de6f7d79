/- Layer 5: the document's own: how large a disk is. -/
/- Layer 5: the document's own: whether a disk may be. -/
/- Layer 5: the document's own: whether two disks are the same. -/
/- Layer 5: the document's own: a disk in new memory. -/
/- Layer 5: the document's own: what is asked of a sector: its error, whether a write waits, what is read. -/
/- Layer 5: the document's own: a disk with a write more. -/
/- Layer 5: the document's own: a write. -/
/- Layer 5: the document's own: a disk behind a crash. -/
/- Layer 5: the document's own: a disk behind a flush, and behind a crash; a new one. -/
import Derived.Test.YtnmlplfcdnakhaaDiskQ
import Derived.Lib.Bytes
import Derived.WalkMore
import Derived.ScopeJumps
import Derived.StillTailTactics
import Derived.BigQuiet
import Derived.Test.YtnmlplfcdnakhaaStepDup
import Derived.Test.YtnmlplfcdnakhaaHeldOne
import Derived.Lib.QuoteBits
import Derived.Deep.Cut
namespace Go.Proofs.Ytnmlplfcdnakhaa
open Go.RowKit
set_option linter.unusedVariables false

theorem great_hit1 {S : List Sec} {C : List Pnd} {m : Int} {k : Nat} (hk : k < S.length) (hm : (k : Int) < m) (h : 100 < (S.getD k (false, [])).2.length) : greatD S C m = true := by
  unfold greatD
  rw [Bool.or_eq_true, Bool.or_eq_true, Bool.or_eq_true, List.any_eq_true]
  refine .inl (.inl (.inl ⟨S.getD k (false, []), ?_, by simp only [decide_eq_true_iff]; exact h⟩))
  rw [List.getD_eq_getElem?_getD, List.getElem?_eq_getElem hk, Option.getD_some]
  rw [List.mem_take_iff_getElem]
  exact ⟨k, by omega, rfl⟩
theorem great_hit2 {S : List Sec} {C : List Pnd} {m : Int} {k : Nat} (hk : k < C.length) (hm : k < 100) (h : 100 < (C.getD k (0, [])).2.length) : greatD S C m = true := by
  unfold greatD
  rw [Bool.or_eq_true, Bool.or_eq_true, Bool.or_eq_true, List.any_eq_true, List.any_eq_true]
  refine .inl (.inl (.inr ⟨C.getD k (0, []), ?_, by simp only [decide_eq_true_iff]; exact h⟩))
  rw [List.getD_eq_getElem?_getD, List.getElem?_eq_getElem hk, Option.getD_some]
  rw [List.mem_take_iff_getElem]
  exact ⟨k, by omega, rfl⟩
theorem great_end {S : List Sec} {C : List Pnd} {m : Int} (h1 : ∀ y : Nat, y < S.length → (y : Int) < m → (S.getD y (false, [])).2.length ≤ 100) (h2 : ∀ y, y < C.length → y < 100 → (C.getD y (0, [])).2.length ≤ 100) :
    greatD S C m = (decide (m < (S.length : Int)) || decide (100 < C.length)) := by
  unfold greatD
  rw [show (S.take m.toNat).any (fun s => decide (100 < s.2.length)) = false from ?_, show (C.take 100).any (fun p => decide (100 < p.2.length)) = false from ?_, Bool.false_or, Bool.false_or]
  · rw [List.any_eq_false]
    intro t ht
    obtain ⟨k, hk, rfl⟩ := List.mem_take_iff_getElem.1 ht
    have := h2 k (by omega) (by omega)
    rw [List.getD_eq_getElem?_getD, List.getElem?_eq_getElem (by omega), Option.getD_some] at this
    simp only [decide_eq_true_iff]
    omega
  · rw [List.any_eq_false]
    intro t ht
    obtain ⟨k, hk, rfl⟩ := List.mem_take_iff_getElem.1 ht
    have := h1 k (by omega) (by omega)
    rw [List.getD_eq_getElem?_getD, List.getElem?_eq_getElem (by omega), Option.getD_some] at this
    simp only [decide_eq_true_iff]
    omega

set_option maxRecDepth 100000 in
set_option maxHeartbeats 1600000 in
theorem great_any (A : Option Addr) (n c : Nat) (A' : Option Addr) (n' c' : Nat) (S : List Sec) (C : List Pnd) (m : Int) (w : World) (hq : Dsk w A n c A' n' c' S C) :
    Calls Try.prog 18 #[diskV A n c A' n' c', .int .i64 m] w fun e w' => e = .returned (.bool (greatD S C m)) ∧ Below w.heap.size w w' := by
  have hbel : Below w.heap.size w (w.alloc (.cells #[.slice A n c, .slice A' n' c'] 32)) := (Below.refl _ _).alloc (Nat.le_refl _) _
  have HQ := hq.below hbel
  obtain ⟨c0, c1⟩ := box_disk w A n c A' n' c'
  have hl := hq.secs.len
  have hl' := hq.pnds.len
  have hcm := Nat.le_trans hq.secs.cap hq.secs.max
  have hcm' := Nat.le_trans hq.pnds.cap hq.pnds.max
  unfold maxLen at hcm hcm'
  have H1 := Lib.hid fun k (hk : k < n) => great_hit1 (S := S) (C := C) (m := m) (k := k) (by omega)
  have H2 := Lib.hid fun k (hk : k < n') => great_hit2 (S := S) (C := C) (m := m) (k := k) (by omega)
  have hend := great_end (S := S) (C := C) (m := m)
  rw [hl, hl'] at hend
  have END := Lib.hid hend
  obtain ⟨G, hG⟩ : ∃ G, G = greatD S C m := ⟨_, rfl⟩
  rw [← hG] at H1 H2 END ⊢
  obtain ⟨w1, hw1⟩ : ∃ w1, w1 = w.alloc (.cells #[.slice A n c, .slice A' n' c'] 32) := ⟨_, rfl⟩
  rw [← hw1] at hbel HQ c0 c1
  have HQ := Lib.hid HQ
  have BEL := Lib.hid hbel
  clear hq hbel hend hG hl hl'
  go_enter Try.func18, Try.ntmps18
  go_wp2
  rw [← hw1]
  clear hw1
  go_loop [5] (fun i => ∃ k : Nat, k ≤ n ∧ i = .int .i64 k ∧ ∀ y : Nat, y < k → (y : Int) < m → (S.getD y (false, [])).2.length ≤ 100) (fun i => n - (intOf i).toNat)
  case atStart => exact ⟨0, Nat.zero_le _, rfl, fun y hy => by omega⟩
  case round =>
    obtain ⟨k, hk, rfl, hall⟩ := hrel
    have ALL := Lib.hid hall
    clear hall
    by_cases hkn : k < n ∧ (k : Int) < m
    · obtain ⟨hkn, hkm⟩ := hkn
      obtain ⟨b, o, Ai, ni, ci, rfl, hlt, hc, hx, ha⟩ := HQ.out.secs.at_ k hkn
      have hni := ha.len
      have hLm := Nat.le_trans ha.cap ha.max
      unfold maxLen at hLm
      obtain ⟨L, hL⟩ : ∃ L, L = (S.getD k (false, [])).2.length := ⟨_, rfl⟩
      have HL := Lib.hid hL
      rw [← hL] at hni
      subst hni
      have hki : (k : Int) < (n : Int) := by omega
      clear hL ha
      by_cases h100 : 100 < L
      · have HG := Lib.hid (H1.out k hkn hkm (by rw [← HL.out]; exact h100))
        have h100i : (100 : Int) < (L : Int) := by omega
        go_wp2
        go_ret
        rw [HG.out]
        exact ⟨rfl, BEL.out⟩
      · have h100i : ¬ (100 : Int) < (L : Int) := by omega
        go_wp2
        go_round
        case rel =>
          refine ⟨k + 1, by omega, by go_num, fun y hy hym => ?_⟩
          rcases Nat.lt_or_ge y k with h | h
          · exact ALL.out y h hym
          · obtain rfl : y = k := by omega
            rw [← HL.out]; omega
        case measure => simp [intOf]; omega
    · have ALL2 := Lib.hid (show ∀ y : Nat, y < n → (y : Int) < m → (S.getD y (false, [])).2.length ≤ 100 from fun y h1 h2 => ALL.out y (by omega) h2)
      clear ALL
      have hf : (decide ((k : Int) < (n : Int)) && decide ((k : Int) < m)) = false := by
        rw [Bool.and_eq_false_iff, decide_eq_false_iff_not, decide_eq_false_iff_not]
        omega
      by_cases hkn2 : k < n
      · have hki : (k : Int) < (n : Int) := by omega
        have hkm : ¬ (k : Int) < m := fun h => hkn ⟨hkn2, h⟩
        go_wp2
        go_loop [6] (fun i => ∃ j : Nat, j ≤ n' ∧ i = .int .i64 j ∧ ∀ y : Nat, y < j → y < 100 → (C.getD y (0, [])).2.length ≤ 100) (fun i => n' - (intOf i).toNat)
        case atStart => exact ⟨0, Nat.zero_le _, rfl, fun y hy => by omega⟩
        case round =>
          obtain ⟨j, hj, rfl, hall⟩ := hrel
          have ALL := Lib.hid hall
          clear hall
          by_cases hjn : j < n'
          · have hji : (j : Int) < (n' : Int) := by omega
            by_cases hj100 : j < 100
            · have hj100i : (j : Int) < 100 := by omega
              obtain ⟨b, o, Ai, ni, ci, rfl, hlt, hc, hx, ha⟩ := HQ.out.pnds.at_ j hjn
              have hni := ha.len
              have hLm := Nat.le_trans ha.cap ha.max
              unfold maxLen at hLm
              obtain ⟨L, hL⟩ : ∃ L, L = (C.getD j (0, [])).2.length := ⟨_, rfl⟩
              have HL := Lib.hid hL
              rw [← hL] at hni
              subst hni
              clear hL ha
              by_cases h100 : 100 < L
              · have HG := Lib.hid (H2.out j hjn hj100 (by rw [← HL.out]; exact h100))
                have h100i : (100 : Int) < (L : Int) := by omega
                go_wp2
                go_ret
                rw [HG.out]
                exact ⟨rfl, BEL.out⟩
              · have h100i : ¬ (100 : Int) < (L : Int) := by omega
                go_wp2
                go_round
                case rel =>
                  refine ⟨j + 1, by omega, by go_num, fun y hy hym => ?_⟩
                  rcases Nat.lt_or_ge y j with h | h
                  · exact ALL.out y h hym
                  · obtain rfl : y = j := by omega
                    rw [← HL.out]; omega
                case measure => simp [intOf]; omega
            · have hj100i : ¬ (j : Int) < 100 := by omega
              have HE := Lib.hid (END.out ALL2.out fun y h1 h2 => ALL.out y (by omega) h2)
              have h100n : (100 : Int) < (n' : Int) := by omega
              have hmn : m < (n : Int) := by omega
              have EM := Lib.hid (decide_eq_true hmn)
              go_wp2
              go_ret
              rw [HE.out, EM.out]
              exact ⟨rfl, BEL.out⟩
          · have hji : ¬ (j : Int) < (n' : Int) := by omega
            have HE := Lib.hid (END.out ALL2.out fun y h1 h2 => ALL.out y (by omega) h2)
            have hmn : m < (n : Int) := by omega
            have EM := Lib.hid (decide_eq_true hmn)
            go_wp2
            go_ret
            rw [HE.out, EM.out]
            exact ⟨rfl, BEL.out⟩
      · have hki : ¬ (k : Int) < (n : Int) := by omega
        go_wp2
        go_loop [6] (fun i => ∃ j : Nat, j ≤ n' ∧ i = .int .i64 j ∧ ∀ y : Nat, y < j → y < 100 → (C.getD y (0, [])).2.length ≤ 100) (fun i => n' - (intOf i).toNat)
        case atStart => exact ⟨0, Nat.zero_le _, rfl, fun y hy => by omega⟩
        case round =>
          obtain ⟨j, hj, rfl, hall⟩ := hrel
          have ALL := Lib.hid hall
          clear hall
          by_cases hjn : j < n'
          · have hji : (j : Int) < (n' : Int) := by omega
            by_cases hj100 : j < 100
            · have hj100i : (j : Int) < 100 := by omega
              obtain ⟨b, o, Ai, ni, ci, rfl, hlt, hc, hx, ha⟩ := HQ.out.pnds.at_ j hjn
              have hni := ha.len
              have hLm := Nat.le_trans ha.cap ha.max
              unfold maxLen at hLm
              obtain ⟨L, hL⟩ : ∃ L, L = (C.getD j (0, [])).2.length := ⟨_, rfl⟩
              have HL := Lib.hid hL
              rw [← hL] at hni
              subst hni
              clear hL ha
              by_cases h100 : 100 < L
              · have HG := Lib.hid (H2.out j hjn hj100 (by rw [← HL.out]; exact h100))
                have h100i : (100 : Int) < (L : Int) := by omega
                go_wp2
                go_ret
                rw [HG.out]
                exact ⟨rfl, BEL.out⟩
              · have h100i : ¬ (100 : Int) < (L : Int) := by omega
                go_wp2
                go_round
                case rel =>
                  refine ⟨j + 1, by omega, by go_num, fun y hy hym => ?_⟩
                  rcases Nat.lt_or_ge y j with h | h
                  · exact ALL.out y h hym
                  · obtain rfl : y = j := by omega
                    rw [← HL.out]; omega
                case measure => simp [intOf]; omega
            · have hj100i : ¬ (j : Int) < 100 := by omega
              have HE := Lib.hid (END.out ALL2.out fun y h1 h2 => ALL.out y (by omega) h2)
              have h100n : (100 : Int) < (n' : Int) := by omega
              have EN := Lib.hid (decide_eq_true (show 100 < n' by omega))
              by_cases hmn : m < (n : Int)
              · have EM := Lib.hid (decide_eq_true hmn)
                go_wp2
                go_ret
                rw [HE.out, EM.out]
                exact ⟨rfl, BEL.out⟩
              · have EM := Lib.hid (decide_eq_false hmn)
                go_wp2
                go_ret
                rw [HE.out, EM.out, EN.out]
                exact ⟨rfl, BEL.out⟩
          · have hji : ¬ (j : Int) < (n' : Int) := by omega
            have HE := Lib.hid (END.out ALL2.out fun y h1 h2 => ALL.out y (by omega) h2)
            by_cases hmn : m < (n : Int)
            · have EM := Lib.hid (decide_eq_true hmn)
              go_wp2
              go_ret
              rw [HE.out, EM.out]
              exact ⟨rfl, BEL.out⟩
            · have EM := Lib.hid (decide_eq_false hmn)
              by_cases h100n : 100 < n'
              · have h100i : (100 : Int) < (n' : Int) := by omega
                have EN := Lib.hid (decide_eq_true h100n)
                go_wp2
                go_ret
                rw [HE.out, EM.out, EN.out]
                exact ⟨rfl, BEL.out⟩
              · have h100i : ¬ (100 : Int) < (n' : Int) := by omega
                have EN := Lib.hid (decide_eq_false h100n)
                go_wp2
                go_ret
                rw [HE.out, EM.out, EN.out]
                exact ⟨rfl, BEL.out⟩

end Go.Proofs.Ytnmlplfcdnakhaa

namespace Go.Proofs.Ytnmlplfcdnakhaa
open Go.RowKit
set_option linter.unusedVariables false

set_option maxHeartbeats 800000 in
theorem blank_any (A : Option Addr) (n c : Nat) (b : Txt) (w : World) (h : Arg w .u8 A n c b) :
    Calls Try.prog 138 #[.slice A n c] w fun e w' => e = .returned (.bool (b.all fun z => decide (z = 0))) ∧ w' = w := by
  have hl := h.len
  have hcm := Nat.le_trans h.cap h.max
  unfold maxLen at hcm
  have YES : (∀ y, y < n → b.getD y 0 = 0) → (b.all fun z => decide (z = 0)) = true := fun hall => by
    rw [List.all_eq_true]
    intro z hz
    obtain ⟨k, hk, rfl⟩ := List.getElem_of_mem hz
    have := hall k (by omega)
    rw [List.getD_eq_getElem?_getD, List.getElem?_eq_getElem hk, Option.getD_some] at this
    rw [decide_eq_true_iff]
    exact this
  have NO : ∀ y, y < n → b.getD y 0 ≠ 0 → (b.all fun z => decide (z = 0)) = false := fun y hy hne => by
    rw [List.all_eq_false]
    refine ⟨b[y]'(by omega), List.getElem_mem _, ?_⟩
    rw [List.getD_eq_getElem?_getD, List.getElem?_eq_getElem (by omega), Option.getD_some] at hne
    rw [decide_eq_true_iff]
    exact hne
  have YES := Lib.hid YES
  have NO := Lib.hid NO
  have H := Lib.hid h
  obtain ⟨R, hR⟩ : ∃ R, R = b.all fun z => decide (z = 0) := ⟨_, rfl⟩
  rw [← hR] at YES NO ⊢
  clear h hR
  go_enter Try.func138, Try.ntmps138
  go_wp2
  go_loop [3] (fun i => ∃ k : Nat, k ≤ n ∧ i = .int .i64 k ∧ ∀ y, y < k → b.getD y 0 = 0) (fun i => n - (intOf i).toNat)
  case atStart => exact ⟨0, Nat.zero_le _, rfl, fun y hy => by omega⟩
  case round =>
    obtain ⟨k, hk, rfl, hall⟩ := hrel
    have ALL := Lib.hid hall
    clear hall
    by_cases hkn : k < n
    · have hki : (k : Int) < (n : Int) := by omega
      obtain ⟨bb, o, rfl, _, hc⟩ := H.out.seq.int (j := k) (by omega)
      obtain ⟨z, hz⟩ : ∃ z, z = b.getD k 0 := ⟨_, rfl⟩
      rw [← hz] at hc
      by_cases h0 : z = 0
      · have HZ := Lib.hid (hz.symm.trans h0)
        have hq : (z != 0) = false := by rw [h0]; rfl
        clear hz h0
        go_wp2
        go_round
        case rel =>
          refine ⟨k + 1, by omega, by go_num, fun y hy => ?_⟩
          rcases Nat.lt_or_ge y k with h' | h'
          · exact ALL.out y h'
          · obtain rfl : y = k := by omega
            exact HZ.out
        case measure => simp [intOf]; omega
      · have HR := Lib.hid (NO.out k hkn (by rw [← hz]; exact h0))
        have hq : (z != 0) = true := bne_iff_ne.2 h0
        clear hz h0
        go_wp2
        go_ret
        rw [HR.out]
        exact ⟨rfl, rfl⟩
    · obtain rfl : k = n := by omega
      have HR := Lib.hid (YES.out ALL.out)
      go_wp2
      go_ret
      rw [HR.out]
      exact ⟨rfl, rfl⟩

theorem may_no1 {S : List Sec} {C : List Pnd} (h : ¬ (1 ≤ S.length ∧ S.length ≤ 1024 ∧ C.length ≤ 64)) : mayD S C = false := by
  cases hR : mayD S C with
  | false => rfl
  | true => exact absurd ((mayD_iff S C).1 hR).1 h
theorem may_no2 {S : List Sec} {C : List Pnd} {k : Nat} (hk : k < S.length) (h : secOk (S.getD k (false, [])) = false) : mayD S C = false := by
  unfold mayD
  rw [show S.all secOk = false from ?_]
  · simp
  · rw [List.all_eq_false]
    refine ⟨S[k], List.getElem_mem hk, ?_⟩
    rw [List.getD_eq_getElem?_getD, List.getElem?_eq_getElem hk, Option.getD_some] at h
    rw [h]; simp
theorem may_no3 {S : List Sec} {C : List Pnd} {k : Nat} (hk : k < C.length) (h : pndOk S.length (C.getD k (0, [])) = false) : mayD S C = false := by
  unfold mayD
  rw [show C.all (pndOk S.length) = false from ?_]
  · simp
  · rw [List.all_eq_false]
    refine ⟨C[k], List.getElem_mem hk, ?_⟩
    rw [List.getD_eq_getElem?_getD, List.getElem?_eq_getElem hk, Option.getD_some] at h
    rw [h]; simp
theorem may_yes {S : List Sec} {C : List Pnd} (h : 1 ≤ S.length ∧ S.length ≤ 1024 ∧ C.length ≤ 64) (h1 : ∀ k, k < S.length → secOk (S.getD k (false, [])) = true) (h2 : ∀ k, k < C.length → pndOk S.length (C.getD k (0, [])) = true) : mayD S C = true := by
  unfold mayD
  rw [show S.all secOk = true from ?_, show C.all (pndOk S.length) = true from ?_, decide_eq_true h.1, decide_eq_true h.2.1, decide_eq_true h.2.2]
  · rfl
  · rw [List.all_eq_true]
    intro s hs
    obtain ⟨k, hk, rfl⟩ := List.getElem_of_mem hs
    have := h2 k hk
    rwa [List.getD_eq_getElem?_getD, List.getElem?_eq_getElem hk, Option.getD_some] at this
  · rw [List.all_eq_true]
    intro s hs
    obtain ⟨k, hk, rfl⟩ := List.getElem_of_mem hs
    have := h1 k hk
    rwa [List.getD_eq_getElem?_getD, List.getElem?_eq_getElem hk, Option.getD_some] at this

set_option maxRecDepth 100000 in
set_option maxHeartbeats 3200000 in
theorem may_any (A : Option Addr) (n c : Nat) (A' : Option Addr) (n' c' : Nat) (S : List Sec) (C : List Pnd) (w : World) (hq : Dsk w A n c A' n' c' S C) :
    Calls Try.prog 86 #[diskV A n c A' n' c'] w fun e w' => e = .returned (.bool (mayD S C)) ∧ Below w.heap.size w w' := by
  have hbel : Below w.heap.size w (w.alloc (.cells #[.slice A n c, .slice A' n' c'] 32)) := (Below.refl _ _).alloc (Nat.le_refl _) _
  have HQ := hq.below hbel
  obtain ⟨c0, c1⟩ := box_disk w A n c A' n' c'
  have hl := hq.secs.len
  have hl' := hq.pnds.len
  have hcm := Nat.le_trans hq.secs.cap hq.secs.max
  have hcm' := Nat.le_trans hq.pnds.cap hq.pnds.max
  unfold maxLen at hcm hcm'
  have N1 := may_no1 (S := S) (C := C)
  have N2 := fun k => may_no2 (S := S) (C := C) (k := k)
  have N3 := fun k => may_no3 (S := S) (C := C) (k := k)
  have Y := may_yes (S := S) (C := C)
  rw [hl, hl'] at N1 Y
  rw [hl] at N2 N3
  rw [hl'] at N3
  obtain ⟨R, hR⟩ : ∃ R, R = mayD S C := ⟨_, rfl⟩
  rw [← hR] at N1 N2 N3 Y ⊢
  have N1 := Lib.hid N1
  have N2 := Lib.hid N2
  have N3 := Lib.hid N3
  have Y := Lib.hid Y
  have BEL := Lib.hid hbel
  obtain ⟨w1, hw1⟩ : ∃ w1, w1 = w.alloc (.cells #[.slice A n c, .slice A' n' c'] 32) := ⟨_, rfl⟩
  rw [← hw1] at BEL HQ c0 c1
  have HQ := Lib.hid HQ
  clear hq hbel hl hl' hR
  by_cases k1 : n < 1
  · have HR := Lib.hid (N1.out (by omega))
    have k1i : (n : Int) < 1 := by omega
    go_enter Try.func86, Try.ntmps86
    rw [hw1] at c0 c1 BEL
    go_wp2
    go_ret
    rw [HR.out]
    exact ⟨rfl, BEL.out⟩
  have k1i : ¬ (n : Int) < 1 := by omega
  by_cases k2 : 1024 < n
  · have HR := Lib.hid (N1.out (by omega))
    have k2i : (1024 : Int) < (n : Int) := by omega
    go_enter Try.func86, Try.ntmps86
    rw [hw1] at c0 c1 BEL
    go_wp2
    go_ret
    rw [HR.out]
    exact ⟨rfl, BEL.out⟩
  have k2i : ¬ (1024 : Int) < (n : Int) := by omega
  by_cases k3 : 64 < n'
  · have HR := Lib.hid (N1.out (by omega))
    have k3i : (64 : Int) < (n' : Int) := by omega
    go_enter Try.func86, Try.ntmps86
    rw [hw1] at c0 c1 BEL
    go_wp2
    go_ret
    try rw [HR.out]
    exact ⟨rfl, BEL.out⟩
  have k3i : ¬ (64 : Int) < (n' : Int) := by omega
  have OK := Lib.hid (show 1 ≤ n ∧ n ≤ 1024 ∧ n' ≤ 64 by omega)
  clear N1 k1 k2 k3
  go_enter Try.func86, Try.ntmps86
  rw [hw1] at c0 c1 BEL HQ
  go_wp2
  rw [← hw1] at c0 c1 BEL HQ ⊢
  clear hw1
  go_loop [4] (fun i => ∃ k : Nat, k ≤ n ∧ i = .int .i64 k ∧ ∀ y, y < k → secOk (S.getD y (false, [])) = true) (fun i => n - (intOf i).toNat)
  case atStart => exact ⟨0, Nat.zero_le _, rfl, fun y hy => by omega⟩
  case round =>
    obtain ⟨k, hk, rfl, hall⟩ := hrel
    have ALL := Lib.hid hall
    clear hall
    by_cases hkn : k < n
    · have hki : (k : Int) < (n : Int) := by omega
      obtain ⟨b, o, Ai, ni, ci, rfl, hlt, hc, hx, ha⟩ := HQ.out.secs.at_ k hkn
      have NOK := Lib.hid (N2.out k hkn)
      have BL := Lib.hid (blank_any Ai ni ci _ w1 ha)
      have hlen := ha.len
      have hLm := Nat.le_trans ha.cap ha.max
      unfold maxLen at hLm
      obtain ⟨sec, hsec⟩ : ∃ sec, sec = S.getD k (false, []) := ⟨_, rfl⟩
      rw [← hsec] at NOK BL hlen hx ha
      have HSEC := Lib.hid hsec
      obtain ⟨bad, txt⟩ := sec
      dsimp only at hlen hx BL ha
      clear hsec ha
      by_cases h32 : ni = 32
      · subst h32
        cases bad with
        | false =>
          have HOK := Lib.hid (show secOk (false, txt) = true by simp [secOk, hlen])
          clear hlen
          go_wp2
          go_round
          case rel =>
            refine ⟨k + 1, by omega, by go_num, fun y hy => ?_⟩
            rcases Nat.lt_or_ge y k with h' | h'
            · exact ALL.out y h'
            · obtain rfl : y = k := by omega
              rw [← HSEC.out]
              exact HOK.out
          case measure => simp [intOf]; omega
        | true =>
          obtain ⟨bl, hbl⟩ : ∃ bl, bl = txt.all fun z => decide (z = 0) := ⟨_, rfl⟩
          rw [← hbl] at BL
          cases bl with
          | true =>
            have HOK := Lib.hid (show secOk (true, txt) = true by simp only [secOk, hlen, ← hbl]; rfl)
            clear hlen hbl
            go_wp2_with fail
            refine BL.out.mono ?_
            rintro e w2 ⟨rfl, rfl⟩
            go_wp2
            go_round
            case rel =>
              refine ⟨k + 1, by omega, by go_num, fun y hy => ?_⟩
              rcases Nat.lt_or_ge y k with h' | h'
              · exact ALL.out y h'
              · obtain rfl : y = k := by omega
                rw [← HSEC.out]
                exact HOK.out
            case measure => simp [intOf]; omega
          | false =>
            have HR := Lib.hid (NOK.out (by simp only [secOk, hlen, ← hbl]; rfl))
            clear hlen hbl
            go_wp2_with fail
            refine BL.out.mono ?_
            rintro e w2 ⟨rfl, rfl⟩
            go_wp2
            go_ret
            rw [HR.out]
            exact ⟨rfl, BEL.out⟩
      · have HR := Lib.hid (NOK.out (by simp [secOk, hlen, h32]))
        have h32i : ((ni : Int) != 32) = true := bne_iff_ne.2 (by omega)
        clear hlen
        go_wp2
        go_ret
        rw [HR.out]
        exact ⟨rfl, BEL.out⟩
    · obtain rfl : k = n := by omega
      have ALL1 := Lib.hid ALL.out
      clear ALL
      go_wp2
      go_loop [5] (fun i => ∃ j : Nat, j ≤ n' ∧ i = .int .i64 j ∧ ∀ y, y < j → pndOk k (C.getD y (0, [])) = true) (fun i => n' - (intOf i).toNat)
      case atStart => exact ⟨0, Nat.zero_le _, rfl, fun y hy => by omega⟩
      case round =>
        obtain ⟨j, hj, rfl, hall⟩ := hrel
        have ALL := Lib.hid hall
        clear hall
        by_cases hjn : j < n'
        · have hji : (j : Int) < (n' : Int) := by omega
          obtain ⟨b, o, Ai, ni, ci, rfl, hlt, hc, hx, ha⟩ := HQ.out.pnds.at_ j hjn
          have NOK := Lib.hid (N3.out j hjn)
          have hlen := ha.len
          have hLm := Nat.le_trans ha.cap ha.max
          unfold maxLen at hLm
          obtain ⟨pnd, hpnd⟩ : ∃ pnd, pnd = C.getD j (0, []) := ⟨_, rfl⟩
          rw [← hpnd] at NOK hlen hx
          have HPND := Lib.hid hpnd
          obtain ⟨at_, txt⟩ := pnd
          dsimp only at hlen hx
          clear hpnd ha
          by_cases a0 : at_ < 0
          · have HR := Lib.hid (NOK.out (by simp [pndOk]; omega))
            clear hlen
            go_wp2
            go_ret
            rw [HR.out]
            exact ⟨rfl, BEL.out⟩
          by_cases a1 : (k : Int) ≤ at_
          · have HR := Lib.hid (NOK.out (by simp [pndOk]; omega))
            clear hlen
            go_wp2
            go_ret
            rw [HR.out]
            exact ⟨rfl, BEL.out⟩
          by_cases h32 : ni = 32
          · subst h32
            have HOK := Lib.hid (show pndOk k (at_, txt) = true by simp [pndOk, hlen]; omega)
            clear hlen
            go_wp2
            go_round
            case rel =>
              refine ⟨j + 1, by omega, by go_num, fun y hy => ?_⟩
              rcases Nat.lt_or_ge y j with h' | h'
              · exact ALL.out y h'
              · obtain rfl : y = j := by omega
                rw [← HPND.out]
                exact HOK.out
            case measure => simp [intOf]; omega
          · have HR := Lib.hid (NOK.out (by simp [pndOk, hlen, h32]))
            have h32i : ((ni : Int) != 32) = true := bne_iff_ne.2 (by omega)
            clear hlen
            go_wp2
            go_ret
            rw [HR.out]
            exact ⟨rfl, BEL.out⟩
        · obtain rfl : j = n' := by omega
          have HR := Lib.hid (Y.out OK.out ALL1.out ALL.out)
          go_wp2
          go_ret
          rw [HR.out]
          exact ⟨rfl, BEL.out⟩

theorem rcheck_any (A : Option Addr) (n c : Nat) (A' : Option Addr) (n' c' : Nat) (S : List Sec) (C : List Pnd) (w : World) (hq : Dsk w A n c A' n' c' S C) :
    Calls Try.prog 28 #[diskV A n c A' n' c'] w fun e w' => e = .returned (.int .i64 (chkD S C)) ∧ Below w.heap.size w w' := by
  have hbel : Below w.heap.size w (w.alloc (.cells #[.slice A n c, .slice A' n' c'] 32)) := (Below.refl _ _).alloc (Nat.le_refl _) _
  have M := may_any A n c A' n' c' S C _ (hq.below hbel)
  obtain ⟨c0, c1⟩ := box_disk w A n c A' n' c'
  unfold chkD
  have BEL := Lib.hid hbel
  obtain ⟨R, hR⟩ : ∃ R, R = mayD S C := ⟨_, rfl⟩
  rw [← hR] at M ⊢
  have M := Lib.hid M
  clear hbel hR hq
  cases R with
  | true =>
    go_enter Try.func28, Try.ntmps28
    go_wp2_with fail
    refine M.out.mono ?_
    rintro e w2 ⟨rfl, hb2⟩
    have B2 := Lib.hid (BEL.out.trans (hb2.mono BEL.out.size))
    clear hb2
    go_wp2
    go_ret
    exact ⟨rfl, B2.out⟩
  | false =>
    go_enter Try.func28, Try.ntmps28
    go_wp2_with fail
    refine M.out.mono ?_
    rintro e w2 ⟨rfl, hb2⟩
    have B2 := Lib.hid (BEL.out.trans (hb2.mono BEL.out.size))
    clear hb2
    go_wp2
    go_ret
    exact ⟨rfl, B2.out⟩

end Go.Proofs.Ytnmlplfcdnakhaa

namespace Go.Proofs.Ytnmlplfcdnakhaa
open Go.RowKit
set_option linter.unusedVariables false

theorem list_same {α : Type} {z : α} {a b : List α} {n : Nat} (ha : a.length = n) (hb : b.length = n) (h : ∀ y, y < n → a.getD y z = b.getD y z) : a = b := by
  refine List.ext_getElem (ha.trans hb.symm) fun i h1 h2 => ?_
  have := h i (by omega)
  simpa [List.getD_eq_getElem?_getD, h1, h2] using this

set_option maxRecDepth 100000 in
set_option maxHeartbeats 3200000 in
theorem same_any (A : Option Addr) (n c : Nat) (A' : Option Addr) (n' c' : Nat) (S : List Sec) (C : List Pnd) (B : Option Addr) (m d : Nat) (B' : Option Addr) (m' d' : Nat) (T : List Sec) (D : List Pnd) (w : World) (ha : Dsk w A n c A' n' c' S C) (hb : Dsk w B m d B' m' d' T D) :
    Calls Try.prog 26 #[diskV A n c A' n' c', diskV B m d B' m' d'] w fun e w' => e = .returned (.bool (sameD S C T D)) ∧ Below w.heap.size w w' := by
  obtain ⟨x1, x2, hbel⟩ := boxes2 w A n c A' n' c' B m d B' m' d'
  have HA := Lib.hid (ha.below hbel)
  have HB := Lib.hid (hb.below hbel)
  have d0 := x1.cell 0
  have d1 := x1.cell 1
  have e0 := x2.cell 0
  have e1 := x2.cell 1
  simp only [List.getElem?_cons_zero, List.getElem?_cons_succ] at d0 d1 e0 e1
  have BEL := Lib.hid hbel
  have hE : sameD S C T D = decide (S = T ∧ C = D) := rfl
  have hcm := Nat.le_trans ha.secs.cap ha.secs.max
  have hcm' := Nat.le_trans ha.pnds.cap ha.pnds.max
  unfold maxLen at hcm hcm'
  have hla := ha.secs.len
  have hlb := hb.secs.len
  have hpa := ha.pnds.len
  have hpb := hb.pnds.len
  by_cases hn : n = m
  case neg =>
    rw [show sameD S C T D = false by rw [hE]; exact decide_eq_false fun e => hn (by rw [← hla, ← hlb, e.1])]
    have hn2 : ((n : Int) != (m : Int)) = true := bne_iff_ne.2 (by omega)
    clear hE hbel x1 x2 ha hb hla hlb hpa hpb
    go_enter Try.func26, Try.ntmps26
    go_wp2
    go_ret
    exact ⟨rfl, BEL.out⟩
  subst hn
  by_cases hn' : n' = m'
  case neg =>
    rw [show sameD S C T D = false by rw [hE]; exact decide_eq_false fun e => hn' (by rw [← hpa, ← hpb, e.2])]
    have hn2 : ((n' : Int) != (m' : Int)) = true := bne_iff_ne.2 (by omega)
    clear hE hbel x1 x2 ha hb hla hlb hpa hpb
    go_enter Try.func26, Try.ntmps26
    go_wp2
    go_ret
    exact ⟨rfl, BEL.out⟩
  subst hn'
  have YES := Lib.hid fun h1 h2 => (show sameD S C T D = true from decide_eq_true ⟨list_same (z := (false, [])) hla hlb h1, list_same (z := (0, [])) hpa hpb h2⟩)
  have NO1 := Lib.hid fun k (h : S.getD k (false, []) ≠ T.getD k (false, [])) => (show sameD S C T D = false from decide_eq_false fun e => h (by rw [e.1]))
  have NO2 := Lib.hid fun k (h : C.getD k (0, []) ≠ D.getD k (0, [])) => (show sameD S C T D = false from decide_eq_false fun e => h (by rw [e.2]))
  obtain ⟨R, hR⟩ : ∃ R, R = sameD S C T D := ⟨_, rfl⟩
  rw [← hR] at YES NO1 NO2 ⊢
  obtain ⟨w1, hw1⟩ : ∃ w1, w1 = (w.alloc (.cells #[.slice A n c, .slice A' n' c'] 32)).alloc (.cells #[.slice B n d, .slice B' n' d'] 32) := ⟨_, rfl⟩
  clear hE hbel x1 x2 ha hb hla hlb hpa hpb hR
  go_enter Try.func26, Try.ntmps26
  go_wp2
  rw [← hw1] at HA HB d0 d1 e0 e1 BEL ⊢
  clear hw1
  go_loopw [5] (fun i wr => ∃ k : Nat, k ≤ n ∧ i = .int .i64 k ∧ (∀ y, y < k → S.getD y (false, []) = T.getD y (false, [])) ∧ ∃ q, wr = w1.drewN q) (fun i _ => n - (intOf i).toNat)
  case atStart => exact ⟨0, Nat.zero_le _, rfl, fun y hy => by omega, 0, rfl⟩
  case round =>
    obtain ⟨k, hk, rfl, hall, q, rfl⟩ := hrel
    have ALL := Lib.hid hall
    clear hall
    by_cases hkn : k < n
    · have hki : (k : Int) < (n : Int) := by omega
      obtain ⟨b1, o1, A1, n1, c1, rfl, hlt1, hc1, hx1, ha1⟩ := HA.out.secs.at_ k hkn
      obtain ⟨b2, o2, A2, n2, c2, rfl, hlt2, hc2, hx2, ha2⟩ := HB.out.secs.at_ k hkn
      have hst1 := fun q => run_str (P := Try.prog) (w1.drewN q) 22 9 5 Try.underlying22 Try.underlying5 Try.underlying9 (c := c1) (ha1.seq.keep (w' := w1.drewN q) fun _ _ => rfl) ha1.len
      have hst2 := fun q => run_str (P := Try.prog) (w1.drewN q) 22 9 5 Try.underlying22 Try.underlying5 Try.underlying9 (c := c2) (ha2.seq.keep (w' := w1.drewN q) fun _ _ => rfl) ha2.len
      have hse := strs_eq (HA.out.secs.byte_at k) (HB.out.secs.byte_at k)
      have NOK := Lib.hid (NO1.out k)
      obtain ⟨s1, hs1⟩ : ∃ x, x = S.getD k (false, []) := ⟨_, rfl⟩
      obtain ⟨s2, hs2⟩ : ∃ x, x = T.getD k (false, []) := ⟨_, rfl⟩
      rw [← hs1] at hst1 hse NOK hx1
      rw [← hs2] at hst2 hse NOK hx2
      have HS1 := Lib.hid hs1
      have HS2 := Lib.hid hs2
      obtain ⟨p1, t1⟩ := s1
      obtain ⟨p2, t2⟩ := s2
      dsimp only at hst1 hst2 hse hx1 hx2
      clear hs1 hs2 ha1 ha2
      by_cases hp : p1 = p2
      · subst hp
        have hpp : (p1 != p1) = false := by simp
        by_cases ht : t1 = t2
        · have hse2 : ((strOfNums t1).toList == (strOfNums t2).toList) = true := hse.trans (decide_eq_true ht)
          have HT := Lib.hid ht
          clear ht hse
          go_wp2
          go_quiet (fail)
          go_wp2
          go_roundw
          case rel =>
            refine ⟨k + 1, by omega, by go_num, fun y' hy' => ?_, _, rfl⟩
            rcases Nat.lt_or_ge y' k with h' | h'
            · exact ALL.out y' h'
            · obtain rfl : y' = k := by omega
              rw [← HS1.out, ← HS2.out, HT.out]
          case measure => simp [intOf]; omega
        · have hse2 : ((strOfNums t1).toList == (strOfNums t2).toList) = false := hse.trans (decide_eq_false ht)
          have HN := Lib.hid (NOK.out (fun e => ht (congrArg Prod.snd e)))
          clear ht hse
          go_wp2
          go_quiet (fail)
          go_wp2
          go_ret
          rw [HN.out]
          exact ⟨rfl, below_drewN (below_drewN BEL.out _) _⟩
      · have hpp : (p1 != p2) = true := bne_iff_ne.2 hp
        have HN := Lib.hid (NOK.out (fun e => hp (congrArg Prod.fst e)))
        cases p1 <;> cases p2
        · exact absurd rfl hp
        · clear hp hse hpp
          go_wp2
          go_quiet (fail)
          go_wp2
          go_ret
          rw [HN.out]
          exact ⟨rfl, below_drewN (below_drewN BEL.out _) _⟩
        · clear hp hse hpp
          go_wp2
          go_quiet (fail)
          go_wp2
          go_ret
          rw [HN.out]
          exact ⟨rfl, below_drewN (below_drewN BEL.out _) _⟩
        · exact absurd rfl hp
    · obtain rfl : k = n := by omega
      have ALL1 := Lib.hid ALL.out
      clear ALL
      obtain ⟨r, hr⟩ : ∃ r, r = q := ⟨_, rfl⟩
      rw [← hr]
      clear hr
      go_wp2
      go_loopw [6] (fun i wr => ∃ j : Nat, j ≤ n' ∧ i = .int .i64 j ∧ (∀ y, y < j → C.getD y (0, []) = D.getD y (0, [])) ∧ ∃ q, wr = w1.drewN q) (fun i _ => n' - (intOf i).toNat)
      case atStart => exact ⟨0, Nat.zero_le _, rfl, fun y hy => by omega, r, rfl⟩
      case round =>
        obtain ⟨j, hk, rfl, hall, q, rfl⟩ := hrel
        have ALL := Lib.hid hall
        clear hall
        by_cases hkn : j < n'
        · have hki : (j : Int) < (n' : Int) := by omega
          obtain ⟨b1, o1, A1, n1, c1, rfl, hlt1, hc1, hx1, ha1⟩ := HA.out.pnds.at_ j hkn
          obtain ⟨b2, o2, A2, n2, c2, rfl, hlt2, hc2, hx2, ha2⟩ := HB.out.pnds.at_ j hkn
          have hst1 := fun q => run_str (P := Try.prog) (w1.drewN q) 22 9 5 Try.underlying22 Try.underlying5 Try.underlying9 (c := c1) (ha1.seq.keep (w' := w1.drewN q) fun _ _ => rfl) ha1.len
          have hst2 := fun q => run_str (P := Try.prog) (w1.drewN q) 22 9 5 Try.underlying22 Try.underlying5 Try.underlying9 (c := c2) (ha2.seq.keep (w' := w1.drewN q) fun _ _ => rfl) ha2.len
          have hse := strs_eq (HA.out.pnds.byte_at j) (HB.out.pnds.byte_at j)
          have NOK := Lib.hid (NO2.out j)
          obtain ⟨s1, hs1⟩ : ∃ x, x = C.getD j (0, []) := ⟨_, rfl⟩
          obtain ⟨s2, hs2⟩ : ∃ x, x = D.getD j (0, []) := ⟨_, rfl⟩
          rw [← hs1] at hst1 hse NOK hx1
          rw [← hs2] at hst2 hse NOK hx2
          have HS1 := Lib.hid hs1
          have HS2 := Lib.hid hs2
          obtain ⟨p1, t1⟩ := s1
          obtain ⟨p2, t2⟩ := s2
          dsimp only at hst1 hst2 hse hx1 hx2
          clear hs1 hs2 ha1 ha2
          by_cases hp : p1 = p2
          · subst hp
            have hpp : (p1 != p1) = false := by simp
            by_cases ht : t1 = t2
            · have hse2 : ((strOfNums t1).toList == (strOfNums t2).toList) = true := hse.trans (decide_eq_true ht)
              have HT := Lib.hid ht
              clear ht hse
              go_wp2
              go_quiet (fail)
              go_wp2
              go_roundw
              case rel =>
                refine ⟨j + 1, by omega, by go_num, fun y' hy' => ?_, _, rfl⟩
                rcases Nat.lt_or_ge y' j with h' | h'
                · exact ALL.out y' h'
                · obtain rfl : y' = j := by omega
                  rw [← HS1.out, ← HS2.out, HT.out]
              case measure => simp [intOf]; omega
            · have hse2 : ((strOfNums t1).toList == (strOfNums t2).toList) = false := hse.trans (decide_eq_false ht)
              have HN := Lib.hid (NOK.out (fun e => ht (congrArg Prod.snd e)))
              clear ht hse
              go_wp2
              go_quiet (fail)
              go_wp2
              go_ret
              rw [HN.out]
              exact ⟨rfl, below_drewN (below_drewN BEL.out _) _⟩
          · have hpp : (p1 != p2) = true := bne_iff_ne.2 hp
            have HN := Lib.hid (NOK.out (fun e => hp (congrArg Prod.fst e)))
            clear hp hse
            go_wp2
            go_quiet (fail)
            go_wp2
            go_ret
            rw [HN.out]
            exact ⟨rfl, below_drewN (below_drewN BEL.out _) _⟩
        · obtain rfl : j = n' := by omega
          have HY := Lib.hid (YES.out ALL1.out ALL.out)
          go_wp2
          go_ret
          rw [HY.out]
          exact ⟨rfl, below_drewN BEL.out q⟩

end Go.Proofs.Ytnmlplfcdnakhaa

namespace Go.Proofs.Ytnmlplfcdnakhaa
open Go.RowKit
set_option linter.unusedVariables false

theorem take_next {α : Type} {z : α} {l : List α} {n k : Nat} (hl : l.length = n) (hk : k < n) : l.take (k + 1) = l.take k ++ [l.getD k z] := by
  rw [List.take_succ_eq_append_getElem (by rw [hl]; exact hk)]
  simp [List.getD_eq_getElem?_getD, show k < l.length by rw [hl]; exact hk]

set_option maxRecDepth 100000 in
set_option maxHeartbeats 6400000 in
theorem twin_any (A : Option Addr) (n c : Nat) (A' : Option Addr) (n' c' : Nat) (S : List Sec) (C : List Pnd) (w : World) (hq : Dsk w A n c A' n' c' S C) (hs : SmallD S C) :
    Calls Try.prog 19 #[diskV A n c A' n' c'] w fun e w' => ∃ B d B' d', e = .returned (diskV B n d B' n' d') ∧ OwnDsk w' w.heap.size B n d B' n' d' S C ∧ Below w.heap.size w w' := by
  obtain ⟨i0, hi0, hz0, hz1, hz2⟩ := info_parts byte_info
  have hml : (1000 : Nat) ≤ maxLen := by decide
  obtain ⟨x1, x2, hbel⟩ := boxes2 w A n c A' n' c' none 0 0 none 0 0
  have hz : ((w.alloc (.cells #[.slice A n c, .slice A' n' c'] 32)).alloc (.cells #[.slice none 0 0, .slice none 0 0] 32)).heap.size = w.heap.size + 2 := by simp
  have y1 := x1.grown (World.grownBy_alloc _ (.cells #[.slice none 0 0, .slice none 0 0] 32) none) (by simp)
  have y2 := x2.grown (World.grownBy_alloc _ (.cells #[.slice none 0 0, .slice none 0 0] 32) none) (by simp)
  have y3 := Blk.new ((w.alloc (.cells #[.slice A n c, .slice A' n' c'] 32)).alloc (.cells #[.slice none 0 0, .slice none 0 0] 32)) 32 [.slice none 0 0, .slice none 0 0]
  have hb3 := hbel.alloc hbel.size (.cells #[.slice none 0 0, .slice none 0 0] 32)
  rw [hz, show w.heap.size + 2 = w.heap.size + 1 + 1 from rfl] at y3
  have hn := hs.secs
  have hn' := hs.pnds
  rw [hq.secs.len] at hn
  rw [hq.pnds.len] at hn'
  have HQ := Lib.hid hq
  have SM1 := Lib.hid fun k (hk : k < n) => (show (S.getD k (false, [])).2.length ≤ 100 from by
    have hk' : k < S.length := by rw [hq.secs.len]; exact hk
    rw [List.getD_eq_getElem?_getD, List.getElem?_eq_getElem hk', Option.getD_some]
    exact hs.long _ (List.getElem_mem hk'))
  have SM2 := Lib.hid fun k (hk : k < n') => (show (C.getD k (0, [])).2.length ≤ 100 from by
    have hk' : k < C.length := by rw [hq.pnds.len]; exact hk
    rw [List.getD_eq_getElem?_getD, List.getElem?_eq_getElem hk', Option.getD_some]
    exact hs.wide _ (List.getElem_mem hk'))
  have TF1 := Lib.hid (show S.take n = S by rw [← hq.secs.len, List.take_length])
  have TF2 := Lib.hid (show C.take n' = C by rw [← hq.pnds.len, List.take_length])
  have TS1 := Lib.hid fun k (hk : k < n) => take_next (z := ((false, []) : Sec)) hq.secs.len hk
  have TS2 := Lib.hid fun k (hk : k < n') => take_next (z := ((0, []) : Pnd)) hq.pnds.len hk
  obtain ⟨w1, hw1⟩ : ∃ w1, w1 = ((w.alloc (.cells #[.slice A n c, .slice A' n' c'] 32)).alloc (.cells #[.slice none 0 0, .slice none 0 0] 32)).alloc (.cells #[.slice none 0 0, .slice none 0 0] 32) := ⟨_, rfl⟩
  have Y1 := Lib.hid y1
  have Y2 := Lib.hid y2
  have Y3 := Lib.hid y3
  have B1 := Lib.hid hb3
  clear x1 x2 hbel hz y1 y2 y3 hb3 hq hs
  go_enter Try.func19, Try.ntmps19
  go_wp2
  rw [← hw1] at Y1 Y2 Y3 B1 ⊢
  clear hw1
  -- gen_twin5
  -- gen_twin5
  -- gen_twin5
  -- gen_twin5
  -- gen_twin5
  -- gen_twin5
  -- gen_twin5
  -- gen_twin5
  go_loopw [4] (fun i wr => ∃ k : Nat, k ≤ n ∧ i = .int .i64 k ∧ ∃ A1 c1, OwnSecs wr (w.heap.size + 3) A1 k c1 (S.take k) ∧ Blk wr w.heap.size 32 [.slice A n c, .slice A' n' c'] ∧ Blk wr (w.heap.size + 1) 32 [.slice none 0 0, .slice none 0 0] ∧ Blk wr (w.heap.size + 1 + 1) 32 [.slice A1 k c1, .slice none 0 0] ∧ Below w.heap.size w wr) (fun i _ => n - (intOf i).toNat)
  case atStart => exact ⟨0, Nat.zero_le _, rfl, none, 0, OwnSecs.nil _ _, Y1.out, Y2.out, Y3.out, B1.out⟩
  case round =>
    obtain ⟨k, hk, rfl, A1, c1, hO, hx1, hx2, hx3, hB⟩ := hrel
    have q0 := hx1.cell 0
    simp only [List.getElem?_cons_zero] at q0
    by_cases hkn : k < n
    · have hki : (k : Int) < (n : Int) := by omega
      obtain ⟨b, o, Ai, ni, ci, rfl, hlt, hc, hx, ha⟩ := HQ.out.secs.at_ k hkn
      have hby := HQ.out.secs.byte_at k
      have hsm := SM1.out k hkn
      have hst := TS1.out k hkn
      have hlen := ha.len
      obtain ⟨el, hel⟩ : ∃ el, el = S.getD k (false, []) := ⟨_, rfl⟩
      rw [← hel] at hby hsm hst hlen hx ha
      obtain ⟨bad, t⟩ := el
      dsimp only at hby hsm hlen hx ha
      have hni : ni ≤ 100 := by rw [← hlen]; exact hsm
      obtain ⟨Q, hQ⟩ : ∃ Q, Q = S.take k := ⟨_, rfl⟩
      rw [← hQ] at hst hO
      have l0 := hx3.cell 0
      simp only [List.getElem?_cons_zero] at l0
      have hszd : w.heap.size + 3 ≤ wr.drew.heap.size := by have := hx3.lt; show _ ≤ wr.heap.size; omega
      have HST := Lib.hid hst
      have HBY := Lib.hid hby
      have HA := Lib.hid (show Arg wr.drew .u8 Ai ni ci t from (ha.below hB).below (below_drewN (Below.refl _ _) 1))
      have OD := Lib.hid (show OwnSecs wr.drew (w.heap.size + 3) A1 k c1 Q from hO.below (below_drewN (Below.refl _ _) 1))
      have BD := Lib.hid (show Below w.heap.size w wr.drew from below_drewN hB 1)
      have X1 := Lib.hid (show Blk wr.drew w.heap.size 32 [.slice (some ⟨b, o, none⟩) n c, .slice A' n' c'] from hx1)
      have X2 := Lib.hid (show Blk wr.drew (w.heap.size + 1) 32 [.slice none 0 0, .slice none 0 0] from hx2)
      have X3 := Lib.hid (show Blk wr.drew (w.heap.size + 1 + 1) 32 [.slice A1 k c1, .slice none 0 0] from hx3)
      have hcb := (hB.cell (p := ⟨b, o + k * 2, none⟩) hlt).trans hc
      have hxb := (hB.cell (p := ⟨b, o + k * 2 + 1, none⟩) hlt).trans hx
      have keepS : ∀ wx, Below (w.heap.size + 3) wr.drew wx → wx.cell? ⟨w.heap.size, 0, none⟩ = some (.slice (some ⟨b, o, none⟩) n c) ∧ wx.cell? ⟨b, o + k * 2, none⟩ = some (.slice Ai ni ci) ∧ wx.cell? ⟨b, o + k * 2 + 1, none⟩ = some (.bool bad) ∧ wx.cell? ⟨w.heap.size + 1 + 1, 0, none⟩ = some (.slice A1 k c1) := fun wx hx =>
        ⟨(hx.cell (p := ⟨w.heap.size, 0, none⟩) (by show w.heap.size < _; omega)).trans q0, (hx.cell (p := ⟨b, o + k * 2, none⟩) (by show b < _; omega)).trans hcb, (hx.cell (p := ⟨b, o + k * 2 + 1, none⟩) (by show b < _; omega)).trans hxb, (hx.cell (p := ⟨w.heap.size + 1 + 1, 0, none⟩) (by show w.heap.size + 1 + 1 < _; omega)).trans l0⟩
      have hHeld := keepS wr.drew (Below.refl _ _)
      clear hel hQ hst hby hsm hlen hx ha hO hx1 hx2 hx3 hB hc hcb hxb
      go_wp2_with fail
      refine wp_region_to 20 (fun w' => w'.cell? ⟨w.heap.size, 0, none⟩ = some (.slice (some ⟨b, o, none⟩) n c) ∧ w'.cell? ⟨b, o + k * 2, none⟩ = some (.slice Ai ni ci) ∧ w'.cell? ⟨b, o + k * 2 + 1, none⟩ = some (.bool bad) ∧ w'.cell? ⟨w.heap.size + 1 + 1, 0, none⟩ = some (.slice A1 k c1)) (by kernel_rfl) ?_
      refine wpAnyG_take (i := 0) (v := ?_) rfl (by kernel_rfl) (by kernel_rfl) (by kernel_rfl) (by kernel_rfl) (by kernel_rfl) rfl (fun _ _ _ h => h) (Or.inl ⟨by rfl, ?_⟩) hHeld ?_
      rotate_left
      · (intro w' hSw; (try dsimp only at hSw); go_simp; (try with_reducible rfl))
      simp only [Act.put, List.setIfInBounds_toArray]
      refine wpAnyG_take (i := 1) (v := ?_) rfl (by kernel_rfl) (by kernel_rfl) (by kernel_rfl) (by kernel_rfl) (by kernel_rfl) rfl (fun _ _ _ h => h) (Or.inl ⟨by rfl, ?_⟩) hHeld ?_
      rotate_left
      · (intro w' hSw; (try dsimp only at hSw); go_simp; (try with_reducible rfl))
      simp only [Act.put]
      refine wpAnyG_take (i := 3) (v := ?_) rfl (by kernel_rfl) (by kernel_rfl) (by kernel_rfl) (by kernel_rfl) (by kernel_rfl) rfl (fun _ _ _ h => h) (Or.inl ⟨by rfl, ?_⟩) hHeld ?_
      rotate_left
      · (intro w' hSw; (try dsimp only at hSw); go_simp; (try with_reducible rfl))
      simp only [Act.put]
      refine wpAnyG_take (i := 4) (v := ?_) rfl (by kernel_rfl) (by kernel_rfl) (by kernel_rfl) (by kernel_rfl) (by kernel_rfl) rfl (fun _ _ _ h => h) (Or.inl ⟨by rfl, ?_⟩) hHeld ?_
      rotate_left
      · (intro w' hSw; (try dsimp only at hSw); go_simp; (try with_reducible rfl))
      simp only [Act.put]
      refine wpAnyG_take (i := 5) (v := ?_) rfl (by kernel_rfl) (by kernel_rfl) (by kernel_rfl) (by kernel_rfl) (by kernel_rfl) rfl (fun _ _ _ h => h) (Or.inl ⟨by rfl, ?_⟩) hHeld ?_
      rotate_left
      · (intro w' hSw; (try dsimp only at hSw); go_simp; (try with_reducible rfl))
      simp only [Act.put]
      refine wpAnyG_take (i := 6) (v := ?_) rfl (by kernel_rfl) (by kernel_rfl) (by kernel_rfl) (by kernel_rfl) (by kernel_rfl) rfl (fun _ _ _ h => h) (Or.inl ⟨by rfl, ?_⟩) hHeld ?_
      rotate_left
      · (intro w' hSw; (try dsimp only at hSw); go_simp; (try with_reducible rfl))
      simp only [Act.put]
      refine wpAnyG_take (i := 7) (v := ?_) rfl (by kernel_rfl) (by kernel_rfl) (by kernel_rfl) (by kernel_rfl) (by kernel_rfl) rfl (fun _ _ _ h => h) (Or.inl ⟨by rfl, ?_⟩) hHeld ?_
      rotate_left
      · (intro w' hSw; (try dsimp only at hSw); go_simp; (try with_reducible rfl))
      simp only [Act.put]
      refine wpAnyG_take (i := 8) (v := ?_) rfl (by kernel_rfl) (by kernel_rfl) (by kernel_rfl) (by kernel_rfl) (by kernel_rfl) rfl (fun _ _ _ h => h) (Or.inl ⟨by rfl, ?_⟩) hHeld ?_
      rotate_left
      · (intro w' hSw; (try dsimp only at hSw); go_simp; (try with_reducible rfl))
      simp only [Act.put]
      refine wpAnyG_take (i := 10) (v := ?_) rfl (by kernel_rfl) (by kernel_rfl) (by kernel_rfl) (by kernel_rfl) (by kernel_rfl) rfl (fun _ _ _ h => h) (Or.inl ⟨by rfl, ?_⟩) hHeld ?_
      rotate_left
      · (intro w' hSw; (try dsimp only at hSw); go_simp; (try with_reducible rfl))
      simp only [Act.put]
      refine wpAnyG_take (i := 11) (v := ?_) rfl (by kernel_rfl) (by kernel_rfl) (by kernel_rfl) (by kernel_rfl) (by kernel_rfl) rfl (fun _ _ _ h => h) (Or.inl ⟨by rfl, ?_⟩) hHeld ?_
      rotate_left
      · (intro w' hSw; (try dsimp only at hSw); go_simp; (try with_reducible rfl))
      simp only [Act.put]
      refine wpAnyG_take (i := 12) (v := ?_) rfl (by kernel_rfl) (by kernel_rfl) (by kernel_rfl) (by kernel_rfl) (by kernel_rfl) rfl (fun _ _ _ h => h) (Or.inl ⟨by rfl, ?_⟩) hHeld ?_
      rotate_left
      · (intro w' hSw; (try dsimp only at hSw); go_simp; (try with_reducible rfl))
      simp only [Act.put]
      refine wpAnyG_take (i := 13) (v := ?_) rfl (by kernel_rfl) (by kernel_rfl) (by kernel_rfl) (by kernel_rfl) (by kernel_rfl) rfl (fun _ _ _ h => h) (Or.inl ⟨by rfl, ?_⟩) hHeld ?_
      rotate_left
      · (intro w' hSw; (try dsimp only at hSw); go_simp; (try with_reducible rfl))
      simp only [Act.put]
      refine wpAnyG_take (i := 14) (v := ?_) rfl (by kernel_rfl) (by kernel_rfl) (by kernel_rfl) (by kernel_rfl) (by kernel_rfl) rfl (fun _ _ _ h => h) (Or.inl ⟨by rfl, ?_⟩) hHeld ?_
      rotate_left
      · (intro w' hSw; (try dsimp only at hSw); go_simp; (try with_reducible rfl))
      simp only [Act.put]
      refine wpAnyG_take (i := 15) (v := ?_) rfl (by kernel_rfl) (by kernel_rfl) (by kernel_rfl) (by kernel_rfl) (by kernel_rfl) rfl (fun _ _ _ h => h) (Or.inl ⟨by rfl, ?_⟩) hHeld ?_
      rotate_left
      · (intro w' hSw; (try dsimp only at hSw); go_simp; (try with_reducible rfl))
      simp only [Act.put]
      refine wpAnyG_one (i := 2) (by kernel_rfl) rfl (fun K hK => ?_)
      go_simp
      refine hK.out _ _ (fun _ => keepS _ ((Below.refl _ _).alloc hszd _)) (fun hHeld => ?_)
      have hHeld := hHeld (by decide)
      clear hK K
      try simp only [Act.put, List.setIfInBounds_toArray, List.set_cons_zero, List.set_cons_succ]
      refine wpAnyG_one (i := 9) (by kernel_rfl) rfl (fun K hK => ?_)
      refine step_dup_g wr.drew (by rfl) (.tmp 15) (.tmp 21) _ (by rfl) 5 i0 _ 1 Try.underlying22 hi0 hz0 hz1 hz2 rfl (by rfl) Ai ni ci (ints .u8 t) (by rfl) (by rw [ints_length, HA.out.len]) HA.out.seq (ints_one _ _) (by omega) (by omega) ?_
      intro A2 c2 w2 hown2 hbX
      have hbY := hbX.mono hszd
      have hz2' := hbX.size
      refine hK.out _ _ (fun _ => keepS _ hbY) (fun hHeld => ?_)
      have hHeld := hHeld (by decide)
      clear hK K
      try simp only [Act.put, List.setIfInBounds_toArray]
      refine wpAnyG_take (i := 16) (v := ?_) rfl (by kernel_rfl) (by kernel_rfl) (by kernel_rfl) (by kernel_rfl) (by kernel_rfl) rfl (fun _ _ _ h => h) (Or.inl ⟨by rfl, ?_⟩) hHeld ?_
      rotate_left
      · (intro w' hSw; (try dsimp only at hSw); go_simp; (try with_reducible rfl))
      simp only [Act.put]
      refine wpAnyG_one (i := 17) (by kernel_rfl) rfl (fun K hK => ?_)
      go_simp
      refine hK.out _ _ (fun _ => keepS _ (hbY.alloc (Nat.le_trans hszd hz2') _)) (fun hHeld => ?_)
      have hHeld := hHeld (by decide)
      clear hK K
      try simp only [Act.put, List.setIfInBounds_toArray, List.set_cons_zero, List.set_cons_succ]
      refine wpAnyG_one (i := 18) (by kernel_rfl) rfl (fun K hK => ?_)
      refine step_sec wr.drew w2 (by rfl) (.tmp 14) (.tmp 30) (by rfl) (w.heap.size + 3) A1 k c1 Q (by rfl) (OD.out.below hbX) A2 ni c2 bad t HBY.out (owns_base hown2 hszd) (by rfl) (by omega) hbY hszd ?_
      intro g4 c4 w4 hO4 hb4 hg4
      have x3 := X3.out.below hb4 (by omega)
      have l4 := x3.cell 0
      have f4 := x3.free 0
      simp only [List.getElem?_cons_zero] at l4
      refine hK.out _ _ (fun _ => keepS _ hb4) (fun hHeld => ?_)
      have hHeld := hHeld (by decide)
      clear hK K
      try simp only [Act.put, List.setIfInBounds_toArray]
      refine wpAnyG_take (i := 19) (v := ?_) rfl (by kernel_rfl) (by kernel_rfl) (by kernel_rfl) (by kernel_rfl) (by kernel_rfl) rfl (fun _ _ _ h => h) (Or.inl ⟨by rfl, ?_⟩) hHeld ?_
      rotate_left
      · (intro w' hSw; (try dsimp only at hSw); go_simp; (try with_reducible rfl))
      simp only [Act.put]
      refine wpAnyG_one (i := 20) (by kernel_rfl) rfl (fun K hK => ?_)
      go_simp
      refine hK.out _ _ (fun h => absurd rfl h) (fun _ => ?_)
      clear hK K
      refine wpAnyG_done (by kernel_rfl) ?_ _
      have E4 := Lib.hid (hO4.box x3 (by decide) (by decide) 0 (.slice (some ⟨g4, 0, none⟩) (k + 1) c4))
      have Z1 := Lib.hid ((X1.out.below hb4 (by omega)).away (g' := w.heap.size + 1 + 1) (by omega) 0 (.slice (some ⟨g4, 0, none⟩) (k + 1) c4))
      have Z2 := Lib.hid ((X2.out.below hb4 (by omega)).away (g' := w.heap.size + 1 + 1) (by omega) 0 (.slice (some ⟨g4, 0, none⟩) (k + 1) c4))
      have Z3 := Lib.hid (x3.set 0 (.slice (some ⟨g4, 0, none⟩) (k + 1) c4))
      have B4 := Lib.hid (((BD.out.trans ((below_base hb4 (show w.heap.size ≤ w.heap.size + 3 by omega))))).setCell (p := ⟨w.heap.size + 1 + 1, 0, none⟩) (show w.heap.size ≤ w.heap.size + 1 + 1 by omega) (.slice (some ⟨g4, 0, none⟩) (k + 1) c4))
      clear keepS hHeld hO4 hb4 hg4 x3 l4 f4 hown2 hbX hbY hz2'
      go_wp2
      go_roundw
      case rel => exact ⟨k + 1, by omega, by go_num, _, _, by rw [HST.out]; exact E4.out, Z1.out, Z2.out, Z3.out, B4.out⟩
      case measure => simp [intOf]; omega
    · have hkn' : n = k := by omega
      subst hkn'
      rw [TF1.out] at hO
      have OS := Lib.hid hO
      have Y1 := Lib.hid hx1
      have Y2 := Lib.hid hx2
      have Y3 := Lib.hid hx3
      have B1 := Lib.hid hB
      obtain ⟨A0, hA0⟩ : ∃ x, x = A1 := ⟨_, rfl⟩
      obtain ⟨c0, hc0⟩ : ∃ x, x = c1 := ⟨_, rfl⟩
      rw [← hA0, ← hc0] at OS Y3
      clear hO hx1 hx2 hx3 hB hA0 hc0
      go_wp2
      go_loopw [5] (fun i wr => ∃ j : Nat, j ≤ n' ∧ i = .int .i64 j ∧ ∃ A1 c1, OwnPnds wr (w.heap.size + 3) A1 j c1 (C.take j) ∧ OwnSecs wr (w.heap.size + 3) A0 n c0 S ∧ Blk wr w.heap.size 32 [.slice A n c, .slice A' n' c'] ∧ Blk wr (w.heap.size + 1) 32 [.slice none 0 0, .slice none 0 0] ∧ Blk wr (w.heap.size + 1 + 1) 32 [.slice A0 n c0, .slice A1 j c1] ∧ Below w.heap.size w wr) (fun i _ => n' - (intOf i).toNat)
      case atStart => exact ⟨0, Nat.zero_le _, rfl, none, 0, OwnPnds.nil _ _, OS.out, Y1.out, Y2.out, Y3.out, B1.out⟩
      case round =>
        obtain ⟨j, hk, rfl, A1, c1, hO, hOS, hx1, hx2, hx3, hB⟩ := hrel
        have q0 := hx1.cell 1
        simp only [List.getElem?_cons_zero, List.getElem?_cons_succ] at q0
        by_cases hkn : j < n'
        · have hki : (j : Int) < (n' : Int) := by omega
          obtain ⟨b, o, Ai, ni, ci, rfl, hlt, hc, hx, ha⟩ := HQ.out.pnds.at_ j hkn
          have hby := HQ.out.pnds.byte_at j
          have hsm := SM2.out j hkn
          have hst := TS2.out j hkn
          have hlen := ha.len
          obtain ⟨el, hel⟩ : ∃ el, el = C.getD j (0, []) := ⟨_, rfl⟩
          rw [← hel] at hby hsm hst hlen hx ha
          obtain ⟨at_, t⟩ := el
          dsimp only at hby hsm hlen hx ha
          have hni : ni ≤ 100 := by rw [← hlen]; exact hsm
          obtain ⟨Q, hQ⟩ : ∃ Q, Q = C.take j := ⟨_, rfl⟩
          rw [← hQ] at hst hO
          have l0 := hx3.cell 1
          simp only [List.getElem?_cons_zero, List.getElem?_cons_succ] at l0
          have hszd : w.heap.size + 3 ≤ wr.drew.heap.size := by have := hx3.lt; show _ ≤ wr.heap.size; omega
          have HST := Lib.hid hst
          have HBY := Lib.hid hby
          have HA := Lib.hid (show Arg wr.drew .u8 Ai ni ci t from (ha.below hB).below (below_drewN (Below.refl _ _) 1))
          have OD := Lib.hid (show OwnPnds wr.drew (w.heap.size + 3) A1 j c1 Q from hO.below (below_drewN (Below.refl _ _) 1))
          have SD := Lib.hid (show OwnSecs wr.drew (w.heap.size + 3) A0 n c0 S from hOS.below (below_drewN (Below.refl _ _) 1))
          have BD := Lib.hid (show Below w.heap.size w wr.drew from below_drewN hB 1)
          have X1 := Lib.hid (show Blk wr.drew w.heap.size 32 [.slice A n c, .slice (some ⟨b, o, none⟩) n' c'] from hx1)
          have X2 := Lib.hid (show Blk wr.drew (w.heap.size + 1) 32 [.slice none 0 0, .slice none 0 0] from hx2)
          have X3 := Lib.hid (show Blk wr.drew (w.heap.size + 1 + 1) 32 [.slice A0 n c0, .slice A1 j c1] from hx3)
          have hcb := (hB.cell (p := ⟨b, o + j * 2 + 1, none⟩) hlt).trans hc
          have hxb := (hB.cell (p := ⟨b, o + j * 2, none⟩) hlt).trans hx
          have keepS : ∀ wx, Below (w.heap.size + 3) wr.drew wx → wx.cell? ⟨w.heap.size, 1, none⟩ = some (.slice (some ⟨b, o, none⟩) n' c') ∧ wx.cell? ⟨b, o + j * 2 + 1, none⟩ = some (.slice Ai ni ci) ∧ wx.cell? ⟨b, o + j * 2, none⟩ = some (.int .i64 at_) ∧ wx.cell? ⟨w.heap.size + 1 + 1, 1, none⟩ = some (.slice A1 j c1) := fun wx hx =>
            ⟨(hx.cell (p := ⟨w.heap.size, 1, none⟩) (by show w.heap.size < _; omega)).trans q0, (hx.cell (p := ⟨b, o + j * 2 + 1, none⟩) (by show b < _; omega)).trans hcb, (hx.cell (p := ⟨b, o + j * 2, none⟩) (by show b < _; omega)).trans hxb, (hx.cell (p := ⟨w.heap.size + 1 + 1, 1, none⟩) (by show w.heap.size + 1 + 1 < _; omega)).trans l0⟩
          have hHeld := keepS wr.drew (Below.refl _ _)
          clear hel hQ hst hby hsm hlen hx ha hO hx1 hx2 hx3 hB hc hcb hxb hOS
          go_wp2_with fail
          refine wp_region_to 20 (fun w' => w'.cell? ⟨w.heap.size, 1, none⟩ = some (.slice (some ⟨b, o, none⟩) n' c') ∧ w'.cell? ⟨b, o + j * 2 + 1, none⟩ = some (.slice Ai ni ci) ∧ w'.cell? ⟨b, o + j * 2, none⟩ = some (.int .i64 at_) ∧ w'.cell? ⟨w.heap.size + 1 + 1, 1, none⟩ = some (.slice A1 j c1)) (by kernel_rfl) ?_
          refine wpAnyG_take (i := 0) (v := ?_) rfl (by kernel_rfl) (by kernel_rfl) (by kernel_rfl) (by kernel_rfl) (by kernel_rfl) rfl (fun _ _ _ h => h) (Or.inl ⟨by rfl, ?_⟩) hHeld ?_
          rotate_left
          · (intro w' hSw; (try dsimp only at hSw); go_simp; (try with_reducible rfl))
          simp only [Act.put, List.setIfInBounds_toArray]
          refine wpAnyG_take (i := 1) (v := ?_) rfl (by kernel_rfl) (by kernel_rfl) (by kernel_rfl) (by kernel_rfl) (by kernel_rfl) rfl (fun _ _ _ h => h) (Or.inl ⟨by rfl, ?_⟩) hHeld ?_
          rotate_left
          · (intro w' hSw; (try dsimp only at hSw); go_simp; (try with_reducible rfl))
          simp only [Act.put]
          refine wpAnyG_take (i := 2) (v := ?_) rfl (by kernel_rfl) (by kernel_rfl) (by kernel_rfl) (by kernel_rfl) (by kernel_rfl) rfl (fun _ _ _ h => h) (Or.inl ⟨by rfl, ?_⟩) hHeld ?_
          rotate_left
          · (intro w' hSw; (try dsimp only at hSw); go_simp; (try with_reducible rfl))
          simp only [Act.put]
          refine wpAnyG_take (i := 3) (v := ?_) rfl (by kernel_rfl) (by kernel_rfl) (by kernel_rfl) (by kernel_rfl) (by kernel_rfl) rfl (fun _ _ _ h => h) (Or.inl ⟨by rfl, ?_⟩) hHeld ?_
          rotate_left
          · (intro w' hSw; (try dsimp only at hSw); go_simp; (try with_reducible rfl))
          simp only [Act.put]
          refine wpAnyG_take (i := 4) (v := ?_) rfl (by kernel_rfl) (by kernel_rfl) (by kernel_rfl) (by kernel_rfl) (by kernel_rfl) rfl (fun _ _ _ h => h) (Or.inl ⟨by rfl, ?_⟩) hHeld ?_
          rotate_left
          · (intro w' hSw; (try dsimp only at hSw); go_simp; (try with_reducible rfl))
          simp only [Act.put]
          refine wpAnyG_take (i := 5) (v := ?_) rfl (by kernel_rfl) (by kernel_rfl) (by kernel_rfl) (by kernel_rfl) (by kernel_rfl) rfl (fun _ _ _ h => h) (Or.inl ⟨by rfl, ?_⟩) hHeld ?_
          rotate_left
          · (intro w' hSw; (try dsimp only at hSw); go_simp; (try with_reducible rfl))
          simp only [Act.put]
          refine wpAnyG_take (i := 6) (v := ?_) rfl (by kernel_rfl) (by kernel_rfl) (by kernel_rfl) (by kernel_rfl) (by kernel_rfl) rfl (fun _ _ _ h => h) (Or.inl ⟨by rfl, ?_⟩) hHeld ?_
          rotate_left
          · (intro w' hSw; (try dsimp only at hSw); go_simp; (try with_reducible rfl))
          simp only [Act.put]
          refine wpAnyG_take (i := 7) (v := ?_) rfl (by kernel_rfl) (by kernel_rfl) (by kernel_rfl) (by kernel_rfl) (by kernel_rfl) rfl (fun _ _ _ h => h) (Or.inl ⟨by rfl, ?_⟩) hHeld ?_
          rotate_left
          · (intro w' hSw; (try dsimp only at hSw); go_simp; (try with_reducible rfl))
          simp only [Act.put]
          refine wpAnyG_take (i := 9) (v := ?_) rfl (by kernel_rfl) (by kernel_rfl) (by kernel_rfl) (by kernel_rfl) (by kernel_rfl) rfl (fun _ _ _ h => h) (Or.inl ⟨by rfl, ?_⟩) hHeld ?_
          rotate_left
          · (intro w' hSw; (try dsimp only at hSw); go_simp; (try with_reducible rfl))
          simp only [Act.put]
          refine wpAnyG_take (i := 10) (v := ?_) rfl (by kernel_rfl) (by kernel_rfl) (by kernel_rfl) (by kernel_rfl) (by kernel_rfl) rfl (fun _ _ _ h => h) (Or.inl ⟨by rfl, ?_⟩) hHeld ?_
          rotate_left
          · (intro w' hSw; (try dsimp only at hSw); go_simp; (try with_reducible rfl))
          simp only [Act.put]
          refine wpAnyG_take (i := 11) (v := ?_) rfl (by kernel_rfl) (by kernel_rfl) (by kernel_rfl) (by kernel_rfl) (by kernel_rfl) rfl (fun _ _ _ h => h) (Or.inl ⟨by rfl, ?_⟩) hHeld ?_
          rotate_left
          · (intro w' hSw; (try dsimp only at hSw); go_simp; (try with_reducible rfl))
          simp only [Act.put]
          refine wpAnyG_take (i := 12) (v := ?_) rfl (by kernel_rfl) (by kernel_rfl) (by kernel_rfl) (by kernel_rfl) (by kernel_rfl) rfl (fun _ _ _ h => h) (Or.inl ⟨by rfl, ?_⟩) hHeld ?_
          rotate_left
          · (intro w' hSw; (try dsimp only at hSw); go_simp; (try with_reducible rfl))
          simp only [Act.put]
          refine wpAnyG_take (i := 13) (v := ?_) rfl (by kernel_rfl) (by kernel_rfl) (by kernel_rfl) (by kernel_rfl) (by kernel_rfl) rfl (fun _ _ _ h => h) (Or.inl ⟨by rfl, ?_⟩) hHeld ?_
          rotate_left
          · (intro w' hSw; (try dsimp only at hSw); go_simp; (try with_reducible rfl))
          simp only [Act.put]
          refine wpAnyG_take (i := 14) (v := ?_) rfl (by kernel_rfl) (by kernel_rfl) (by kernel_rfl) (by kernel_rfl) (by kernel_rfl) rfl (fun _ _ _ h => h) (Or.inl ⟨by rfl, ?_⟩) hHeld ?_
          rotate_left
          · (intro w' hSw; (try dsimp only at hSw); go_simp; (try with_reducible rfl))
          simp only [Act.put]
          refine wpAnyG_one (i := 8) (by kernel_rfl) rfl (fun K hK => ?_)
          go_simp
          refine hK.out _ _ (fun _ => keepS _ ((Below.refl _ _).alloc hszd _)) (fun hHeld => ?_)
          have hHeld := hHeld (by decide)
          clear hK K
          try simp only [Act.put, List.setIfInBounds_toArray, List.set_cons_zero, List.set_cons_succ]
          refine wpAnyG_one (i := 15) (by kernel_rfl) rfl (fun K hK => ?_)
          refine step_dup_g wr.drew (by rfl) (.tmp 48) (.tmp 54) _ (by rfl) 5 i0 _ 1 Try.underlying22 hi0 hz0 hz1 hz2 rfl (by rfl) Ai ni ci (ints .u8 t) (by rfl) (by rw [ints_length, HA.out.len]) HA.out.seq (ints_one _ _) (by omega) (by omega) ?_
          intro A2 c2 w2 hown2 hbX
          have hbY := hbX.mono hszd
          have hz2' := hbX.size
          refine hK.out _ _ (fun _ => keepS _ hbY) (fun hHeld => ?_)
          have hHeld := hHeld (by decide)
          clear hK K
          try simp only [Act.put, List.setIfInBounds_toArray]
          refine wpAnyG_take (i := 16) (v := ?_) rfl (by kernel_rfl) (by kernel_rfl) (by kernel_rfl) (by kernel_rfl) (by kernel_rfl) rfl (fun _ _ _ h => h) (Or.inl ⟨by rfl, ?_⟩) hHeld ?_
          rotate_left
          · (intro w' hSw; (try dsimp only at hSw); go_simp; (try with_reducible rfl))
          simp only [Act.put]
          refine wpAnyG_one (i := 17) (by kernel_rfl) rfl (fun K hK => ?_)
          go_simp
          refine hK.out _ _ (fun _ => keepS _ (hbY.alloc (Nat.le_trans hszd hz2') _)) (fun hHeld => ?_)
          have hHeld := hHeld (by decide)
          clear hK K
          try simp only [Act.put, List.setIfInBounds_toArray, List.set_cons_zero, List.set_cons_succ]
          refine wpAnyG_one (i := 18) (by kernel_rfl) rfl (fun K hK => ?_)
          refine step_pnd wr.drew w2 (by rfl) (.tmp 41) (.tmp 57) (by rfl) (w.heap.size + 3) A1 j c1 Q (by rfl) (OD.out.below hbX) A2 ni c2 at_ t HBY.out (owns_base hown2 hszd) (by rfl) (by omega) hbY hszd ?_
          intro g4 c4 w4 hO4 hb4 hg4
          have x3 := X3.out.below hb4 (by omega)
          have l4 := x3.cell 1
          have f4 := x3.free 1
          simp only [List.getElem?_cons_zero, List.getElem?_cons_succ] at l4
          refine hK.out _ _ (fun _ => keepS _ hb4) (fun hHeld => ?_)
          have hHeld := hHeld (by decide)
          clear hK K
          try simp only [Act.put, List.setIfInBounds_toArray]
          refine wpAnyG_take (i := 19) (v := ?_) rfl (by kernel_rfl) (by kernel_rfl) (by kernel_rfl) (by kernel_rfl) (by kernel_rfl) rfl (fun _ _ _ h => h) (Or.inl ⟨by rfl, ?_⟩) hHeld ?_
          rotate_left
          · (intro w' hSw; (try dsimp only at hSw); go_simp; (try with_reducible rfl))
          simp only [Act.put]
          refine wpAnyG_one (i := 20) (by kernel_rfl) rfl (fun K hK => ?_)
          go_simp
          refine hK.out _ _ (fun h => absurd rfl h) (fun _ => ?_)
          clear hK K
          refine wpAnyG_done (by kernel_rfl) ?_ _
          have E4 := Lib.hid (hO4.box x3 (by decide) (by decide) 1 (.slice (some ⟨g4, 0, none⟩) (j + 1) c4))
          have Z1 := Lib.hid ((X1.out.below hb4 (by omega)).away (g' := w.heap.size + 1 + 1) (by omega) 1 (.slice (some ⟨g4, 0, none⟩) (j + 1) c4))
          have Z2 := Lib.hid ((X2.out.below hb4 (by omega)).away (g' := w.heap.size + 1 + 1) (by omega) 1 (.slice (some ⟨g4, 0, none⟩) (j + 1) c4))
          have Z3 := Lib.hid (x3.set 1 (.slice (some ⟨g4, 0, none⟩) (j + 1) c4))
          have B4 := Lib.hid (((BD.out.trans ((below_base hb4 (show w.heap.size ≤ w.heap.size + 3 by omega))))).setCell (p := ⟨w.heap.size + 1 + 1, 1, none⟩) (show w.heap.size ≤ w.heap.size + 1 + 1 by omega) (.slice (some ⟨g4, 0, none⟩) (j + 1) c4))
          have S4 := Lib.hid ((((SD.out.below hbX).below ((Below.refl _ _).alloc (Nat.le_refl _) _)).beside (OD.out.below hbX |>.below ((Below.refl _ _).alloc (Nat.le_refl _) _)) hg4).box x3 (by decide) (by decide) 1 (.slice (some ⟨g4, 0, none⟩) (j + 1) c4))
          clear keepS hHeld hO4 hb4 hg4 x3 l4 f4 hown2 hbX hbY hz2'
          go_wp2
          go_roundw
          case rel => exact ⟨j + 1, by omega, by go_num, _, _, by rw [HST.out]; exact E4.out, S4.out, Z1.out, Z2.out, Z3.out, B4.out⟩
          case measure => simp [intOf]; omega
        · obtain rfl : j = n' := by omega
          rw [TF2.out] at hO
          have e0 := hx3.cell 0
          have e1 := hx3.cell 1
          have r0 := hx2.cell 0
          have r1 := hx2.cell 1
          have g0 := hx2.free 0
          have g1 := hx2.free 1
          simp only [List.getElem?_cons_zero, List.getElem?_cons_succ] at e0 e1 r0 r1
          have OD := Lib.hid (show OwnDsk wr (w.heap.size + 3) A0 n c0 A1 j c1 S C from ⟨hOS, hO⟩)
          have R2 := Lib.hid hx2
          have BB := Lib.hid hB
          clear hO hOS hx1 hx2 hx3 hB
          go_wp2
          have z := R2.out.two (.slice A0 n c0) (.slice A1 j c1)
          have z0 := z.cell 0
          have z1 := z.cell 1
          simp only [List.getElem?_cons_zero, List.getElem?_cons_succ] at z0 z1
          have O3 := OD.out.two R2.out (.slice A0 n c0) (.slice A1 j c1)
          have B3 := below_two BB.out (show w.heap.size ≤ w.heap.size + 1 by omega) (.slice A0 n c0) (.slice A1 j c1)
          refine bodyPost_ret (v := diskV A0 n c0 A1 j c1) ?_ rfl ⟨A0, c0, A1, c1, rfl, O3.lower (by omega), B3⟩
          clear e0 e1 r0 r1 g0 g1
          simp [results, Try.f19, go_sem, z0, z1]

end Go.Proofs.Ytnmlplfcdnakhaa

namespace Go.Proofs.Ytnmlplfcdnakhaa
open Go.RowKit
set_option linter.unusedVariables false

/-- What a call hands back beside a number: bytes of its own. -/
def BytesOut (w : World) (b : Txt) (E : Int) (e : Ending) (w' : World) : Prop :=
  ∃ A c, e = .returned (.tuple #[.slice A b.length c, .int .i64 E]) ∧ w'.ownsRow w.heap.size 5 1 (.slice A b.length c) b.length (ints .u8 b) ∧ Below w.heap.size w w'

theorem asked_any (A : Option Addr) (n c : Nat) (A' : Option Addr) (n' c' : Nat) (S : List Sec) (C : List Pnd) (at_ : Int) (w : World) (hq : Dsk w A n c A' n' c' S C) :
    Calls Try.prog 78 #[diskV A n c A' n' c', .int .i64 at_] w fun e w' => e = .returned (.int .i64 (askE S C at_)) ∧ Below w.heap.size w w' := by
  have hbel : Below w.heap.size w (w.alloc (.cells #[.slice A n c, .slice A' n' c'] 32)) := (Below.refl _ _).alloc (Nat.le_refl _) _
  have M := may_any A n c A' n' c' S C _ (hq.below hbel)
  have x := Blk.new w 32 [.slice A n c, .slice A' n' c']
  have X := Lib.hid x
  have hl := hq.secs.len
  have c0 := x.cell 0
  have c1 := x.cell 1
  simp only [List.getElem?_cons_zero, List.getElem?_cons_succ] at c0 c1
  unfold askE
  rw [hl]
  have BEL := Lib.hid hbel
  have hz1 : (w.alloc (.cells #[.slice A n c, .slice A' n' c'] 32)).heap.size = w.heap.size + 1 := World.size_alloc _ _
  have HZ1 := Lib.hid hz1
  cases hR : mayD S C with
  | false =>
    rw [hR] at M
    have M := Lib.hid M
    simp only [Bool.false_eq_true, if_false]
    clear hbel hR hq hl x hz1
    go_enter Try.func78, Try.ntmps78
    go_wp2_with fail
    refine M.out.mono ?_
    rintro e w2 ⟨rfl, hb2⟩
    have B2 := Lib.hid (BEL.out.trans (hb2.mono BEL.out.size))
    clear hb2
    go_wp2
    go_ret
    exact ⟨rfl, B2.out⟩
  | true =>
    rw [hR] at M
    have M := Lib.hid M
    simp only [if_true]
    clear hbel hR hq hl x hz1
    by_cases a0 : at_ < 0
    · go_enter Try.func78, Try.ntmps78
      go_wp2_with fail
      refine M.out.mono ?_
      rintro e w2 ⟨rfl, hb2⟩
      have B2 := Lib.hid (BEL.out.trans (hb2.mono BEL.out.size))
      clear hb2
      go_wp2
      go_ret
      exact ⟨rfl, B2.out⟩
    · by_cases a1 : (n : Int) ≤ at_
      · go_enter Try.func78, Try.ntmps78
        go_wp2_with fail
        refine M.out.mono ?_
        rintro e w2 ⟨rfl, hb2⟩
        have B2 := Lib.hid (BEL.out.trans (hb2.mono BEL.out.size))
        have d0 := (X.out.below hb2 (by rw [HZ1.out]; exact Nat.lt_succ_self _)).cell 0
        simp only [List.getElem?_cons_zero] at d0
        clear hb2
        go_wp2
        go_ret
        exact ⟨rfl, B2.out⟩
      · go_enter Try.func78, Try.ntmps78
        go_wp2_with fail
        refine M.out.mono ?_
        rintro e w2 ⟨rfl, hb2⟩
        have B2 := Lib.hid (BEL.out.trans (hb2.mono BEL.out.size))
        have d0 := (X.out.below hb2 (by rw [HZ1.out]; exact Nat.lt_succ_self _)).cell 0
        simp only [List.getElem?_cons_zero] at d0
        clear hb2
        go_wp2
        go_ret
        exact ⟨rfl, B2.out⟩

theorem pend_hit {C : List Pnd} {at_ : Int} {k : Nat} (hk : k < C.length) (h : (C.getD k (0, [])).1 = at_) : pendB C at_ = true := by
  unfold pendB
  rw [List.any_eq_true]
  rw [List.getD_eq_getElem?_getD, List.getElem?_eq_getElem hk, Option.getD_some] at h
  exact ⟨C[k], List.getElem_mem hk, by rw [h]; simp⟩
theorem pend_none {C : List Pnd} {at_ : Int} (h : ∀ y, y < C.length → (C.getD y (0, [])).1 ≠ at_) : pendB C at_ = false := by
  unfold pendB
  rw [List.any_eq_false]
  intro p hp
  obtain ⟨k, hk, rfl⟩ := List.getElem_of_mem hp
  have := h k hk
  rw [List.getD_eq_getElem?_getD, List.getElem?_eq_getElem hk, Option.getD_some] at this
  simpa using this
theorem lastW_none {C : List Pnd} {at_ : Int} (h : ∀ y, y < C.length → (C.getD y (0, [])).1 ≠ at_) : lastW C at_ = none := by
  unfold lastW
  rw [show C.reverse.find? (fun p => decide (p.1 = at_)) = none from ?_]
  · rfl
  · rw [List.find?_eq_none]
    intro p hp
    obtain ⟨k, hk, rfl⟩ := List.getElem_of_mem (List.mem_reverse.1 hp)
    have := h k hk
    rw [List.getD_eq_getElem?_getD, List.getElem?_eq_getElem hk, Option.getD_some] at this
    simpa using this
theorem lastW_hit {C : List Pnd} {at_ : Int} {j : Nat} (hj : j < C.length) (h1 : (C.getD j (0, [])).1 = at_) (h : ∀ y, j < y → y < C.length → (C.getD y (0, [])).1 ≠ at_) : lastW C at_ = some (C.getD j (0, [])).2 := by
  unfold lastW
  have e : C = C.take j ++ (C[j] :: C.drop (j + 1)) := by
    rw [← List.drop_eq_getElem_cons hj, List.take_append_drop]
  have eg : C.getD j (0, []) = C[j] := by rw [List.getD_eq_getElem?_getD, List.getElem?_eq_getElem hj, Option.getD_some]
  rw [eg] at h1 ⊢
  have hd : (C.drop (j + 1)).reverse.find? (fun p => decide (p.1 = at_)) = none := by
    rw [List.find?_eq_none]
    intro p hp
    obtain ⟨k, hk, rfl⟩ := List.getElem_of_mem (List.mem_reverse.1 hp)
    rw [List.length_drop] at hk
    have := h (j + 1 + k) (by omega) (by omega)
    rw [List.getD_eq_getElem?_getD, List.getElem?_eq_getElem (by omega), Option.getD_some] at this
    rw [List.getElem_drop]
    simpa using this
  have hr : C.reverse = (C.drop (j + 1)).reverse ++ ([C[j]] ++ (C.take j).reverse) := by
    conv => lhs; rw [e]
    simp
  rw [hr, List.find?_append, hd, List.find?_append]
  simp [h1]

set_option maxHeartbeats 800000 in
theorem pending_any (A : Option Addr) (n c : Nat) (A' : Option Addr) (n' c' : Nat) (S : List Sec) (C : List Pnd) (at_ : Int) (w : World) (hq : Dsk w A n c A' n' c' S C) :
    Calls Try.prog 83 #[diskV A n c A' n' c', .int .i64 at_] w fun e w' => e = .returned (.bool (pendB C at_)) ∧ Below w.heap.size w w' := by
  have hbel : Below w.heap.size w (w.alloc (.cells #[.slice A n c, .slice A' n' c'] 32)) := (Below.refl _ _).alloc (Nat.le_refl _) _
  have HQ := hq.below hbel
  obtain ⟨c0, c1⟩ := box_disk w A n c A' n' c'
  have hl' := hq.pnds.len
  have hcm' := Nat.le_trans hq.pnds.cap hq.pnds.max
  unfold maxLen at hcm'
  have YES := Lib.hid fun k (hk : k < n') => pend_hit (C := C) (at_ := at_) (k := k) (by omega)
  have hno := pend_none (C := C) (at_ := at_)
  rw [hl'] at hno
  have NO := Lib.hid hno
  obtain ⟨R, hR⟩ : ∃ R, R = pendB C at_ := ⟨_, rfl⟩
  rw [← hR] at YES NO ⊢
  obtain ⟨w1, hw1⟩ : ∃ w1, w1 = w.alloc (.cells #[.slice A n c, .slice A' n' c'] 32) := ⟨_, rfl⟩
  rw [← hw1] at hbel HQ c0 c1
  have HQ := Lib.hid HQ
  have BEL := Lib.hid hbel
  clear hq hbel hno hR hl'
  go_enter Try.func83, Try.ntmps83
  go_wp2
  rw [← hw1]
  clear hw1
  go_loop [5] (fun i => ∃ k : Nat, k ≤ n' ∧ i = .int .i64 k ∧ ∀ y, y < k → (C.getD y (0, [])).1 ≠ at_) (fun i => n' - (intOf i).toNat)
  case atStart => exact ⟨0, Nat.zero_le _, rfl, fun y hy => by omega⟩
  case round =>
    obtain ⟨k, hk, rfl, hall⟩ := hrel
    have ALL := Lib.hid hall
    clear hall
    by_cases hkn : k < n'
    · have hki : (k : Int) < (n' : Int) := by omega
      obtain ⟨b, o, Ai, ni, ci, rfl, hlt, hc, hx, ha⟩ := HQ.out.pnds.at_ k hkn
      obtain ⟨p, hp⟩ : ∃ p, p = (C.getD k (0, [])).1 := ⟨_, rfl⟩
      rw [← hp] at hx
      have YK := Lib.hid (YES.out k hkn)
      rw [← hp] at YK
      have HP := Lib.hid hp
      clear hp ha
      by_cases hpa : p = at_
      · have HY := Lib.hid (YK.out hpa)
        have hq2 : (p == at_) = true := by rw [hpa]; simp
        clear hpa
        go_wp2
        go_ret
        rw [HY.out]
        exact ⟨rfl, BEL.out⟩
      · have hq2 : (p == at_) = false := beq_eq_false_iff_ne.2 hpa
        have HN := Lib.hid hpa
        clear hpa
        go_wp2
        go_round
        case rel =>
          refine ⟨k + 1, by omega, by go_num, fun y hy => ?_⟩
          rcases Nat.lt_or_ge y k with h' | h'
          · exact ALL.out y h'
          · obtain rfl : y = k := by omega
            rw [← HP.out]
            exact HN.out
        case measure => simp [intOf]; omega
    · obtain rfl : k = n' := by omega
      have HN := Lib.hid (NO.out ALL.out)
      go_wp2
      go_ret
      rw [HN.out]
      exact ⟨rfl, BEL.out⟩

set_option maxRecDepth 100000 in
set_option maxHeartbeats 3200000 in
theorem got_any (A : Option Addr) (n c : Nat) (A' : Option Addr) (n' c' : Nat) (S : List Sec) (C : List Pnd) (a : Nat) (w : World) (hq : Dsk w A n c A' n' c' S C) (hs : SmallD S C) (han : a < n) :
    Calls Try.prog 82 #[diskV A n c A' n' c', .int .i64 (a : Int)] w fun e w' => ∃ B d, e = .returned (.tuple #[.slice B (gotB S C a).length d, .bool (gotOk S C a)]) ∧ w'.ownsRow w.heap.size 5 1 (.slice B (gotB S C a).length d) (gotB S C a).length (ints .u8 (gotB S C a)) ∧ Below w.heap.size w w' := by
  obtain ⟨i0, hi0, hz0, hz1, hz2⟩ := info_parts byte_info
  have hml : (1000 : Nat) ≤ maxLen := by decide
  have hbel : Below w.heap.size w (w.alloc (.cells #[.slice A n c, .slice A' n' c'] 32)) := (Below.refl _ _).alloc (Nat.le_refl _) _
  have HQ := hq.below hbel
  obtain ⟨c0, c1⟩ := box_disk w A n c A' n' c'
  have hl := hq.secs.len
  have hl' := hq.pnds.len
  have hn' := hs.pnds
  rw [hl'] at hn'
  have SM1 := Lib.hid (show (S.getD a (false, [])).2.length ≤ 100 from by
    have hk' : a < S.length := by rw [hl]; exact han
    rw [List.getD_eq_getElem?_getD, List.getElem?_eq_getElem hk', Option.getD_some]
    exact hs.long _ (List.getElem_mem hk'))
  have SM2 := Lib.hid fun k (hk : k < n') => (show (C.getD k (0, [])).2.length ≤ 100 from by
    have hk' : k < C.length := by rw [hl']; exact hk
    rw [List.getD_eq_getElem?_getD, List.getElem?_eq_getElem hk', Option.getD_some]
    exact hs.wide _ (List.getElem_mem hk'))
  have hhit : ∀ j, j < n' → (C.getD j (0, [])).1 = (a : Int) → (∀ y, j < y → y < n' → (C.getD y (0, [])).1 ≠ (a : Int)) → gotB S C a = (C.getD j (0, [])).2 ∧ gotOk S C a = true := fun j hj h1 h2 => by
    have := lastW_hit (C := C) (at_ := (a : Int)) (j := j) (by omega) h1 (fun y hy hy2 => h2 y hy (by omega))
    unfold gotB gotOk
    rw [this]
    exact ⟨rfl, rfl⟩
  have hnone : (∀ y, y < n' → (C.getD y (0, [])).1 ≠ (a : Int)) → gotB S C a = (S.getD a (false, [])).2 ∧ gotOk S C a = !(S.getD a (false, [])).1 := fun h1 => by
    have := lastW_none (C := C) (at_ := (a : Int)) (fun y hy => h1 y (by omega))
    unfold gotB gotOk secAt
    rw [this, Int.toNat_natCast]
    exact ⟨rfl, rfl⟩
  have HIT := Lib.hid hhit
  have NONE := Lib.hid hnone
  have hsz1 : (w.alloc (.cells #[.slice A n c, .slice A' n' c'] 32)).heap.size = w.heap.size + 1 := World.size_alloc _ _
  obtain ⟨B, hB⟩ : ∃ B, B = gotB S C a := ⟨_, rfl⟩
  obtain ⟨K, hK⟩ : ∃ K, K = gotOk S C a := ⟨_, rfl⟩
  rw [← hB, ← hK] at HIT NONE ⊢
  obtain ⟨w1, hw1⟩ : ∃ w1, w1 = w.alloc (.cells #[.slice A n c, .slice A' n' c'] 32) := ⟨_, rfl⟩
  rw [← hw1] at hbel HQ c0 c1 hsz1
  have HQ := Lib.hid HQ
  have BEL := Lib.hid hbel
  have HZ1 := Lib.hid hsz1
  have hw64 : ∀ k : Nat, k ≤ 100 → IntKind.i64.wrap ((k : Int) - 1) = (k : Int) - 1 := fun k hk => by
    cases k with
    | zero => rfl
    | succ k => have := Lib.wrap_i64_small k (by omega); rw [show ((k + 1 : Nat) : Int) - 1 = (k : Int) by omega]; exact this
  have HW := Lib.hid hw64
  clear hq hbel hl hl' hhit hnone hs hB hK hsz1 hw64
  have hwn := HW.out n' (by omega)
  go_enter Try.func82, Try.ntmps82
  go_wp2
  rw [← hw1]
  clear hw1 hwn
  go_loop [6] (fun i => ∃ k : Nat, k ≤ n' ∧ i = .int .i64 ((k : Int) - 1) ∧ ∀ y, k ≤ y → y < n' → (C.getD y (0, [])).1 ≠ (a : Int)) (fun i => ((intOf i) + 1).toNat)
  case atStart => exact ⟨n', Nat.le_refl _, rfl, fun y h1 h2 => by omega⟩
  case round =>
    obtain ⟨k, hk, rfl, hall⟩ := hrel
    have ALL := Lib.hid hall
    clear hall
    by_cases hk0 : k = 0
    · subst hk0
      obtain ⟨b, o, Ai, ni, ci, rfl, hlt, hc, hx, ha⟩ := HQ.out.secs.at_ a han
      obtain ⟨e1, e2⟩ := NONE.out (fun y hy => ALL.out y (Nat.zero_le _) hy)
      have hlen := ha.len
      have hsm := SM1.out
      obtain ⟨sec, hsec⟩ : ∃ sec, sec = S.getD a (false, []) := ⟨_, rfl⟩
      rw [← hsec] at e1 e2 hlen hsm hx ha
      obtain ⟨bad, t⟩ := sec
      dsimp only at e1 e2 hlen hsm hx ha
      have E1 := Lib.hid e1
      have E2 := Lib.hid e2
      have HA := Lib.hid (show Arg w1.drew .u8 Ai ni ci t from ha.below (below_drewN (Below.refl _ _) 1))
      have hni : ni ≤ 100 := by rw [← hlen]; exact hsm
      have hai : (a : Int) < (n : Int) := by omega
      have hblt := hlt
      have keepX : ∀ wx, Below w1.drew.heap.size w1.drew wx → wx.cell? ⟨w.heap.size, 0, none⟩ = some (.slice (some ⟨b, o, none⟩) n c) ∧ wx.cell? ⟨b, o + a * 2, none⟩ = some (.slice Ai ni ci) ∧ wx.cell? ⟨b, o + a * 2 + 1, none⟩ = some (.bool bad) := fun wx hx' =>
        ⟨(hx'.cell (p := ⟨w.heap.size, 0, none⟩) (by show w.heap.size < w1.heap.size; rw [HZ1.out]; exact Nat.lt_succ_self _)).trans c0, (hx'.cell (p := ⟨b, o + a * 2, none⟩) hblt).trans hc, (hx'.cell (p := ⟨b, o + a * 2 + 1, none⟩) hblt).trans hx⟩
      clear hsec e1 e2 hlen hsm ha
      go_wp2_with fail
      have hkX := keepX _ (Below.refl _ _)
      go_region_held3 (fun w' => w'.cell? ⟨w.heap.size, 0, none⟩ = some (.slice (some ⟨b, o, none⟩) n c) ∧ w'.cell? ⟨b, o + a * 2, none⟩ = some (.slice Ai ni ci) ∧ w'.cell? ⟨b, o + a * 2 + 1, none⟩ = some (.bool bad))
        (first | exact hkX | go_keep)
        ((refine step_dup_g w1.drew (by rfl) (.tmp 31) (.tmp 37) _ (by rfl) 5 i0 _ 1 Try.underlying22 hi0 hz0 hz1 hz2 rfl (by rfl) Ai ni ci (ints .u8 t) (by rfl) (by rw [ints_length, HA.out.len]) HA.out.seq (ints_one _ _) (by omega) (by omega) ?_; intro A2 c2 w2 hown2 hbX; have hkX := keepX w2 hbX))
      have O2 := Lib.hid hown2
      have B2 := Lib.hid ((below_drewN BEL.out 1).trans (hbX.mono (show w.heap.size ≤ w1.heap.size by rw [HZ1.out]; exact Nat.le_succ _)))
      have hbase : w.heap.size ≤ w1.heap.size := by rw [HZ1.out]; exact Nat.le_succ _
      clear hown2 hbX keepX hkX hc hx c0 c1
      go_wp2
      go_ret2
      have hl2 := HA.out.len
      rw [E1.out, E2.out, hl2]
      exact ⟨A2, c2, rfl, owns_base O2.out hbase, B2.out⟩
    · obtain ⟨j, rfl⟩ : ∃ j, k = j + 1 := ⟨k - 1, by omega⟩
      rw [show ((j + 1 : Nat) : Int) - 1 = (j : Int) by omega]
      have hjn : j < n' := by omega
      have hji : (j : Int) < (n' : Int) := by omega
      obtain ⟨b, o, Ai, ni, ci, rfl, hlt, hc, hx, ha⟩ := HQ.out.pnds.at_ j hjn
      have hj := HIT.out j hjn
      have hsm := SM2.out j hjn
      have hlen := ha.len
      obtain ⟨pnd, hpnd⟩ : ∃ p, p = C.getD j (0, []) := ⟨_, rfl⟩
      rw [← hpnd] at hj hsm hlen hx ha
      have HP := Lib.hid hpnd
      obtain ⟨p, t⟩ := pnd
      dsimp only at hj hsm hlen hx ha
      have HJ := Lib.hid hj
      have hni : ni ≤ 100 := by rw [← hlen]; exact hsm
      have HA := Lib.hid ha
      clear hpnd hj hsm hlen ha hk0 hk
      by_cases hpa : p = (a : Int)
      · obtain ⟨e1, e2⟩ := HJ.out hpa (fun y h1 h2 => ALL.out y h1 h2)
        have E1 := Lib.hid e1
        have E2 := Lib.hid e2
        subst hpa
        have c1a := (World.cell?_alloc_lt w1 (.cells #[] 5) ⟨w.heap.size, 1, none⟩ (by show w.heap.size < w1.heap.size; rw [HZ1.out]; exact Nat.lt_succ_self _)).trans c1
        have hca := (World.cell?_alloc_lt w1 (.cells #[] 5) ⟨b, o + j * 2 + 1, none⟩ hlt).trans hc
        clear e1 e2
        go_wp2_with (at_builtin; (refine wpList_dup_g w1 rfl (.tmp 23) (.tmp 29) _ rfl 5 i0 _ 1 Try.underlying22 hi0 hz0 hz1 hz2 rfl rfl Ai ni ci (ints .u8 t) rfl (by rw [ints_length, HA.out.len]) HA.out.seq (ints_one _ _) (by omega) (by omega) ?_); intro A2 c2 w2 hown2 hbX; have O2 := Lib.hid hown2; have B2 := Lib.hid (BEL.out.trans (hbX.mono (show w.heap.size ≤ w1.heap.size by rw [HZ1.out]; exact Nat.le_succ _))); clear hown2 hbX)
        go_ret2
        have hl2 := HA.out.len
        have hbase : w.heap.size ≤ w1.heap.size := by rw [HZ1.out]; exact Nat.le_succ _
        rw [E1.out, E2.out, hl2]
        exact ⟨A2, c2, rfl, owns_base O2.out hbase, B2.out⟩
      · have hq2 : (p == (a : Int)) = false := beq_eq_false_iff_ne.2 hpa
        have HN := Lib.hid hpa
        have hwj := HW.out j (by omega)
        clear hpa
        go_wp2
        go_round
        case rel =>
          refine ⟨j, by omega, by go_num, fun y h1 h2 => ?_⟩
          rcases Nat.lt_or_ge j y with h' | h'
          · exact ALL.out y h' h2
          · obtain rfl : y = j := by omega
            rw [← HP.out]
            exact HN.out
        case measure => simp [intOf]

theorem waits_any (A : Option Addr) (n c : Nat) (A' : Option Addr) (n' c' : Nat) (S : List Sec) (C : List Pnd) (at_ : Int) (w : World) (hq : Dsk w A n c A' n' c' S C) :
    Calls Try.prog 25 #[diskV A n c A' n' c', .int .i64 at_] w fun e w' => e = .returned (.tuple #[.bool (waB S C at_), .int .i64 (askE S C at_)]) ∧ Below w.heap.size w w' := by
  have hbel : Below w.heap.size w (w.alloc (.cells #[.slice A n c, .slice A' n' c'] 32)) := (Below.refl _ _).alloc (Nat.le_refl _) _
  have K := asked_any A n c A' n' c' S C at_ _ (hq.below hbel)
  have PE := Lib.hid fun w2 hx => pending_any A n c A' n' c' S C at_ w2 hx
  have HQ := Lib.hid (hq.below hbel)
  have x := Blk.new w 32 [.slice A n c, .slice A' n' c']
  have X := Lib.hid x
  have c0 := x.cell 0
  have c1 := x.cell 1
  simp only [List.getElem?_cons_zero, List.getElem?_cons_succ] at c0 c1
  have BEL := Lib.hid hbel
  have hz1 : (w.alloc (.cells #[.slice A n c, .slice A' n' c'] 32)).heap.size = w.heap.size + 1 := World.size_alloc _ _
  have HZ1 := Lib.hid hz1
  unfold waB
  obtain ⟨E, hE⟩ : ∃ E, E = askE S C at_ := ⟨_, rfl⟩
  rw [← hE] at K ⊢
  clear hbel hq x hz1 hE
  by_cases h0 : E = 0
  · subst h0
    have K := Lib.hid K
    simp only [if_true]
    go_enter Try.func25, Try.ntmps25
    go_wp2_with fail
    refine K.out.mono ?_
    rintro e w2 ⟨rfl, hb2⟩
    have B2 := Lib.hid (BEL.out.trans (hb2.mono BEL.out.size))
    have x2 := X.out.below hb2 (by rw [HZ1.out]; exact Nat.lt_succ_self _)
    have d0 := x2.cell 0
    have d1 := x2.cell 1
    simp only [List.getElem?_cons_zero, List.getElem?_cons_succ] at d0 d1
    have P := Lib.hid (PE.out w2 (HQ.out.below hb2))
    clear hb2 x2 c0 c1
    go_wp2_with fail
    refine P.out.mono ?_
    rintro e w3 ⟨rfl, hb3⟩
    have B3 := Lib.hid (B2.out.trans (hb3.mono B2.out.size))
    clear hb3
    go_wp2
    go_ret2
    exact ⟨rfl, B3.out⟩
  · rw [if_neg h0]
    have K := Lib.hid K
    have hne : (E != 0) = true := bne_iff_ne.2 h0
    clear h0
    go_enter Try.func25, Try.ntmps25
    go_wp2_with fail
    refine K.out.mono ?_
    rintro e w2 ⟨rfl, hb2⟩
    have B2 := Lib.hid (BEL.out.trans (hb2.mono BEL.out.size))
    clear hb2
    go_wp2
    go_ret2
    exact ⟨rfl, B2.out⟩

theorem ask_zero {S : List Sec} {C : List Pnd} {at_ : Int} (h : askE S C at_ = 0) : mayD S C = true ∧ ∃ a : Nat, at_ = a ∧ a < S.length := by
  unfold askE at h
  cases hR : mayD S C with
  | false => rw [hR] at h; simp at h
  | true =>
    rw [hR] at h
    simp only [if_true] at h
    by_cases hx : at_ < 0 ∨ (S.length : Int) ≤ at_
    · rw [if_pos hx] at h; omega
    · exact ⟨rfl, at_.toNat, by omega, by omega⟩

theorem read_any (A : Option Addr) (n c : Nat) (A' : Option Addr) (n' c' : Nat) (S : List Sec) (C : List Pnd) (at_ : Int) (w : World) (hq : Dsk w A n c A' n' c' S C) (hs : SmallD S C) :
    Calls Try.prog 23 #[diskV A n c A' n' c', .int .i64 at_] w (BytesOut w (rdB S C at_) (rdE S C at_)) := by
  have hbel : Below w.heap.size w (w.alloc (.cells #[.slice A n c, .slice A' n' c'] 32)) := (Below.refl _ _).alloc (Nat.le_refl _) _
  have K := asked_any A n c A' n' c' S C at_ _ (hq.below hbel)
  have HQ := Lib.hid (hq.below hbel)
  have x := Blk.new w 32 [.slice A n c, .slice A' n' c']
  have X := Lib.hid x
  have c0 := x.cell 0
  have c1 := x.cell 1
  simp only [List.getElem?_cons_zero, List.getElem?_cons_succ] at c0 c1
  have BEL := Lib.hid hbel
  have hz1 : (w.alloc (.cells #[.slice A n c, .slice A' n' c'] 32)).heap.size = w.heap.size + 1 := World.size_alloc _ _
  have HZ1 := Lib.hid hz1
  by_cases h0 : askE S C at_ = 0
  · obtain ⟨_, a, rfl, han⟩ := ask_zero h0
    rw [hq.secs.len] at han
    have GE := Lib.hid fun w2 hx => got_any A n c A' n' c' S C a w2 hx hs han
    rw [h0] at K
    have K := Lib.hid K
    have hE : rdE S C (a : Int) = if gotOk S C a then 0 else 50 := by unfold rdE; rw [if_pos h0]
    have hB : rdB S C (a : Int) = if gotOk S C a then gotB S C a else [] := by
      unfold rdB
      rw [hE]
      cases gotOk S C (a : Int) <;> rfl
    rw [hE, hB]
    obtain ⟨G, hG⟩ : ∃ G, G = gotB S C a := ⟨_, rfl⟩
    obtain ⟨OK, hOK⟩ : ∃ OK, OK = gotOk S C a := ⟨_, rfl⟩
    rw [← hG, ← hOK] at GE ⊢
    clear hbel hq x hz1 hs h0 hE hB hG hOK
    cases OK with
    | true =>
      simp only [if_true]
      go_enter Try.func23, Try.ntmps23
      go_wp2_with fail
      refine K.out.mono ?_
      rintro e w2 ⟨rfl, hb2⟩
      have B2 := Lib.hid (BEL.out.trans (hb2.mono BEL.out.size))
      have x2 := X.out.below hb2 (by rw [HZ1.out]; exact Nat.lt_succ_self _)
      have d0 := x2.cell 0
      have d1 := x2.cell 1
      simp only [List.getElem?_cons_zero, List.getElem?_cons_succ] at d0 d1
      have P := Lib.hid (GE.out w2 (HQ.out.below hb2))
      clear hb2 x2 c0 c1
      go_wp2_with fail
      refine P.out.mono ?_
      rintro e w3 ⟨B, d, rfl, hown, hb3⟩
      have O3 := Lib.hid (owns_base hown B2.out.size)
      have B3 := Lib.hid (B2.out.trans (hb3.mono B2.out.size))
      clear hb3 hown
      go_wp2
      go_ret2
      exact ⟨B, d, rfl, O3.out, B3.out⟩
    | false =>
      simp only [Bool.false_eq_true, if_false]
      go_enter Try.func23, Try.ntmps23
      go_wp2_with fail
      refine K.out.mono ?_
      rintro e w2 ⟨rfl, hb2⟩
      have B2 := Lib.hid (BEL.out.trans (hb2.mono BEL.out.size))
      have x2 := X.out.below hb2 (by rw [HZ1.out]; exact Nat.lt_succ_self _)
      have d0 := x2.cell 0
      have d1 := x2.cell 1
      simp only [List.getElem?_cons_zero, List.getElem?_cons_succ] at d0 d1
      have P := Lib.hid (GE.out w2 (HQ.out.below hb2))
      clear hb2 x2 c0 c1
      go_wp2_with fail
      refine P.out.mono ?_
      rintro e w3 ⟨B, d, rfl, hown, hb3⟩
      have B3 := Lib.hid (B2.out.trans (hb3.mono B2.out.size))
      clear hb3 hown
      go_wp2
      go_ret2
      exact ⟨none, 0, rfl, World.ownsRow_nil _ _ _ _, B3.out⟩
  · have hE : rdE S C at_ = askE S C at_ := by unfold rdE; rw [if_neg h0]
    have hB : rdB S C at_ = [] := by unfold rdB; rw [hE, if_neg h0]
    rw [hE, hB]
    obtain ⟨E, hEE⟩ : ∃ E, E = askE S C at_ := ⟨_, rfl⟩
    rw [← hEE] at K h0 ⊢
    have K := Lib.hid K
    have hne : (E != 0) = true := bne_iff_ne.2 h0
    clear hbel hq x hz1 hs h0 hE hB hEE
    go_enter Try.func23, Try.ntmps23
    go_wp2_with fail
    refine K.out.mono ?_
    rintro e w2 ⟨rfl, hb2⟩
    have B2 := Lib.hid (BEL.out.trans (hb2.mono BEL.out.size))
    clear hb2
    go_wp2
    go_ret2
    exact ⟨none, 0, rfl, World.ownsRow_nil _ _ _ _, B2.out⟩

end Go.Proofs.Ytnmlplfcdnakhaa

namespace Go.Proofs.Ytnmlplfcdnakhaa
open Go.RowKit
set_option linter.unusedVariables false

/-- What a call hands back beside a number: a disk of its own. -/
def DiskOut (w : World) (S : List Sec) (C : List Pnd) (E : Int) (e : Ending) (w' : World) : Prop :=
  ∃ A c A' c', e = .returned (.tuple #[diskV A S.length c A' C.length c', .int .i64 E]) ∧ OwnDsk w' w.heap.size A S.length c A' C.length c' S C ∧ Below w.heap.size w w'

set_option maxRecDepth 100000 in
set_option maxHeartbeats 6400000 in
theorem with_any (A : Option Addr) (n c : Nat) (A' : Option Addr) (n' c' : Nat) (S : List Sec) (C : List Pnd) (at_ : Int) (Ab : Option Addr) (nb cb : Nat) (b : Txt) (w : World) (hq : Dsk w A n c A' n' c' S C) (hs : SmallD S C) (hb : Arg w .u8 Ab nb cb b) (hby : ∀ z ∈ b, isByte z) (hbl : b.length ≤ 100) :
    Calls Try.prog 79 #[diskV A n c A' n' c', .int .i64 at_, .slice Ab nb cb] w fun e w' => ∃ B d B' d', e = .returned (diskV B n d B' (n' + 1) d') ∧ OwnDsk w' w.heap.size B n d B' (n' + 1) d' S (C ++ [(at_, b)]) ∧ Below w.heap.size w w' := by
  obtain ⟨i0, hi0, hz0, hz1, hz2⟩ := info_parts byte_info
  have hml : (1000 : Nat) ≤ maxLen := by decide
  obtain ⟨x1, x2, hbel⟩ := boxes2 w A n c A' n' c' none 0 0 none 0 0
  have T := twin_any A n c A' n' c' S C _ (hq.below hbel) hs
  have hn' := hs.pnds
  rw [hq.pnds.len] at hn'
  have c0 := x1.cell 0
  have c1 := x1.cell 1
  simp only [List.getElem?_cons_zero, List.getElem?_cons_succ] at c0 c1
  have hsz : ((w.alloc (.cells #[.slice A n c, .slice A' n' c'] 32)).alloc (.cells #[.slice none 0 0, .slice none 0 0] 32)).heap.size = w.heap.size + 2 := by simp
  have hnb : nb ≤ 100 := by rw [← hb.len]; exact hbl
  have HB := Lib.hid hb
  have HBY := Lib.hid hby
  obtain ⟨w1, hw1⟩ : ∃ w1, w1 = (w.alloc (.cells #[.slice A n c, .slice A' n' c'] 32)).alloc (.cells #[.slice none 0 0, .slice none 0 0] 32) := ⟨_, rfl⟩
  rw [← hw1] at x1 x2 hbel T c0 c1 hsz
  have X1 := Lib.hid x1
  have X2 := Lib.hid x2
  have BEL := Lib.hid hbel
  have T := Lib.hid T
  have HSZ := Lib.hid hsz
  clear x1 x2 hbel hq hs hb hby hbl hsz
  go_enter Try.func79, Try.ntmps79
  rw [hw1] at c0 c1 T
  go_wp2_with fail
  refine T.out.mono ?_
  rintro e w4 ⟨B, d, B', d', rfl, hown, hb4⟩
  rw [← hw1] at hown hb4 T
  have hz1' := HSZ.out
  have hz4 := hb4.size
  have x2 := X2.out.below hb4 (by omega)
  have xg := Blk.new w4 32 [.slice B n d, .slice B' n' d']
  have x2 := x2.grown (World.grownBy_alloc w4 (.cells #[.slice B n d, .slice B' n' d'] 32) none) (by simp)
  have O5 := hown.below ((Below.refl _ _).alloc (Nat.le_refl _) (.cells #[.slice B n d, .slice B' n' d'] 32))
  have B5 := (BEL.out.trans (hb4.mono BEL.out.size)).alloc (Nat.le_trans BEL.out.size hz4) (.cells #[.slice B n d, .slice B' n' d'] 32)
  clear c0 c1 T hown hb4
  go_wp2
  obtain ⟨G, hG⟩ : ∃ G, G = w4.heap.size := ⟨_, rfl⟩
  rw [← hG] at xg hz4 ⊢
  obtain ⟨w5, hw5⟩ : ∃ w5, w5 = w4.alloc (.cells #[.slice B n d, .slice B' n' d'] 32) := ⟨_, rfl⟩
  have hz5 : w5.heap.size = G + 1 := by rw [hw5, hG]; exact World.size_alloc _ _
  change Blk (w4.alloc (.cells #[.slice B n d, .slice B' n' d'] 32)) G 32 [.slice B n d, .slice B' n' d'] at xg
  rw [← hw5] at x2 xg O5 B5 ⊢
  have X2 := Lib.hid (show Blk w5.drew (w.heap.size + 1) 32 [.slice none 0 0, .slice none 0 0] from x2)
  have XG := Lib.hid (show Blk w5.drew G 32 [.slice B n d, .slice B' n' d'] from xg)
  have OD := Lib.hid (show OwnDsk w5.drew w1.heap.size B n d B' n' d' S C from O5.below (below_drewN (Below.refl _ _) 1))
  have BD := Lib.hid (show Below w.heap.size w w5.drew from below_drewN B5 1)
  have HBD := Lib.hid (show Arg w5.drew .u8 Ab nb cb b from HB.out.below BD.out)
  have q1 := xg.cell 1
  simp only [List.getElem?_cons_zero, List.getElem?_cons_succ] at q1
  have hGl : G < w5.drew.heap.size := by show G < w5.heap.size; omega
  have hle : w1.heap.size ≤ w5.drew.heap.size := by show _ ≤ w5.heap.size; omega
  have keepS : ∀ wx, Below w5.drew.heap.size w5.drew wx → wx.cell? ⟨G, 1, none⟩ = some (.slice B' n' d') := fun wx hx => (hx.cell (p := ⟨G, 1, none⟩) hGl).trans q1
  have hHeld := keepS w5.drew (Below.refl _ _)
  have hGw : w1.heap.size ≤ G := hz4
  have HS1 := Lib.hid hz1'
  clear hw5 hG x2 xg O5 B5 hz5 hz4 q1 hw1
  refine wp_region_to 10 (fun w' => w'.cell? ⟨G, 1, none⟩ = some (.slice B' n' d')) (by kernel_rfl) ?_
  refine wpAnyG_take (i := 0) (v := ?_) rfl (by kernel_rfl) (by kernel_rfl) (by kernel_rfl) (by kernel_rfl) (by kernel_rfl) rfl (fun _ _ _ h => h) (Or.inl ⟨by rfl, ?_⟩) hHeld ?_
  rotate_left
  · (intro w' hSw; (try dsimp only at hSw); go_simp; (try with_reducible rfl))
  simp only [Act.put, List.setIfInBounds_toArray]
  refine wpAnyG_take (i := 1) (v := ?_) rfl (by kernel_rfl) (by kernel_rfl) (by kernel_rfl) (by kernel_rfl) (by kernel_rfl) rfl (fun _ _ _ h => h) (Or.inl ⟨by rfl, ?_⟩) hHeld ?_
  rotate_left
  · (intro w' hSw; (try dsimp only at hSw); go_simp; (try with_reducible rfl))
  simp only [Act.put]
  refine wpAnyG_take (i := 2) (v := ?_) rfl (by kernel_rfl) (by kernel_rfl) (by kernel_rfl) (by kernel_rfl) (by kernel_rfl) rfl (fun _ _ _ h => h) (Or.inl ⟨by rfl, ?_⟩) hHeld ?_
  rotate_left
  · (intro w' hSw; (try dsimp only at hSw); go_simp; (try with_reducible rfl))
  simp only [Act.put]
  refine wpAnyG_take (i := 4) (v := ?_) rfl (by kernel_rfl) (by kernel_rfl) (by kernel_rfl) (by kernel_rfl) (by kernel_rfl) rfl (fun _ _ _ h => h) (Or.inl ⟨by rfl, ?_⟩) hHeld ?_
  rotate_left
  · (intro w' hSw; (try dsimp only at hSw); go_simp; (try with_reducible rfl))
  simp only [Act.put]
  refine wpAnyG_one (i := 3) (by kernel_rfl) rfl (fun K hK => ?_)
  go_simp
  refine hK.out _ _ (fun _ => keepS _ ((Below.refl _ _).alloc (Nat.le_refl _) _)) (fun hHeld => ?_)
  have hHeld := hHeld (by decide)
  clear hK K
  try simp only [Act.put, List.setIfInBounds_toArray, List.set_cons_zero, List.set_cons_succ]
  refine wpAnyG_one (i := 5) (by kernel_rfl) rfl (fun K hK => ?_)
  refine step_dup_g w5.drew (by rfl) (.tmp 13) (.tmp 14) _ (by rfl) 5 i0 _ 1 Try.underlying22 hi0 hz0 hz1 hz2 rfl (by rfl) Ab nb cb (ints .u8 b) (by rfl) (by rw [ints_length, HBD.out.len]) HBD.out.seq (ints_one _ _) (by omega) (by omega) ?_
  intro A6 c6 w6 hown6 hb6
  refine hK.out _ _ (fun _ => keepS _ hb6) (fun hHeld => ?_)
  have hHeld := hHeld (by decide)
  clear hK K
  try simp only [Act.put, List.setIfInBounds_toArray]
  refine wpAnyG_take (i := 6) (v := ?_) rfl (by kernel_rfl) (by kernel_rfl) (by kernel_rfl) (by kernel_rfl) (by kernel_rfl) rfl (fun _ _ _ h => h) (Or.inl ⟨by rfl, ?_⟩) hHeld ?_
  rotate_left
  · (intro w' hSw; (try dsimp only at hSw); go_simp; (try with_reducible rfl))
  simp only [Act.put]
  refine wpAnyG_one (i := 7) (by kernel_rfl) rfl (fun K hK => ?_)
  go_simp
  refine hK.out _ _ (fun _ => keepS _ (hb6.alloc hb6.size _)) (fun hHeld => ?_)
  have hHeld := hHeld (by decide)
  clear hK K
  try simp only [Act.put, List.setIfInBounds_toArray, List.set_cons_zero, List.set_cons_succ]
  refine wpAnyG_one (i := 8) (by kernel_rfl) rfl (fun K hK => ?_)
  refine step_pnd w5.drew w6 (by rfl) (.tmp 11) (.tmp 17) (by rfl) w1.heap.size B' n' d' C (by rfl) (OD.out.pnds.below hb6) A6 nb c6 at_ b HBY.out (owns_base hown6 hle) (by rfl) (by omega) (hb6.mono hle) hle ?_
  intro g7 c7 w7 hO7 hb7 hg7
  have x7 := ((XG.out.below hb6 hGl).grown (World.grownBy_alloc w6 (.cells #[.int .i64 at_, .slice A6 nb c6] 71) none) (by simp)).grown hg7 (((OD.out.pnds.below hb6).below ((Below.refl _ _).alloc (Nat.le_refl _) _)).not_blk ((XG.out.below hb6 hGl).grown (World.grownBy_alloc w6 (.cells #[.int .i64 at_, .slice A6 nb c6] 71) none) (by simp)))
  have l7 := x7.cell 1
  have f7 := x7.free 1
  simp only [List.getElem?_cons_zero, List.getElem?_cons_succ] at l7
  refine hK.out _ _ (fun _ => l7) (fun hHeld => ?_)
  have hHeld := hHeld (by decide)
  clear hK K
  try simp only [Act.put, List.setIfInBounds_toArray]
  refine wpAnyG_take (i := 9) (v := ?_) rfl (by kernel_rfl) (by kernel_rfl) (by kernel_rfl) (by kernel_rfl) (by kernel_rfl) rfl (fun _ _ _ h => h) (Or.inl ⟨by rfl, ?_⟩) hHeld ?_
  rotate_left
  · (intro w' hSw; (try dsimp only at hSw); go_simp; (try with_reducible rfl))
  simp only [Act.put]
  refine wpAnyG_one (i := 10) (by kernel_rfl) rfl (fun K hK => ?_)
  go_simp
  refine hK.out _ _ (fun h => absurd rfl h) (fun _ => ?_)
  clear hK K
  refine wpAnyG_done (by kernel_rfl) ?_ _
  have hz1' := HS1.out
  have x2 := (X2.out.below hb7 (by omega)).away (g' := G) (by omega) 1 (.slice (some ⟨g7, 0, none⟩) (n' + 1) c7)
  have xg := x7.set 1 (.slice (some ⟨g7, 0, none⟩) (n' + 1) c7)
  simp only [List.set_cons_zero, List.set_cons_succ] at xg
  have hsec := (((OD.out.secs.below hb6).below ((Below.refl _ _).alloc (Nat.le_refl _) _)).beside ((OD.out.pnds.below hb6).below ((Below.refl _ _).alloc (Nat.le_refl _) _)) hg7)
  have O8 := (OwnDsk.mk hsec hO7).box x7 1 (.slice (some ⟨g7, 0, none⟩) (n' + 1) c7)
  have B8 := (BD.out.trans (hb7.mono (by omega))).setCell (p := ⟨G, 1, none⟩) (show w.heap.size ≤ G by omega) (.slice (some ⟨g7, 0, none⟩) (n' + 1) c7)
  obtain ⟨w8, hw8⟩ : ∃ w8, w8 = w7.setCell ⟨G, 1, none⟩ (.slice (some ⟨g7, 0, none⟩) (n' + 1) c7) := ⟨_, rfl⟩
  rw [← hw8] at x2 xg O8 B8 ⊢
  have k0 := xg.cell 0
  have k1 := xg.cell 1
  have e0 := x2.cell 0
  have e1 := x2.cell 1
  have g0 := x2.free 0
  have g1 := x2.free 1
  simp only [List.getElem?_cons_zero, List.getElem?_cons_succ] at k0 k1 e0 e1
  have R2 := Lib.hid x2
  have O8 := Lib.hid O8
  have B8 := Lib.hid B8
  clear hw8 x2 xg hsec hO7 hb7 hg7 x7 l7 f7 hown6 hb6 keepS hHeld hz1'
  go_wp2
  have z := R2.out.two (.slice B n d) (.slice (some ⟨g7, 0, none⟩) (n' + 1) c7)
  have z0 := z.cell 0
  have z1 := z.cell 1
  simp only [List.getElem?_cons_zero, List.getElem?_cons_succ] at z0 z1
  have O9 := O8.out.two R2.out (.slice B n d) (.slice (some ⟨g7, 0, none⟩) (n' + 1) c7)
  have B9 := below_two B8.out (show w.heap.size ≤ w.heap.size + 1 by omega) (.slice B n d) (.slice (some ⟨g7, 0, none⟩) (n' + 1) c7)
  have hz1' := HS1.out
  refine bodyPost_ret (v := diskV B n d (some ⟨g7, 0, none⟩) (n' + 1) c7) ?_ rfl ⟨B, d, _, c7, rfl, O9.lower (by omega), B9⟩
  clear k0 k1 e0 e1 g0 g1
  simp [results, Try.f79, go_sem, z0, z1]

end Go.Proofs.Ytnmlplfcdnakhaa

namespace Go.Proofs.Ytnmlplfcdnakhaa
open Go.RowKit
set_option linter.unusedVariables false

set_option maxRecDepth 100000 in
set_option maxHeartbeats 3200000 in
theorem write_any (A : Option Addr) (n c : Nat) (A' : Option Addr) (n' c' : Nat) (S : List Sec) (C : List Pnd) (at_ : Int) (Ab : Option Addr) (nb cb : Nat) (b : Txt) (w : World) (hq : Dsk w A n c A' n' c' S C) (hs : SmallD S C) (hb : Arg w .u8 Ab nb cb b) (hby : ∀ z ∈ b, isByte z) (hbl : b.length ≤ 100) :
    Calls Try.prog 21 #[diskV A n c A' n' c', .int .i64 at_, .slice Ab nb cb] w (DiskOut w (wrS S C at_ b) (wrC S C at_ b) (wrE S C at_ b)) := by
  obtain ⟨x1, x2, hbel⟩ := boxes2 w A n c A' n' c' none 0 0 none 0 0
  have hsz : ((w.alloc (.cells #[.slice A n c, .slice A' n' c'] 32)).alloc (.cells #[.slice none 0 0, .slice none 0 0] 32)).heap.size = w.heap.size + 2 := by simp
  have K := asked_any A n c A' n' c' S C at_ _ (hq.below hbel)
  have X1 := Lib.hid x1
  have X2 := Lib.hid x2
  have BEL := Lib.hid hbel
  have HSZ := Lib.hid hsz
  have c0 := x1.cell 0
  have c1 := x1.cell 1
  simp only [List.getElem?_cons_zero, List.getElem?_cons_succ] at c0 c1
  have hlb := hb.len
  have hlp := hq.pnds.len
  have hls := hq.secs.len
  have hcb := Nat.le_trans hb.cap hb.max
  have hcp := Nat.le_trans hq.pnds.cap hq.pnds.max
  unfold maxLen at hcb hcp
  by_cases h0 : askE S C at_ = 0
  · have hE : wrE S C at_ b = if b.length = 32 then (if 64 ≤ C.length then 9 else 0) else 2 := by unfold wrE; rw [if_pos h0]
    rw [h0] at K
    have K := Lib.hid K
    by_cases h32 : nb = 32
    · by_cases h64 : 64 ≤ n'
      · have hE9 : wrE S C at_ b = 9 := by rw [hE, if_pos (by omega), if_pos (by omega)]
        rw [show wrS S C at_ b = [] by unfold wrS; rw [hE9]; rfl, show wrC S C at_ b = [] by unfold wrC; rw [hE9]; rfl, hE9]
        subst h32
        have h64i : (64 : Int) ≤ (n' : Int) := by omega
        clear hE hE9 h0 hq hs hb hby hbl hlb hlp hls x1 x2 hbel hsz
        go_enter Try.func21, Try.ntmps21
        go_wp2_with fail
        refine K.out.mono ?_
        rintro e w3 ⟨rfl, hb3⟩
        have x1 := X1.out.below hb3 (by have := HSZ.out; omega)
        have x2 := X2.out.below hb3 (by have := HSZ.out; omega)
        have d0 := x1.cell 0
        have d1 := x1.cell 1
        have e0 := x2.cell 0
        have e1 := x2.cell 1
        have g0 := x2.free 0
        have g1 := x2.free 1
        simp only [List.getElem?_cons_zero, List.getElem?_cons_succ] at d0 d1 e0 e1
        have R2 := Lib.hid x2
        have B3 := Lib.hid (BEL.out.trans (hb3.mono (by have := HSZ.out; omega)))
        clear hb3 x1 x2 c0 c1
        go_wp2
        have z := R2.out.two (.slice none 0 0) (.slice none 0 0)
        have z0 := z.cell 0
        have z1 := z.cell 1
        simp only [List.getElem?_cons_zero, List.getElem?_cons_succ] at z0 z1
        refine bodyPost_ret (v := .tuple #[diskV none 0 0 none 0 0, .int .i64 9]) ?_ rfl ⟨none, 0, none, 0, rfl, OwnDsk.nil _ _, below_two B3.out (by omega) _ _⟩
        clear d0 d1 e0 e1 g0 g1
        simp [results, Try.f21, go_sem, z0, z1]

      · have hE0 : wrE S C at_ b = 0 := by rw [hE, if_pos (by omega), if_neg (by omega)]
        rw [show wrS S C at_ b = S by unfold wrS; rw [hE0]; rfl, show wrC S C at_ b = C ++ [(at_, b)] by unfold wrC; rw [hE0]; rfl, hE0]
        have W := Lib.hid fun w3 hx hy => with_any A n c A' n' c' S C at_ Ab nb cb b w3 hx hs hy hby hbl
        subst h32
        have h64i : ¬ (64 : Int) ≤ (n' : Int) := by omega
        have HQ := Lib.hid hq
        have HB := Lib.hid hb
        have HLS := Lib.hid hls
        have HLP := Lib.hid (show (C ++ [(at_, b)]).length = n' + 1 by simp [hlp])
        clear hE hE0 h0 hq hs hb hby hbl hlb hlp hls x1 x2 hbel hsz
        go_enter Try.func21, Try.ntmps21
        go_wp2_with fail
        refine K.out.mono ?_
        rintro e w3 ⟨rfl, hb3⟩
        have x1 := X1.out.below hb3 (by have := HSZ.out; omega)
        have x2 := X2.out.below hb3 (by have := HSZ.out; omega)
        have d0 := x1.cell 0
        have d1 := x1.cell 1
        have e0 := x2.cell 0
        have e1 := x2.cell 1
        have g0 := x2.free 0
        have g1 := x2.free 1
        simp only [List.getElem?_cons_zero, List.getElem?_cons_succ] at d0 d1 e0 e1
        have R2 := Lib.hid x2
        have B3 := Lib.hid (BEL.out.trans (hb3.mono (by have := HSZ.out; omega)))
        have W := Lib.hid (W.out w3 (HQ.out.below B3.out) (HB.out.below B3.out))
        clear hb3 x1 x2 c0 c1 K e0 e1 g0 g1
        go_wp2_with fail
        refine W.out.mono ?_
        rintro e w4 ⟨B, d, B', d', rfl, hown, hb4⟩
        have hz3 : w.heap.size + 2 ≤ w3.heap.size := by have h1 := R2.out.lt; omega
        have x2 := R2.out.below hb4 (by omega)
        have e0 := x2.cell 0
        have e1 := x2.cell 1
        have g0 := x2.free 0
        have g1 := x2.free 1
        simp only [List.getElem?_cons_zero, List.getElem?_cons_succ] at e0 e1
        have Q2 := Lib.hid x2
        have O4 := Lib.hid hown
        have B4 := Lib.hid (B3.out.trans (hb4.mono B3.out.size))
        clear x2 hown hb4 d0 d1
        go_wp2
        have z := Q2.out.two (.slice B n d) (.slice B' (n' + 1) d')
        have z0 := z.cell 0
        have z1 := z.cell 1
        simp only [List.getElem?_cons_zero, List.getElem?_cons_succ] at z0 z1
        have O9 := O4.out.two Q2.out (.slice B n d) (.slice B' (n' + 1) d')
        have hls := HLS.out
        have hlp := HLP.out
        refine bodyPost_ret (v := .tuple #[diskV B n d B' (n' + 1) d', .int .i64 0]) ?_ rfl ⟨B, d, B', d', by rw [hls, hlp], by rw [hls, hlp]; exact O9.lower (by omega), below_two B4.out (by omega) _ _⟩
        clear e0 e1 g0 g1
        simp [results, Try.f21, go_sem, z0, z1]

    · have hE2 : wrE S C at_ b = 2 := by rw [hE, if_neg (by omega)]
      rw [show wrS S C at_ b = [] by unfold wrS; rw [hE2]; rfl, show wrC S C at_ b = [] by unfold wrC; rw [hE2]; rfl, hE2]
      have h32i : ((nb : Int) != 32) = true := bne_iff_ne.2 (by omega)
      clear hE hE2 h0 hq hs hb hby hbl hlb hlp hls x1 x2 hbel hsz
      go_enter Try.func21, Try.ntmps21
      go_wp2_with fail
      refine K.out.mono ?_
      rintro e w3 ⟨rfl, hb3⟩
      have x1 := X1.out.below hb3 (by have := HSZ.out; omega)
      have x2 := X2.out.below hb3 (by have := HSZ.out; omega)
      have d0 := x1.cell 0
      have d1 := x1.cell 1
      have e0 := x2.cell 0
      have e1 := x2.cell 1
      have g0 := x2.free 0
      have g1 := x2.free 1
      simp only [List.getElem?_cons_zero, List.getElem?_cons_succ] at d0 d1 e0 e1
      have R2 := Lib.hid x2
      have B3 := Lib.hid (BEL.out.trans (hb3.mono (by have := HSZ.out; omega)))
      clear hb3 x1 x2 c0 c1
      go_wp2
      have z := R2.out.two (.slice none 0 0) (.slice none 0 0)
      have z0 := z.cell 0
      have z1 := z.cell 1
      simp only [List.getElem?_cons_zero, List.getElem?_cons_succ] at z0 z1
      refine bodyPost_ret (v := .tuple #[diskV none 0 0 none 0 0, .int .i64 2]) ?_ rfl ⟨none, 0, none, 0, rfl, OwnDsk.nil _ _, below_two B3.out (by omega) _ _⟩
      clear d0 d1 e0 e1 g0 g1
      simp [results, Try.f21, go_sem, z0, z1]

  · have hE : wrE S C at_ b = askE S C at_ := by unfold wrE; rw [if_neg h0]
    rw [show wrS S C at_ b = [] by unfold wrS; rw [hE, if_neg h0], show wrC S C at_ b = [] by unfold wrC; rw [hE, if_neg h0], hE]
    obtain ⟨E, hEE⟩ : ∃ E, E = askE S C at_ := ⟨_, rfl⟩
    rw [← hEE] at K h0 ⊢
    have K := Lib.hid K
    have hne : (E != 0) = true := bne_iff_ne.2 h0
    clear hE hEE h0 hq hs hb hby hbl hlb hlp hls x1 x2 hbel hsz
    go_enter Try.func21, Try.ntmps21
    go_wp2_with fail
    refine K.out.mono ?_
    rintro e w3 ⟨rfl, hb3⟩
    have x1 := X1.out.below hb3 (by have := HSZ.out; omega)
    have x2 := X2.out.below hb3 (by have := HSZ.out; omega)
    have d0 := x1.cell 0
    have d1 := x1.cell 1
    have e0 := x2.cell 0
    have e1 := x2.cell 1
    have g0 := x2.free 0
    have g1 := x2.free 1
    simp only [List.getElem?_cons_zero, List.getElem?_cons_succ] at d0 d1 e0 e1
    have R2 := Lib.hid x2
    have B3 := Lib.hid (BEL.out.trans (hb3.mono (by have := HSZ.out; omega)))
    clear hb3 x1 x2 c0 c1
    go_wp2
    have z := R2.out.two (.slice none 0 0) (.slice none 0 0)
    have z0 := z.cell 0
    have z1 := z.cell 1
    simp only [List.getElem?_cons_zero, List.getElem?_cons_succ] at z0 z1
    refine bodyPost_ret (v := .tuple #[diskV none 0 0 none 0 0, .int .i64 E]) ?_ rfl ⟨none, 0, none, 0, rfl, OwnDsk.nil _ _, below_two B3.out (by omega) _ _⟩
    clear d0 d1 e0 e1 g0 g1
    simp [results, Try.f21, go_sem, z0, z1]

end Go.Proofs.Ytnmlplfcdnakhaa

namespace Go.Proofs.Ytnmlplfcdnakhaa
open Go.RowKit
set_option linter.unusedVariables false

theorem byFate_len (S : List Sec) (p : Pnd) (f : Int) : (byFate S p f).length = S.length := by unfold byFate; split <;> (try split) <;> simp
theorem behindK_len (S : List Sec) (C : List Pnd) (F : List Int) (k : Nat) : (behindK S C F k).length = S.length := by
  induction k with
  | zero => rfl
  | succ k ih => unfold behindK; rw [byFate_len, ih]
theorem make_bytes (n : Nat) (hn : n ≤ 1000) (w : World) :
    (Instr.makeSlice 22 (.int .i64 (n : Int)) (.int .i64 (n : Int))).run Try.prog w = .ok (.slice (some ⟨w.heap.size, 0, none⟩) n n) (w.alloc (.cells (List.replicate n (.int .u8 0)).toArray 5)) := by
  obtain ⟨i0, hi0, hz0, hz1, hz2⟩ := info_parts byte_info
  have hml : (1000 : Nat) ≤ maxLen := by decide
  exact run_make1 (P := Try.prog) 22 5 i0 _ Try.underlying22 hi0 hz0 hz1 rfl n (by rw [hz2]; omega) (by omega) w
theorem noughts_ints : List.replicate 32 (Value.int .u8 0) = ints .u8 noughts := by unfold noughts ints; rw [List.map_replicate]
theorem noughts_own (w : World) : (w.alloc (.cells (List.replicate 32 (.int .u8 0)).toArray 5)).ownsRow w.heap.size 5 1 (.slice (some ⟨w.heap.size, 0, none⟩) 32 32) 32 (ints .u8 noughts) := by
  have h : Blk (w.alloc (.cells (List.replicate 32 (.int .u8 0)).toArray 5)) w.heap.size 5 (List.replicate 32 (.int .u8 0)) := Blk.new w 5 _
  rw [noughts_ints] at h
  exact h.owns (Nat.le_refl _) (by simp [ints_length, noughts]) (by decide)
theorem noughts_byte : ∀ z ∈ noughts, isByte z := fun z hz => by
  rw [List.eq_of_mem_replicate hz]
  unfold isByte
  omega

set_option maxRecDepth 100000 in
set_option maxHeartbeats 6400000 in
theorem behind_any (A : Option Addr) (n c : Nat) (A' : Option Addr) (n' c' : Nat) (S : List Sec) (C : List Pnd) (Af : Option Addr) (nf cf : Nat) (F : List Int) (w : World) (hq : Dsk w A n c A' n' c' S C) (hs : SmallD S C) (hf : Arg w .u8 Af nf cf F) (hfb : ∀ z ∈ F, isByte z) (hmay : mayD S C = true) :
    Calls Try.prog 90 #[diskV A n c A' n' c', .slice Af nf cf] w fun e w' => ∃ B d, e = .returned (diskV B n d none 0 0) ∧ OwnDsk w' w.heap.size B n d none 0 0 (behindS S C F) [] ∧ Below w.heap.size w w' := by
  obtain ⟨i0, hi0, hz0, hz1, hz2⟩ := info_parts byte_info
  have hml : (1000 : Nat) ≤ maxLen := by decide
  obtain ⟨x1, x2, hbel⟩ := boxes2 w A n c A' n' c' none 0 0 none 0 0
  have T := twin_any A n c A' n' c' S C _ (hq.below hbel) hs
  have hm := (mayD_iff S C).1 hmay
  have hn := hs.secs
  have hn' := hs.pnds
  rw [hq.secs.len] at hn
  rw [hq.pnds.len] at hn'
  have hn1 : 1 ≤ n := by have := hm.1.1; rw [hq.secs.len] at this; exact this
  have hls := hq.secs.len
  have hlp := hq.pnds.len
  have hlf := hf.len
  have hcf := Nat.le_trans hf.cap hf.max
  unfold maxLen at hcf
  have AT := Lib.hid fun k (hk : k < n') => (show ∃ a : Nat, (C.getD k (0, [])).1 = a ∧ a < n ∧ (C.getD k (0, [])).2.length ≤ 100 from by
    have hk' : k < C.length := by rw [hlp]; exact hk
    have h1 := hm.2.2 C[k] (List.getElem_mem hk')
    rw [List.getD_eq_getElem?_getD, List.getElem?_eq_getElem hk', Option.getD_some]
    rw [hls] at h1
    exact ⟨C[k].1.toNat, by omega, by omega, by omega⟩)
  have FB := Lib.hid fun k (hk : k < nf) => (show isByte (F.getD k 0) from by
    have hk' : k < F.length := by rw [hlf]; exact hk
    rw [List.getD_eq_getElem?_getD, List.getElem?_eq_getElem hk', Option.getD_some]
    exact hfb _ (List.getElem_mem hk'))
  have BK := Lib.hid fun k => (show behindK S C F (k + 1) = byFate (behindK S C F k) (C.getD k (0, [])) (F.getD k 0) from rfl)
  have END := Lib.hid fun k (h1 : k ≤ n') (h2 : k ≤ nf) (h3 : k = n' ∨ k = nf) => (show behindK S C F k = behindS S C F from by
    unfold behindS
    rw [hlp, hlf, show min n' nf = k by omega])
  have BKL := Lib.hid fun k => (show (behindK S C F k).length = n from by rw [behindK_len, hls])
  have c0 := x1.cell 0
  have c1 := x1.cell 1
  simp only [List.getElem?_cons_zero, List.getElem?_cons_succ] at c0 c1
  have hsz : ((w.alloc (.cells #[.slice A n c, .slice A' n' c'] 32)).alloc (.cells #[.slice none 0 0, .slice none 0 0] 32)).heap.size = w.heap.size + 2 := by simp
  have HQ := Lib.hid hq
  have HF := Lib.hid hf
  obtain ⟨w1, hw1⟩ : ∃ w1, w1 = (w.alloc (.cells #[.slice A n c, .slice A' n' c'] 32)).alloc (.cells #[.slice none 0 0, .slice none 0 0] 32) := ⟨_, rfl⟩
  rw [← hw1] at x1 x2 hbel T c0 c1 hsz
  have X1 := Lib.hid x1
  have X2 := Lib.hid x2
  have BEL := Lib.hid hbel
  have T := Lib.hid T
  have HSZ := Lib.hid hsz
  clear x1 x2 hbel hq hs hf hfb hmay hm hls hlp hlf hsz
  go_enter Try.func90, Try.ntmps90
  rw [hw1] at c0 c1 T
  go_wp2_with fail
  refine T.out.mono ?_
  rintro e w4 ⟨B, d, B', d', rfl, hown, hb4⟩
  rw [← hw1] at hown hb4 T
  have hz1' := HSZ.out
  have hz4 := hb4.size
  obtain ⟨g, rfl, hbg, hgs⟩ := hown.secs.block (by omega)
  have x1 := (X1.out.below hb4 (by omega)).grown (World.grownBy_alloc w4 (.cells #[.slice (some ⟨g, 0, none⟩) n d, .slice B' n' d'] 32) none) (by simp)
  have x2 := (X2.out.below hb4 (by omega)).grown (World.grownBy_alloc w4 (.cells #[.slice (some ⟨g, 0, none⟩) n d, .slice B' n' d'] 32) none) (by simp)
  have xg := Blk.new w4 32 [.slice (some ⟨g, 0, none⟩) n d, .slice B' n' d']
  have O5 := hown.secs.below ((Below.refl _ _).alloc (Nat.le_refl _) (.cells #[.slice (some ⟨g, 0, none⟩) n d, .slice B' n' d'] 32))
  have B5 := (BEL.out.trans (hb4.mono BEL.out.size)).alloc (Nat.le_trans BEL.out.size hz4) (.cells #[.slice (some ⟨g, 0, none⟩) n d, .slice B' n' d'] 32)
  clear c0 c1 T hown hb4
  go_wp2
  obtain ⟨G, hG⟩ : ∃ G, G = w4.heap.size := ⟨_, rfl⟩
  rw [← hG] at xg hz4 hgs ⊢
  obtain ⟨w5, hw5⟩ : ∃ w5, w5 = w4.alloc (.cells #[.slice (some ⟨g, 0, none⟩) n d, .slice B' n' d'] 32) := ⟨_, rfl⟩
  change Blk (w4.alloc (.cells #[.slice (some ⟨g, 0, none⟩) n d, .slice B' n' d'] 32)) G 32 [.slice (some ⟨g, 0, none⟩) n d, .slice B' n' d'] at xg
  rw [← hw5] at x1 x2 xg O5 B5 ⊢
  have Y1 := Lib.hid x1
  have Y2 := Lib.hid x2
  have YG := Lib.hid xg
  have O5 := Lib.hid O5
  have B5 := Lib.hid B5
  have hGw : w.heap.size + 2 ≤ G := by omega
  have hgB : w.heap.size + 2 ≤ g := by omega
  have hgG : g ≠ G := by omega
  have HBG := Lib.hid (show w1.heap.size ≤ g from hbg)
  clear hw5 hG x1 x2 xg hz4 hgs hz1' hw1 hbg
  go_loopw [6] (fun i wr => ∃ k : Nat, k ≤ n' ∧ k ≤ nf ∧ i = .int .i64 k ∧ OwnSecs wr w1.heap.size (some ⟨g, 0, none⟩) n d (behindK S C F k) ∧ Blk wr w.heap.size 32 [.slice A n c, .slice A' n' c'] ∧ Blk wr (w.heap.size + 1) 32 [.slice none 0 0, .slice none 0 0] ∧ Blk wr G 32 [.slice (some ⟨g, 0, none⟩) n d, .slice B' n' d'] ∧ Below w.heap.size w wr) (fun i _ => n' - (intOf i).toNat)
  case atStart => exact ⟨0, Nat.zero_le _, Nat.zero_le _, rfl, O5.out, Y1.out, Y2.out, YG.out, B5.out⟩
  case round =>
    obtain ⟨k, hk, hk2, rfl, hO, hx1, hx2, hxg, hB⟩ := hrel
    have q1 := hx1.cell 1
    simp only [List.getElem?_cons_zero, List.getElem?_cons_succ] at q1
    by_cases hkn : k < n' ∧ k < nf
    · obtain ⟨hkn, hkf⟩ := hkn
      have hki : (k : Int) < (n' : Int) := by omega
      have hkfi : (k : Int) < (nf : Int) := by omega
      obtain ⟨b, o, Ai, ni, ci, rfl, hlt, hc, hx, ha⟩ := HQ.out.pnds.at_ k hkn
      obtain ⟨bf, of_, rfl, hfl, hcfw⟩ := HF.out.seq.int (j := k) (by rw [HF.out.len]; exact hkf)
      have hcf2 := (hB.cell (p := ⟨bf, of_ + k, none⟩) hfl).trans hcfw
      obtain ⟨a, hat, han, hal⟩ := AT.out k hkn
      have hby := HQ.out.pnds.byte_at k
      have hlen := ha.len
      have hbk := BK.out k
      have hfb := FB.out k hkf
      obtain ⟨pn, hpn⟩ : ∃ pn, pn = C.getD k (0, []) := ⟨_, rfl⟩
      rw [← hpn] at hx ha hat hal hby hlen hbk
      obtain ⟨at_, t⟩ := pn
      dsimp only at hx ha hat hal hby hlen
      subst hat
      obtain ⟨z, hz⟩ : ∃ z, z = F.getD k 0 := ⟨_, rfl⟩
      rw [← hz] at hbk hfb hcf2 hcfw
      obtain ⟨Q, hQ⟩ : ∃ Q, Q = behindK S C F k := ⟨_, rfl⟩
      rw [← hQ] at hbk hO
      have hni : ni ≤ 100 := by rw [← hlen]; exact hal
      have hcb := (hB.cell (p := ⟨b, o + k * 2 + 1, none⟩) hlt).trans hc
      have hxb := (hB.cell (p := ⟨b, o + k * 2, none⟩) hlt).trans hx
      have hai : (a : Int) < (n : Int) := by omega
      unfold isByte at hfb
      obtain ⟨zn, rfl⟩ : ∃ zn : Nat, z = zn := ⟨z.toNat, by omega⟩
      obtain ⟨r, hr⟩ : ∃ r : Nat, r = zn % 3 := ⟨_, rfl⟩
      have hri : ((zn : Int)) % 3 = (r : Int) := by rw [hr]; simp
      have hri2 : ((zn : Int)).tmod 3 = (r : Int) := by rw [Int.tmod_eq_emod_of_nonneg (by omega)]; exact hri
      have hr3 : r < 3 := by rw [hr]; exact Nat.mod_lt _ (by omega)
      have HBY := Lib.hid hby
      have hGl : G < wr.drew.heap.size := hxg.lt
      have hszw : w.heap.size + 2 ≤ wr.drew.heap.size := by have := hxg.lt; show _ ≤ wr.heap.size; omega
      have hwle : w1.heap.size ≤ wr.drew.heap.size := by have h1 := hxg.lt; have h2 := HBG.out; obtain ⟨_, _, _, h3⟩ := hO.block (by omega); have := HSZ.out; show _ ≤ wr.heap.size; omega
      have hbG : b ≠ G := by omega
      have hgb : g ≠ b := by omega
      have hgw : g ≠ w.heap.size := by omega
      have HA := Lib.hid (show Arg wr.drew .u8 Ai ni ci t from (ha.below hB).below (below_drewN (Below.refl _ _) 1))
      have OD := Lib.hid (show OwnSecs wr.drew w1.heap.size (some ⟨g, 0, none⟩) n d Q from hO.below (below_drewN (Below.refl _ _) 1))
      have BD := Lib.hid (show Below w.heap.size w wr.drew from below_drewN hB 1)
      have X1 := Lib.hid (show Blk wr.drew w.heap.size 32 [.slice A n c, .slice (some ⟨b, o, none⟩) n' c'] from hx1)
      have X2 := Lib.hid (show Blk wr.drew (w.heap.size + 1) 32 [.slice none 0 0, .slice none 0 0] from hx2)
      have XG := Lib.hid (show Blk wr.drew G 32 [.slice (some ⟨g, 0, none⟩) n d, .slice B' n' d'] from hxg)
      have OW := Lib.hid hO
      have W1 := Lib.hid hx1
      have W2 := Lib.hid hx2
      have WG := Lib.hid hxg
      have BW := Lib.hid hB
      have p0 := hxg.cell 0
      simp only [List.getElem?_cons_zero] at p0
      have keepX : ∀ wx, Below wr.drew.heap.size wr.drew wx → wx.cell? ⟨G, 0, none⟩ = some (.slice (some ⟨g, 0, none⟩) n d) ∧ wx.cell? ⟨w.heap.size, 1, none⟩ = some (.slice (some ⟨b, o, none⟩) n' c') ∧ wx.cell? ⟨b, o + k * 2 + 1, none⟩ = some (.slice Ai ni ci) := fun wx hx' =>
        ⟨(hx'.cell (p := ⟨G, 0, none⟩) hGl).trans p0, (hx'.cell (p := ⟨w.heap.size, 1, none⟩) (by show w.heap.size < _; omega)).trans q1, (hx'.cell (p := ⟨b, o + k * 2 + 1, none⟩) (by show b < _; omega)).trans hcb⟩
      have HBK := Lib.hid hbk
      have HMK := Lib.hid (make_bytes 32 (by omega) wr.drew)
      have HR := Lib.hid hr
      clear hpn hz hQ hby hlen hbk ha hO hx1 hx2 hxg hB hc hx hal hr
      by_cases hr1 : r = 1
      · subst hr1
        have HS := Lib.hid (show byFate Q ((a : Int), t) (zn : Int) = Q.set a (false, t) by unfold byFate; rw [if_pos (by omega), Int.toNat_natCast])
        clear hr3
        go_wp2_with fail
        have hkX := keepX _ (Below.refl _ _)
        go_region_held3 (fun w' => w'.cell? ⟨G, 0, none⟩ = some (.slice (some ⟨g, 0, none⟩) n d) ∧ w'.cell? ⟨w.heap.size, 1, none⟩ = some (.slice (some ⟨b, o, none⟩) n' c') ∧ w'.cell? ⟨b, o + k * 2 + 1, none⟩ = some (.slice Ai ni ci))
          (first | exact hkX | go_keep)
          ((refine step_dup_g wr.drew (by rfl) (.tmp 38) (.tmp 44) _ (by rfl) 5 i0 _ 1 Try.underlying22 hi0 hz0 hz1 hz2 rfl (by rfl) Ai ni ci (ints .u8 t) (by rfl) (by rw [ints_length, HA.out.len]) HA.out.seq (ints_one _ _) (by omega) (by omega) ?_; intro A6 c6 w6 hown6 hcur; have hkX := keepX w6 hcur; obtain ⟨g', u', v', hg', _, hu, hv, hfu, hfv, hO7⟩ := (OD.out.below hcur).set (x := false) han HBY.out (owns_base hown6 hwle); cases hg'))
        have HX1 := Lib.hid ((X1.out.below hcur (by omega)).away (g' := g) (by omega) (a * 2) (.slice A6 ni c6) |>.away (g' := g) (by omega) (a * 2 + 1) (.bool false))
        have HX2 := Lib.hid ((X2.out.below hcur (by omega)).away (g' := g) (by omega) (a * 2) (.slice A6 ni c6) |>.away (g' := g) (by omega) (a * 2 + 1) (.bool false))
        have HXG := Lib.hid ((XG.out.below hcur hGl).away (g' := g) (Ne.symm hgG) (a * 2) (.slice A6 ni c6) |>.away (g' := g) (Ne.symm hgG) (a * 2 + 1) (.bool false))
        have HB7 := Lib.hid (((BD.out.trans (hcur.mono BD.out.size)).setCell (p := ⟨g, a * 2, none⟩) (show w.heap.size ≤ g by omega) (.slice A6 ni c6)).setCell (p := ⟨g, a * 2 + 1, none⟩) (show w.heap.size ≤ g by omega) (.bool false))
        have HO7 := Lib.hid hO7
        have hz7 : wr.drew.heap.size ≤ w6.heap.size := hcur.size
        obtain ⟨w7, hw7⟩ : ∃ w7, w7 = (w6.setCell ⟨g, a * 2, none⟩ (.slice A6 ni c6)).setCell ⟨g, a * 2 + 1, none⟩ (.bool false) := ⟨_, rfl⟩
        rw [← hw7] at HX1 HX2 HXG HB7 HO7 ⊢
        clear hw7 hO7 hu hv hfu hfv hcur keepX hown6 hkX p0 q1 hcb hxb hcf2
        have hcf7 := (HB7.out.cell (p := ⟨bf, of_ + k, none⟩) hfl).trans hcfw
        go_wp2
        go_roundw
        case rel => exact ⟨k + 1, by omega, by omega, by go_num, by rw [HBK.out, HS.out]; exact HO7.out, HX1.out, HX2.out, HXG.out, HB7.out⟩
        case measure => simp [intOf]; omega

      · by_cases hr2 : r = 2
        · subst hr2
          have HS := Lib.hid (show byFate Q ((a : Int), t) (zn : Int) = Q.set a (true, noughts) by unfold byFate; rw [if_neg (by omega), if_pos (by omega), Int.toNat_natCast])
          have hcur : Below wr.drew.heap.size wr.drew (wr.drew.alloc (.cells (List.replicate 32 (.int .u8 0)).toArray 5)) := (Below.refl _ _).alloc (Nat.le_refl _) _
          obtain ⟨w6, hw6⟩ : ∃ w6, w6 = wr.drew.alloc (.cells (List.replicate 32 (.int .u8 0)).toArray 5) := ⟨_, rfl⟩
          have hmk := HMK.out
          rw [← hw6] at hmk hcur
          have hkX := keepX w6 hcur
          obtain ⟨g', u', v', hg', _, hu, hv, hfu, hfv, hO7⟩ := (OD.out.below hcur).set (x := true) han noughts_byte (owns_base (by rw [hw6]; exact noughts_own wr.drew) hwle)
          cases hg'
          clear hr3 hr1 hw6
          have hmk' : (Instr.makeSlice 22 (.int .i64 32) (.int .i64 32)).run Try.prog wr.drew = .ok (.slice (some ⟨wr.drew.heap.size, 0, none⟩) 32 32) w6 := hmk
          clear hmk
          go_wp2_with fail
          have hkY := keepX wr.drew (Below.refl _ _)
          go_region_held3 (fun w' => w'.cell? ⟨G, 0, none⟩ = some (.slice (some ⟨g, 0, none⟩) n d))
            (first | exact hkX.1 | exact hkY.1 | go_keep)
            (fail)
          have hO7 : OwnSecs ((w6.setCell ⟨g, a * 2, none⟩ (.slice (some ⟨wr.heap.size, 0, none⟩) 32 32)).setCell ⟨g, a * 2 + 1, none⟩ (.bool true)) w1.heap.size (some ⟨g, 0, none⟩) n d (Q.set a (true, noughts)) := hO7
          have HX1 := Lib.hid ((X1.out.below hcur (by omega)).away (g' := g) (by omega) (a * 2) (.slice (some ⟨wr.heap.size, 0, none⟩) 32 32) |>.away (g' := g) (by omega) (a * 2 + 1) (.bool true))
          have HX2 := Lib.hid ((X2.out.below hcur (by omega)).away (g' := g) (by omega) (a * 2) (.slice (some ⟨wr.heap.size, 0, none⟩) 32 32) |>.away (g' := g) (by omega) (a * 2 + 1) (.bool true))
          have HXG := Lib.hid ((XG.out.below hcur hGl).away (g' := g) (Ne.symm hgG) (a * 2) (.slice (some ⟨wr.heap.size, 0, none⟩) 32 32) |>.away (g' := g) (Ne.symm hgG) (a * 2 + 1) (.bool true))
          have HB7 := Lib.hid (((BD.out.trans (hcur.mono BD.out.size)).setCell (p := ⟨g, a * 2, none⟩) (show w.heap.size ≤ g by omega) (.slice (some ⟨wr.heap.size, 0, none⟩) 32 32)).setCell (p := ⟨g, a * 2 + 1, none⟩) (show w.heap.size ≤ g by omega) (.bool true))
          have HO7 := Lib.hid hO7
          have hz7 : wr.drew.heap.size ≤ w6.heap.size := hcur.size
          obtain ⟨w7, hw7⟩ : ∃ w7, w7 = (w6.setCell ⟨g, a * 2, none⟩ (.slice (some ⟨wr.heap.size, 0, none⟩) 32 32)).setCell ⟨g, a * 2 + 1, none⟩ (.bool true) := ⟨_, rfl⟩
          rw [← hw7] at HX1 HX2 HXG HB7 HO7 ⊢
          clear hw7 hO7 hu hv hfu hfv hcur keepX hkX hkY hmk' p0 q1 hcb hxb hcf2
          go_wp2
          go_roundw
          case rel => exact ⟨k + 1, by omega, by omega, by go_num, by rw [HBK.out, HS.out]; exact HO7.out, HX1.out, HX2.out, HXG.out, HB7.out⟩
          case measure => simp [intOf]; omega

        · have HS := Lib.hid (show byFate Q ((a : Int), t) (zn : Int) = Q by unfold byFate; rw [if_neg (by omega), if_neg (by omega)])
          have hr0 : r = 0 := by omega
          subst hr0
          clear hr3 hr1 hr2 keepX
          go_wp2
          go_roundw
          case rel => exact ⟨k + 1, by omega, by omega, by go_num, by rw [HBK.out, HS.out]; exact OW.out, W1.out, W2.out, WG.out, BW.out⟩
          case measure => simp [intOf]; omega
    · have hend : behindK S C F k = behindS S C F := END.out k hk hk2 (by omega)
      rw [hend] at hO
      have hg0 := hxg.cell 0
      have hg1 := hxg.cell 1
      have hgf := hxg.free 1
      have e0 := hx2.cell 0
      have e1 := hx2.cell 1
      have g0 := hx2.free 0
      have g1 := hx2.free 1
      simp only [List.getElem?_cons_zero, List.getElem?_cons_succ] at hg0 hg1 e0 e1
      have OD := Lib.hid hO
      have OX := Lib.hid hxg
      have R2 := Lib.hid hx2
      have BB := Lib.hid hB
      have hnn : ¬ (k < n' ∧ k < nf) := hkn
      have HNN := Lib.hid hnn
      clear hend hO hx1 hx2 hxg hB hkn hnn
      have fin : ∀ (a : Act), True := fun _ => trivial
      by_cases hkn : k < n'
      · have hki : (k : Int) < (n' : Int) := by omega
        have hkfi : ¬ (k : Int) < (nf : Int) := by have := HNN.out; omega
        clear fin
        go_wp2
        have zg := OX.out.set 1 (.slice none 0 0)
        simp only [List.set_cons_zero, List.set_cons_succ] at zg
        have z := (R2.out.away (g' := G) (by omega) 1 (.slice none 0 0)).two (.slice (some ⟨g, 0, none⟩) n d) (.slice none 0 0)
        have z0 := z.cell 0
        have z1 := z.cell 1
        simp only [List.getElem?_cons_zero, List.getElem?_cons_succ] at z0 z1
        have O8 := (OwnDsk.mk OD.out (OwnPnds.nil _ _)).box OX.out 1 (.slice none 0 0)
        have O9 := O8.two (R2.out.away (g' := G) (by omega) 1 (.slice none 0 0)) (.slice (some ⟨g, 0, none⟩) n d) (.slice none 0 0)
        have B9 := below_two (BB.out.setCell (p := ⟨G, 1, none⟩) (show w.heap.size ≤ G by omega) (.slice none 0 0)) (show w.heap.size ≤ w.heap.size + 1 by omega) (.slice (some ⟨g, 0, none⟩) n d) (.slice none 0 0)
        have hz1' := HSZ.out
        refine bodyPost_ret (v := diskV (some ⟨g, 0, none⟩) n d none 0 0) ?_ rfl ⟨_, d, rfl, O9.lower (by omega), B9⟩
        clear hg0 hg1 hgf e0 e1 g0 g1
        simp [results, Try.f90, go_sem, z0, z1]

      · have hki : ¬ (k : Int) < (n' : Int) := by omega
        clear fin
        go_wp2
        have zg := OX.out.set 1 (.slice none 0 0)
        simp only [List.set_cons_zero, List.set_cons_succ] at zg
        have z := (R2.out.away (g' := G) (by omega) 1 (.slice none 0 0)).two (.slice (some ⟨g, 0, none⟩) n d) (.slice none 0 0)
        have z0 := z.cell 0
        have z1 := z.cell 1
        simp only [List.getElem?_cons_zero, List.getElem?_cons_succ] at z0 z1
        have O8 := (OwnDsk.mk OD.out (OwnPnds.nil _ _)).box OX.out 1 (.slice none 0 0)
        have O9 := O8.two (R2.out.away (g' := G) (by omega) 1 (.slice none 0 0)) (.slice (some ⟨g, 0, none⟩) n d) (.slice none 0 0)
        have B9 := below_two (BB.out.setCell (p := ⟨G, 1, none⟩) (show w.heap.size ≤ G by omega) (.slice none 0 0)) (show w.heap.size ≤ w.heap.size + 1 by omega) (.slice (some ⟨g, 0, none⟩) n d) (.slice none 0 0)
        have hz1' := HSZ.out
        refine bodyPost_ret (v := diskV (some ⟨g, 0, none⟩) n d none 0 0) ?_ rfl ⟨_, d, rfl, O9.lower (by omega), B9⟩
        clear hg0 hg1 hgf e0 e1 g0 g1
        simp [results, Try.f90, go_sem, z0, z1]

end Go.Proofs.Ytnmlplfcdnakhaa

namespace Go.Proofs.Ytnmlplfcdnakhaa
open Go.RowKit
set_option linter.unusedVariables false

set_option maxRecDepth 100000 in
set_option maxHeartbeats 3200000 in
theorem flushed_any (A : Option Addr) (n c : Nat) (A' : Option Addr) (n' c' : Nat) (S : List Sec) (C : List Pnd) (w : World) (hq : Dsk w A n c A' n' c' S C) (hs : SmallD S C) (hmay : mayD S C = true) :
    Calls Try.prog 89 #[diskV A n c A' n' c'] w fun e w' => ∃ B d, e = .returned (diskV B n d none 0 0) ∧ OwnDsk w' w.heap.size B n d none 0 0 (behindS S C (List.replicate n' 1)) [] ∧ Below w.heap.size w w' := by
  obtain ⟨i0, hi0, hz0, hz1, hz2⟩ := info_parts byte_info
  have hml : (1000 : Nat) ≤ maxLen := by decide
  obtain ⟨x1, x2, hbel⟩ := boxes2 w A n c A' n' c' none 0 0 none 0 0
  have hsz : ((w.alloc (.cells #[.slice A n c, .slice A' n' c'] 32)).alloc (.cells #[.slice none 0 0, .slice none 0 0] 32)).heap.size = w.heap.size + 2 := by simp
  have hn' := hs.pnds
  rw [hq.pnds.len] at hn'
  have BH := Lib.hid fun Af cf w3 hx (hy : Arg w3 .u8 Af n' cf (List.replicate n' 1)) => behind_any A n c A' n' c' S C Af n' cf (List.replicate n' 1) w3 hx hs hy (fun z hz => by rw [List.eq_of_mem_replicate hz]; unfold isByte; omega) hmay
  have HQ := Lib.hid (hq.below hbel)
  have RS := Lib.hid fun k => (show ints .u8 (List.replicate (k + 1) 1) = ints .u8 (List.replicate k 1) ++ [.int .u8 1] from by rw [List.replicate_succ', ints_app]; rfl)
  obtain ⟨w1, hw1⟩ : ∃ w1, w1 = (w.alloc (.cells #[.slice A n c, .slice A' n' c'] 32)).alloc (.cells #[.slice none 0 0, .slice none 0 0] 32) := ⟨_, rfl⟩
  rw [← hw1] at x1 x2 hbel HQ hsz
  have X1 := Lib.hid x1
  have X2 := Lib.hid x2
  have BEL := Lib.hid hbel
  have HSZ := Lib.hid hsz
  clear x1 x2 hbel hsz hq hs hmay
  go_enter Try.func89, Try.ntmps89
  go_wp2
  rw [← hw1]
  clear hw1
  go_loopw [3, 4] (fun v i wr => ∃ k : Nat, k ≤ n' ∧ i = .int .i64 k ∧ (∃ A1 c1, v = .slice A1 k c1 ∧ wr.ownsRow w1.heap.size 5 1 (.slice A1 k c1) k (ints .u8 (List.replicate k 1))) ∧ Below w1.heap.size w1 wr) (fun _ i _ => n' - (intOf i).toNat)
  case atStart => exact ⟨0, Nat.zero_le _, rfl, ⟨none, 0, rfl, World.ownsRow_nil _ _ _ _⟩, Below.refl _ _⟩
  case round =>
    obtain ⟨k, hk, rfl, ⟨A1, c1, rfl, hO⟩, hB⟩ := hrel
    have x1 := X1.out.below hB (by have := HSZ.out; omega)
    have q0 := x1.cell 0
    have q1 := x1.cell 1
    simp only [List.getElem?_cons_zero, List.getElem?_cons_succ] at q0 q1
    by_cases hkn : k < n'
    · have hki : (k : Int) < (n' : Int) := by omega
      have O := Lib.hid hO
      have BB := Lib.hid hB
      clear hO hB x1
      go_wp2_with (at_builtin; go_must (refine wpList_behind_g w1 _ rfl (.tmp 12) (.tmp 13) _ rfl w1.heap.size 5 i0 _ 1 Try.underlying22 hi0 hz0 hz1 hz2 rfl A1 k c1 (ints .u8 (List.replicate k 1)) rfl (O.out.allocated _) (wr.heap.size + 1) (some ⟨wr.heap.size, 0, none⟩) 1 1 (ints .u8 [1]) rfl rfl (lit_row _ _ .u8 [1] _ _ _ rfl rfl (Nat.lt_succ_self _)) (ints_one _ _) (by omega) (by omega) (BB.out.alloc BB.out.size _) (Nat.le_refl _) ?_); intro A2 c2 w2 hown2 hbel2; have O2 := Lib.hid hown2; have B2 := Lib.hid hbel2; clear hown2 hbel2)
      go_roundw
      case rel => exact ⟨k + 1, by omega, by go_num, ⟨A2, c2, rfl, by rw [RS.out]; exact O2.out⟩, B2.out⟩
      case measure => simp [intOf]; omega
    · obtain rfl : k = n' := by omega
      have x2 := X2.out.below hB (by have := HSZ.out; omega)
      have BH := Lib.hid (BH.out A1 c1 wr (HQ.out.below hB) (Arg.own hO))
      have R2 := Lib.hid x2
      have BB := Lib.hid (BEL.out.trans (hB.mono BEL.out.size))
      have hz3 : w.heap.size + 2 ≤ wr.heap.size := by have h1 := x2.lt; omega
      clear hO hB x1 x2
      go_wp2_with fail
      refine BH.out.mono ?_
      rintro e w4 ⟨B, d, rfl, hown, hb4⟩
      have x2 := R2.out.below hb4 (by omega)
      have e0 := x2.cell 0
      have e1 := x2.cell 1
      have g0 := x2.free 0
      have g1 := x2.free 1
      simp only [List.getElem?_cons_zero, List.getElem?_cons_succ] at e0 e1
      have Q2 := Lib.hid x2
      have O4 := Lib.hid hown
      have B4 := Lib.hid (BB.out.trans (hb4.mono BB.out.size))
      clear x2 hown hb4 q0 q1
      go_wp2
      have z := Q2.out.two (.slice B n d) (.slice none 0 0)
      have z0 := z.cell 0
      have z1 := z.cell 1
      simp only [List.getElem?_cons_zero, List.getElem?_cons_succ] at z0 z1
      have O9 := O4.out.two Q2.out (.slice B n d) (.slice none 0 0)
      refine bodyPost_ret (v := diskV B n d none 0 0) ?_ rfl ⟨B, d, rfl, O9.lower (by omega), below_two B4.out (by omega) _ _⟩
      clear e0 e1 g0 g1
      simp [results, Try.f89, go_sem, z0, z1]

set_option maxRecDepth 100000 in
set_option maxHeartbeats 1600000 in
theorem flush_any (A : Option Addr) (n c : Nat) (A' : Option Addr) (n' c' : Nat) (S : List Sec) (C : List Pnd) (w : World) (hq : Dsk w A n c A' n' c' S C) (hs : SmallD S C) :
    Calls Try.prog 31 #[diskV A n c A' n' c'] w (DiskOut w (flS S C) [] (chkD S C)) := by
  obtain ⟨x1, x2, hbel⟩ := boxes2 w A n c A' n' c' none 0 0 none 0 0
  have hsz : ((w.alloc (.cells #[.slice A n c, .slice A' n' c'] 32)).alloc (.cells #[.slice none 0 0, .slice none 0 0] 32)).heap.size = w.heap.size + 2 := by simp
  have M := may_any A n c A' n' c' S C _ (hq.below hbel)
  have X1 := Lib.hid x1
  have X2 := Lib.hid x2
  have BEL := Lib.hid hbel
  have HSZ := Lib.hid hsz
  have c0 := x1.cell 0
  have c1 := x1.cell 1
  simp only [List.getElem?_cons_zero, List.getElem?_cons_succ] at c0 c1
  cases hR : mayD S C with
  | true =>
    rw [hR] at M
    have M := Lib.hid M
    have BH := Lib.hid fun w3 hx => flushed_any A n c A' n' c' S C w3 hx hs hR
    have hE : chkD S C = 0 := by unfold chkD; rw [hR]; rfl
    have hres : flS S C = behindS S C (List.replicate n' 1) := by unfold flS crS; rw [if_pos hR, hq.pnds.len]
    have hlen : (behindS S C (List.replicate n' 1)).length = n := by unfold behindS; rw [behindK_len, hq.secs.len]
    rw [hE, hres]
    have HQ := Lib.hid hq
    skip
    have HL := Lib.hid hlen
    obtain ⟨RS, hRS⟩ : ∃ RS, RS = behindS S C (List.replicate n' 1) := ⟨_, rfl⟩
    rw [← hRS] at BH HL ⊢
    clear x1 x2 hbel hsz hq hs hR hE hres hlen hRS
    go_enter Try.func31, Try.ntmps31
    go_wp2_with fail
    refine M.out.mono ?_
    rintro e w3 ⟨rfl, hb3⟩
    have x1 := X1.out.below hb3 (by have := HSZ.out; omega)
    have x2 := X2.out.below hb3 (by have := HSZ.out; omega)
    have d0 := x1.cell 0
    have d1 := x1.cell 1
    simp only [List.getElem?_cons_zero, List.getElem?_cons_succ] at d0 d1
    have R2 := Lib.hid x2
    have B3 := Lib.hid (BEL.out.trans (hb3.mono (by have := HSZ.out; omega)))
    have BH := Lib.hid (BH.out w3 (HQ.out.below B3.out))
    have hz3 : w.heap.size + 2 ≤ w3.heap.size := by have h1 := x2.lt; omega
    clear hb3 x1 x2 c0 c1 M
    go_wp2_with fail
    refine BH.out.mono ?_
    rintro e w4 ⟨B, d, rfl, hown, hb4⟩
    have x2 := R2.out.below hb4 (by omega)
    have e0 := x2.cell 0
    have e1 := x2.cell 1
    have g0 := x2.free 0
    have g1 := x2.free 1
    simp only [List.getElem?_cons_zero, List.getElem?_cons_succ] at e0 e1
    have Q2 := Lib.hid x2
    have O4 := Lib.hid hown
    have B4 := Lib.hid (B3.out.trans (hb4.mono B3.out.size))
    clear x2 hown hb4 d0 d1
    go_wp2
    have z := Q2.out.two (.slice B n d) (.slice none 0 0)
    have z0 := z.cell 0
    have z1 := z.cell 1
    simp only [List.getElem?_cons_zero, List.getElem?_cons_succ] at z0 z1
    have O9 := O4.out.two Q2.out (.slice B n d) (.slice none 0 0)
    have hl := HL.out
    refine bodyPost_ret (v := .tuple #[diskV B n d none 0 0, .int .i64 0]) ?_ rfl ⟨B, d, none, 0, by rw [hl]; rfl, by rw [hl]; exact O9.lower (by omega), below_two B4.out (by omega) _ _⟩
    clear e0 e1 g0 g1
    simp [results, Try.f31, go_sem, z0, z1]
  | false =>
    rw [hR] at M
    have M := Lib.hid M
    have hE : chkD S C = 8 := by unfold chkD; rw [hR]; rfl
    have hres : flS S C = [] := by unfold flS crS; rw [hR]; rfl
    rw [hE, hres]
    clear x1 x2 hbel hsz hq hs hR hE hres
    go_enter Try.func31, Try.ntmps31
    go_wp2_with fail
    refine M.out.mono ?_
    rintro e w3 ⟨rfl, hb3⟩
    have x2 := X2.out.below hb3 (by have := HSZ.out; omega)
    have e0 := x2.cell 0
    have e1 := x2.cell 1
    have g0 := x2.free 0
    have g1 := x2.free 1
    simp only [List.getElem?_cons_zero, List.getElem?_cons_succ] at e0 e1
    have R2 := Lib.hid x2
    have B3 := Lib.hid (BEL.out.trans (hb3.mono (by have := HSZ.out; omega)))
    clear hb3 x2 c0 c1
    go_wp2
    have z := R2.out.two (.slice none 0 0) (.slice none 0 0)
    have z0 := z.cell 0
    have z1 := z.cell 1
    simp only [List.getElem?_cons_zero, List.getElem?_cons_succ] at z0 z1
    refine bodyPost_ret (v := .tuple #[diskV none 0 0 none 0 0, .int .i64 8]) ?_ rfl ⟨none, 0, none, 0, rfl, OwnDsk.nil _ _, below_two B3.out (by omega) _ _⟩
    clear e0 e1 g0 g1
    simp [results, Try.f31, go_sem, z0, z1]

set_option maxRecDepth 100000 in
set_option maxHeartbeats 1600000 in
theorem crash_any (A : Option Addr) (n c : Nat) (A' : Option Addr) (n' c' : Nat) (S : List Sec) (C : List Pnd) (Af : Option Addr) (nf cf : Nat) (F : List Int) (w : World) (hq : Dsk w A n c A' n' c' S C) (hs : SmallD S C) (hf : Arg w .u8 Af nf cf F) (hfb : ∀ z ∈ F, isByte z) :
    Calls Try.prog 33 #[diskV A n c A' n' c', .slice Af nf cf] w (DiskOut w (crS S C F) [] (chkD S C)) := by
  obtain ⟨x1, x2, hbel⟩ := boxes2 w A n c A' n' c' none 0 0 none 0 0
  have hsz : ((w.alloc (.cells #[.slice A n c, .slice A' n' c'] 32)).alloc (.cells #[.slice none 0 0, .slice none 0 0] 32)).heap.size = w.heap.size + 2 := by simp
  have M := may_any A n c A' n' c' S C _ (hq.below hbel)
  have X1 := Lib.hid x1
  have X2 := Lib.hid x2
  have BEL := Lib.hid hbel
  have HSZ := Lib.hid hsz
  have c0 := x1.cell 0
  have c1 := x1.cell 1
  simp only [List.getElem?_cons_zero, List.getElem?_cons_succ] at c0 c1
  cases hR : mayD S C with
  | true =>
    rw [hR] at M
    have M := Lib.hid M
    have BH := Lib.hid fun w3 hx hy => behind_any A n c A' n' c' S C Af nf cf F w3 hx hs hy hfb hR
    have hE : chkD S C = 0 := by unfold chkD; rw [hR]; rfl
    have hres : crS S C F = behindS S C F := by unfold crS; rw [if_pos hR]
    have hlen : (behindS S C F).length = n := by unfold behindS; rw [behindK_len, hq.secs.len]
    rw [hE, hres]
    have HQ := Lib.hid hq
    have HF := Lib.hid hf
    have HL := Lib.hid hlen
    obtain ⟨RS, hRS⟩ : ∃ RS, RS = behindS S C F := ⟨_, rfl⟩
    rw [← hRS] at BH HL ⊢
    clear x1 x2 hbel hsz hq hs hR hE hres hlen hRS hf hfb
    go_enter Try.func33, Try.ntmps33
    go_wp2_with fail
    refine M.out.mono ?_
    rintro e w3 ⟨rfl, hb3⟩
    have x1 := X1.out.below hb3 (by have := HSZ.out; omega)
    have x2 := X2.out.below hb3 (by have := HSZ.out; omega)
    have d0 := x1.cell 0
    have d1 := x1.cell 1
    simp only [List.getElem?_cons_zero, List.getElem?_cons_succ] at d0 d1
    have R2 := Lib.hid x2
    have B3 := Lib.hid (BEL.out.trans (hb3.mono (by have := HSZ.out; omega)))
    have BH := Lib.hid (BH.out w3 (HQ.out.below B3.out) (HF.out.below B3.out))
    have hz3 : w.heap.size + 2 ≤ w3.heap.size := by have h1 := x2.lt; omega
    clear hb3 x1 x2 c0 c1 M
    go_wp2_with fail
    refine BH.out.mono ?_
    rintro e w4 ⟨B, d, rfl, hown, hb4⟩
    have x2 := R2.out.below hb4 (by omega)
    have e0 := x2.cell 0
    have e1 := x2.cell 1
    have g0 := x2.free 0
    have g1 := x2.free 1
    simp only [List.getElem?_cons_zero, List.getElem?_cons_succ] at e0 e1
    have Q2 := Lib.hid x2
    have O4 := Lib.hid hown
    have B4 := Lib.hid (B3.out.trans (hb4.mono B3.out.size))
    clear x2 hown hb4 d0 d1
    go_wp2
    have z := Q2.out.two (.slice B n d) (.slice none 0 0)
    have z0 := z.cell 0
    have z1 := z.cell 1
    simp only [List.getElem?_cons_zero, List.getElem?_cons_succ] at z0 z1
    have O9 := O4.out.two Q2.out (.slice B n d) (.slice none 0 0)
    have hl := HL.out
    refine bodyPost_ret (v := .tuple #[diskV B n d none 0 0, .int .i64 0]) ?_ rfl ⟨B, d, none, 0, by rw [hl]; rfl, by rw [hl]; exact O9.lower (by omega), below_two B4.out (by omega) _ _⟩
    clear e0 e1 g0 g1
    simp [results, Try.f33, go_sem, z0, z1]
  | false =>
    rw [hR] at M
    have M := Lib.hid M
    have hE : chkD S C = 8 := by unfold chkD; rw [hR]; rfl
    have hres : crS S C F = [] := by unfold crS; rw [hR]; rfl
    rw [hE, hres]
    clear x1 x2 hbel hsz hq hs hR hE hres hf hfb
    go_enter Try.func33, Try.ntmps33
    go_wp2_with fail
    refine M.out.mono ?_
    rintro e w3 ⟨rfl, hb3⟩
    have x2 := X2.out.below hb3 (by have := HSZ.out; omega)
    have e0 := x2.cell 0
    have e1 := x2.cell 1
    have g0 := x2.free 0
    have g1 := x2.free 1
    simp only [List.getElem?_cons_zero, List.getElem?_cons_succ] at e0 e1
    have R2 := Lib.hid x2
    have B3 := Lib.hid (BEL.out.trans (hb3.mono (by have := HSZ.out; omega)))
    clear hb3 x2 c0 c1
    go_wp2
    have z := R2.out.two (.slice none 0 0) (.slice none 0 0)
    have z0 := z.cell 0
    have z1 := z.cell 1
    simp only [List.getElem?_cons_zero, List.getElem?_cons_succ] at z0 z1
    refine bodyPost_ret (v := .tuple #[diskV none 0 0 none 0 0, .int .i64 8]) ?_ rfl ⟨none, 0, none, 0, rfl, OwnDsk.nil _ _, below_two B3.out (by omega) _ _⟩
    clear e0 e1 g0 g1
    simp [results, Try.f33, go_sem, z0, z1]

set_option maxRecDepth 100000 in
set_option maxHeartbeats 3200000 in
theorem blank_disk (m : Nat) (hm : m ≤ 100) (w : World) :
    Calls Try.prog 92 #[.int .i64 (m : Int)] w fun e w' => ∃ B d, e = .returned (diskV B m d none 0 0) ∧ OwnDsk w' w.heap.size B m d none 0 0 (List.replicate m (false, noughts)) [] ∧ Below w.heap.size w w' := by
  obtain ⟨x1, x2, hbel⟩ := boxes2 w none 0 0 none 0 0 none 0 0 none 0 0
  have hsz : ((w.alloc (.cells #[.slice none 0 0, .slice none 0 0] 32)).alloc (.cells #[.slice none 0 0, .slice none 0 0] 32)).heap.size = w.heap.size + 2 := by simp
  have RS := Lib.hid fun k => (show List.replicate (k + 1) ((false, noughts) : Sec) = List.replicate k (false, noughts) ++ [(false, noughts)] from List.replicate_succ' )
  obtain ⟨w1, hw1⟩ : ∃ w1, w1 = (w.alloc (.cells #[.slice none 0 0, .slice none 0 0] 32)).alloc (.cells #[.slice none 0 0, .slice none 0 0] 32) := ⟨_, rfl⟩
  rw [← hw1] at x1 x2 hbel hsz
  have Y1 := Lib.hid x1
  have Y2 := Lib.hid x2
  have BEL := Lib.hid hbel
  clear x1 x2 hbel hsz
  go_enter Try.func92, Try.ntmps92
  go_wp2
  rw [← hw1]
  clear hw1
  go_loopw [4] (fun i wr => ∃ k : Nat, k ≤ m ∧ i = .int .i64 k ∧ ∃ A1 c1, OwnSecs wr (w.heap.size + 2) A1 k c1 (List.replicate k (false, noughts)) ∧ Blk wr w.heap.size 32 [.slice none 0 0, .slice none 0 0] ∧ Blk wr (w.heap.size + 1) 32 [.slice A1 k c1, .slice none 0 0] ∧ Below w.heap.size w wr) (fun i _ => m - (intOf i).toNat)
  case atStart => exact ⟨0, Nat.zero_le _, rfl, none, 0, OwnSecs.nil _ _, Y1.out, Y2.out, BEL.out⟩
  case round =>
    obtain ⟨k, hk, rfl, A1, c1, hO, hx1, hx2, hB⟩ := hrel
    by_cases hkn : k < m
    · have hki : (k : Int) < (m : Int) := by omega
      have l0 := hx2.cell 0
      simp only [List.getElem?_cons_zero] at l0
      have hszd : w.heap.size + 2 ≤ wr.drew.heap.size := by have := hx2.lt; show _ ≤ wr.heap.size; omega
      obtain ⟨Q, hQ⟩ : ∃ Q, Q = List.replicate k ((false, noughts) : Sec) := ⟨_, rfl⟩
      have RSK := Lib.hid (RS.out k)
      rw [← hQ] at hO RSK
      have OD := Lib.hid (show OwnSecs wr.drew (w.heap.size + 2) A1 k c1 Q from hO.below (below_drewN (Below.refl _ _) 1))
      have BD := Lib.hid (show Below w.heap.size w wr.drew from below_drewN hB 1)
      have X1 := Lib.hid (show Blk wr.drew w.heap.size 32 [.slice none 0 0, .slice none 0 0] from hx1)
      have X3 := Lib.hid (show Blk wr.drew (w.heap.size + 1) 32 [.slice A1 k c1, .slice none 0 0] from hx2)
      have hmk := make_bytes 32 (by omega) wr.drew
      have hcur : Below wr.drew.heap.size wr.drew (wr.drew.alloc (.cells (List.replicate 32 (.int .u8 0)).toArray 5)) := (Below.refl _ _).alloc (Nat.le_refl _) _
      have hn6 := noughts_own wr.drew
      obtain ⟨w6, hw6⟩ : ∃ w6, w6 = wr.drew.alloc (.cells (List.replicate 32 (.int .u8 0)).toArray 5) := ⟨_, rfl⟩
      rw [← hw6] at hmk hcur hn6
      have HN6 := Lib.hid (show w6.ownsRow wr.drew.heap.size 5 1 (.slice (some ⟨wr.heap.size, 0, none⟩) 32 32) 32 (ints .u8 noughts) from hn6)
      have hmk' : (Instr.makeSlice 22 (.int .i64 32) (.int .i64 32)).run Try.prog wr.drew = .ok (.slice (some ⟨wr.heap.size, 0, none⟩) 32 32) w6 := hmk
      have keepS : ∀ wx, Below wr.drew.heap.size wr.drew wx → wx.cell? ⟨w.heap.size + 1, 0, none⟩ = some (.slice A1 k c1) := fun wx hx => (hx.cell (p := ⟨w.heap.size + 1, 0, none⟩) (by show w.heap.size + 1 < _; omega)).trans l0
      have hHeld := keepS wr.drew (Below.refl _ _)
      clear hQ hO hx1 hx2 hB hw6 hmk hn6
      go_wp2_with fail
      refine wp_region_to 7 (fun w' => w'.cell? ⟨w.heap.size + 1, 0, none⟩ = some (.slice A1 k c1)) (by kernel_rfl) ?_
      refine wpAnyG_take (i := 0) (v := ?_) rfl (by kernel_rfl) (by kernel_rfl) (by kernel_rfl) (by kernel_rfl) (by kernel_rfl) rfl (fun _ _ _ h => h) (Or.inl ⟨by rfl, ?_⟩) hHeld ?_
      rotate_left
      · (intro w' hSw; (try dsimp only at hSw); go_simp; (try with_reducible rfl))
      simp only [Act.put, List.setIfInBounds_toArray]
      refine wpAnyG_take (i := 1) (v := ?_) rfl (by kernel_rfl) (by kernel_rfl) (by kernel_rfl) (by kernel_rfl) (by kernel_rfl) rfl (fun _ _ _ h => h) (Or.inl ⟨by rfl, ?_⟩) hHeld ?_
      rotate_left
      · (intro w' hSw; (try dsimp only at hSw); go_simp; (try with_reducible rfl))
      simp only [Act.put]
      refine wpAnyG_one (i := 2) (by kernel_rfl) rfl (fun K hK => ?_)
      go_simp
      refine hK.out _ _ (fun _ => keepS _ hcur) (fun hHeld => ?_)
      have hHeld := hHeld (by decide)
      clear hK K
      try simp only [Act.put, List.setIfInBounds_toArray, List.set_cons_zero, List.set_cons_succ]
      refine wpAnyG_take (i := 3) (v := ?_) rfl (by kernel_rfl) (by kernel_rfl) (by kernel_rfl) (by kernel_rfl) (by kernel_rfl) rfl (fun _ _ _ h => h) (Or.inl ⟨by rfl, ?_⟩) hHeld ?_
      rotate_left
      · (intro w' hSw; (try dsimp only at hSw); go_simp; (try with_reducible rfl))
      simp only [Act.put, List.setIfInBounds_toArray]
      refine wpAnyG_one (i := 4) (by kernel_rfl) rfl (fun K hK => ?_)
      go_simp
      refine hK.out _ _ (fun _ => keepS _ (hcur.alloc hcur.size _)) (fun hHeld => ?_)
      have hHeld := hHeld (by decide)
      clear hK K
      try simp only [Act.put, List.setIfInBounds_toArray, List.set_cons_zero, List.set_cons_succ]
      refine wpAnyG_one (i := 5) (by kernel_rfl) rfl (fun K hK => ?_)
      refine step_sec wr.drew w6 (by rfl) (.tmp 11) (.tmp 14) (by rfl) (w.heap.size + 2) A1 k c1 Q (by rfl) (OD.out.below hcur) (some ⟨wr.heap.size, 0, none⟩) 32 32 false noughts noughts_byte (owns_base HN6.out hszd) (by rfl) (by omega) (hcur.mono hszd) hszd ?_
      intro g4 c4 w4 hO4 hb4 hg4
      have x3 := X3.out.below hb4 (by omega)
      have l4 := x3.cell 0
      have f4 := x3.free 0
      simp only [List.getElem?_cons_zero] at l4
      refine hK.out _ _ (fun _ => l4) (fun hHeld => ?_)
      have hHeld := hHeld (by decide)
      clear hK K
      try simp only [Act.put, List.setIfInBounds_toArray]
      refine wpAnyG_take (i := 6) (v := ?_) rfl (by kernel_rfl) (by kernel_rfl) (by kernel_rfl) (by kernel_rfl) (by kernel_rfl) rfl (fun _ _ _ h => h) (Or.inl ⟨by rfl, ?_⟩) hHeld ?_
      rotate_left
      · (intro w' hSw; (try dsimp only at hSw); go_simp; (try with_reducible rfl))
      simp only [Act.put]
      refine wpAnyG_one (i := 7) (by kernel_rfl) rfl (fun K hK => ?_)
      go_simp
      refine hK.out _ _ (fun h => absurd rfl h) (fun _ => ?_)
      clear hK K
      refine wpAnyG_done (by kernel_rfl) ?_ _
      have E4 := Lib.hid (hO4.box x3 (by decide) (by decide) 0 (.slice (some ⟨g4, 0, none⟩) (k + 1) c4))
      have Z1 := Lib.hid ((X1.out.below hb4 (by omega)).away (g' := w.heap.size + 1) (by omega) 0 (.slice (some ⟨g4, 0, none⟩) (k + 1) c4))
      have Z3 := Lib.hid (x3.set 0 (.slice (some ⟨g4, 0, none⟩) (k + 1) c4))
      have B4 := Lib.hid ((BD.out.trans (below_base hb4 (show w.heap.size ≤ w.heap.size + 2 by omega))).setCell (p := ⟨w.heap.size + 1, 0, none⟩) (show w.heap.size ≤ w.heap.size + 1 by omega) (.slice (some ⟨g4, 0, none⟩) (k + 1) c4))
      clear keepS hHeld hO4 hb4 hg4 x3 l4 f4 hcur hmk' l0
      go_wp2
      go_roundw
      case rel => exact ⟨k + 1, by omega, by go_num, _, _, by rw [RSK.out]; exact E4.out, Z1.out, Z3.out, B4.out⟩
      case measure => simp [intOf]; omega
    · have hkm : m = k := by omega
      subst hkm
      have e0 := hx2.cell 0
      have e1 := hx2.cell 1
      have r0 := hx1.cell 0
      have r1 := hx1.cell 1
      have g0 := hx1.free 0
      have g1 := hx1.free 1
      simp only [List.getElem?_cons_zero, List.getElem?_cons_succ] at e0 e1 r0 r1
      have OD := Lib.hid (show OwnDsk wr (w.heap.size + 2) A1 m c1 none 0 0 (List.replicate m (false, noughts)) [] from ⟨hO, OwnPnds.nil _ _⟩)
      have R2 := Lib.hid hx1
      have BB := Lib.hid hB
      clear hO hx1 hx2 hB
      go_wp2
      have z := R2.out.two (.slice A1 m c1) (.slice none 0 0)
      have z0 := z.cell 0
      have z1 := z.cell 1
      simp only [List.getElem?_cons_zero, List.getElem?_cons_succ] at z0 z1
      have O3 := OD.out.two R2.out (.slice A1 m c1) (.slice none 0 0)
      have B3 := below_two BB.out (Nat.le_refl _) (.slice A1 m c1) (.slice none 0 0)
      refine bodyPost_ret (v := diskV A1 m c1 none 0 0) ?_ rfl ⟨A1, c1, rfl, O3.lower (by omega), B3⟩
      clear e0 e1 r0 r1 g0 g1
      simp [results, Try.f92, go_sem, z0, z1]

end Go.Proofs.Ytnmlplfcdnakhaa
