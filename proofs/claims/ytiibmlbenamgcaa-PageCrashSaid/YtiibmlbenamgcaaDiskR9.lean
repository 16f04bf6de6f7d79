/- Layer 5: the document's own: how large a disk is. -/
/- Layer 5: the document's own: whether a disk may be. -/
/- Layer 5: the document's own: whether two disks are the same. -/
/- Layer 5: the document's own: a disk in new memory. -/
/- Layer 5: the document's own: what is asked of a sector: its error, whether a write waits, what is read. -/
/- Layer 5: the document's own: a disk with a write more. -/
/- Layer 5: the document's own: a write. -/
/- Layer 5: the document's own: a disk behind a crash. -/
/- Layer 5: the document's own: a disk behind a flush, and behind a crash; a new one. -/
import Derived.Test.YtiibmlbenamgcaaDiskQ
import Derived.Lib.Bytes
import Derived.WalkMore
import Derived.ScopeJumps
import Derived.StillTailTactics
import Derived.BigQuiet
import Derived.Test.YtiibmlbenamgcaaStepDup
import Derived.Test.YtiibmlbenamgcaaHeldOne
import Derived.Lib.QuoteBits
import Derived.Deep.Cut
namespace Go.Proofs.Ytiibmlbenamgcaa
open Go.RowKit
set_option linter.unusedVariables false

theorem great_hit1 {S : List Sec} {C : List Pnd} {m : Int} {k : Nat} (hk : k < S.length) (hm : (k : Int) < m) (h : 100 < (S.getD k (false, [])).2.length) : greatD S C m = true := by
  unfold greatD
  rw [Bool.or_eq_true, Bool.or_eq_true, Bool.or_eq_true, List.any_eq_true]
  refine .inl (.inl (.inl ⟨S.getD k (false, []), ?_, by simp only [decide_eq_true_iff]; exact h⟩))
  rw [List.getD_eq_getElem?_getD, List.getElem?_eq_getElem hk, Option.getD_some]
  rw [List.mem_take_iff_getElem]
  exact ⟨k, by omega, rfl⟩
theorem great_hit2 {S : List Sec} {C : List Pnd} {m : Int} {k : Nat} (hk : k < C.length) (hm : k < 100) (h : 100 < (C.getD k (0, [])).2.length) : greatD S C m = true := by
  unfold greatD
  rw [Bool.or_eq_true, Bool.or_eq_true, Bool.or_eq_true, List.any_eq_true, List.any_eq_true]
  refine .inl (.inl (.inr ⟨C.getD k (0, []), ?_, by simp only [decide_eq_true_iff]; exact h⟩))
  rw [List.getD_eq_getElem?_getD, List.getElem?_eq_getElem hk, Option.getD_some]
  rw [List.mem_take_iff_getElem]
  exact ⟨k, by omega, rfl⟩
theorem great_end {S : List Sec} {C : List Pnd} {m : Int} (h1 : ∀ y : Nat, y < S.length → (y : Int) < m → (S.getD y (false, [])).2.length ≤ 100) (h2 : ∀ y, y < C.length → y < 100 → (C.getD y (0, [])).2.length ≤ 100) :
    greatD S C m = (decide (m < (S.length : Int)) || decide (100 < C.length)) := by
  unfold greatD
  rw [show (S.take m.toNat).any (fun s => decide (100 < s.2.length)) = false from ?_, show (C.take 100).any (fun p => decide (100 < p.2.length)) = false from ?_, Bool.false_or, Bool.false_or]
  · rw [List.any_eq_false]
    intro t ht
    obtain ⟨k, hk, rfl⟩ := List.mem_take_iff_getElem.1 ht
    have := h2 k (by omega) (by omega)
    rw [List.getD_eq_getElem?_getD, List.getElem?_eq_getElem (by omega), Option.getD_some] at this
    simp only [decide_eq_true_iff]
    omega
  · rw [List.any_eq_false]
    intro t ht
    obtain ⟨k, hk, rfl⟩ := List.mem_take_iff_getElem.1 ht
    have := h1 k (by omega) (by omega)
    rw [List.getD_eq_getElem?_getD, List.getElem?_eq_getElem (by omega), Option.getD_some] at this
    simp only [decide_eq_true_iff]
    omega

set_option maxRecDepth 100000 in
set_option maxHeartbeats 1600000 in
theorem great_any (A : Option Addr) (n c : Nat) (A' : Option Addr) (n' c' : Nat) (S : List Sec) (C : List Pnd) (m : Int) (w : World) (hq : Dsk w A n c A' n' c' S C) :
    Calls Try.prog 17 #[diskV A n c A' n' c', .int .i64 m] w fun e w' => e = .returned (.bool (greatD S C m)) ∧ Below w.heap.size w w' := by
  have hbel : Below w.heap.size w (w.alloc (.cells #[.slice A n c, .slice A' n' c'] 37)) := (Below.refl _ _).alloc (Nat.le_refl _) _
  have HQ := hq.below hbel
  obtain ⟨c0, c1⟩ := box_disk w A n c A' n' c'
  have hl := hq.secs.len
  have hl' := hq.pnds.len
  have hcm := Nat.le_trans hq.secs.cap hq.secs.max
  have hcm' := Nat.le_trans hq.pnds.cap hq.pnds.max
  unfold maxLen at hcm hcm'
  have H1 := Lib.hid fun k (hk : k < n) => great_hit1 (S := S) (C := C) (m := m) (k := k) (by omega)
  have H2 := Lib.hid fun k (hk : k < n') => great_hit2 (S := S) (C := C) (m := m) (k := k) (by omega)
  have hend := great_end (S := S) (C := C) (m := m)
  rw [hl, hl'] at hend
  have END := Lib.hid hend
  obtain ⟨G, hG⟩ : ∃ G, G = greatD S C m := ⟨_, rfl⟩
  rw [← hG] at H1 H2 END ⊢
  obtain ⟨w1, hw1⟩ : ∃ w1, w1 = w.alloc (.cells #[.slice A n c, .slice A' n' c'] 37) := ⟨_, rfl⟩
  rw [← hw1] at hbel HQ c0 c1
  have HQ := Lib.hid HQ
  have BEL := Lib.hid hbel
  clear hq hbel hend hG hl hl'
  go_enter Try.func17, Try.ntmps17
  go_wp2
  rw [← hw1]
  clear hw1
  go_loop [5] (fun i => ∃ k : Nat, k ≤ n ∧ i = .int .i64 k ∧ ∀ y : Nat, y < k → (y : Int) < m → (S.getD y (false, [])).2.length ≤ 100) (fun i => n - (intOf i).toNat)
  case atStart => exact ⟨0, Nat.zero_le _, rfl, fun y hy => by omega⟩
  case round =>
    obtain ⟨k, hk, rfl, hall⟩ := hrel
    have ALL := Lib.hid hall
    clear hall
    by_cases hkn : k < n ∧ (k : Int) < m
    · obtain ⟨hkn, hkm⟩ := hkn
      obtain ⟨b, o, Ai, ni, ci, rfl, hlt, hc, hx, ha⟩ := HQ.out.secs.at_ k hkn
      have hni := ha.len
      have hLm := Nat.le_trans ha.cap ha.max
      unfold maxLen at hLm
      obtain ⟨L, hL⟩ : ∃ L, L = (S.getD k (false, [])).2.length := ⟨_, rfl⟩
      have HL := Lib.hid hL
      rw [← hL] at hni
      subst hni
      have hki : (k : Int) < (n : Int) := by omega
      clear hL ha
      by_cases h100 : 100 < L
      · have HG := Lib.hid (H1.out k hkn hkm (by rw [← HL.out]; exact h100))
        have h100i : (100 : Int) < (L : Int) := by omega
        go_wp2
        go_ret
        rw [HG.out]
        exact ⟨rfl, BEL.out⟩
      · have h100i : ¬ (100 : Int) < (L : Int) := by omega
        go_wp2
        go_round
        case rel =>
          refine ⟨k + 1, by omega, by go_num, fun y hy hym => ?_⟩
          rcases Nat.lt_or_ge y k with h | h
          · exact ALL.out y h hym
          · obtain rfl : y = k := by omega
            rw [← HL.out]; omega
        case measure => simp [intOf]; omega
    · have ALL2 := Lib.hid (show ∀ y : Nat, y < n → (y : Int) < m → (S.getD y (false, [])).2.length ≤ 100 from fun y h1 h2 => ALL.out y (by omega) h2)
      clear ALL
      have hf : (decide ((k : Int) < (n : Int)) && decide ((k : Int) < m)) = false := by
        rw [Bool.and_eq_false_iff, decide_eq_false_iff_not, decide_eq_false_iff_not]
        omega
      by_cases hkn2 : k < n
      · have hki : (k : Int) < (n : Int) := by omega
        have hkm : ¬ (k : Int) < m := fun h => hkn ⟨hkn2, h⟩
        go_wp2
        go_loop [6] (fun i => ∃ j : Nat, j ≤ n' ∧ i = .int .i64 j ∧ ∀ y : Nat, y < j → y < 100 → (C.getD y (0, [])).2.length ≤ 100) (fun i => n' - (intOf i).toNat)
        case atStart => exact ⟨0, Nat.zero_le _, rfl, fun y hy => by omega⟩
        case round =>
          obtain ⟨j, hj, rfl, hall⟩ := hrel
          have ALL := Lib.hid hall
          clear hall
          by_cases hjn : j < n'
          · have hji : (j : Int) < (n' : Int) := by omega
            by_cases hj100 : j < 100
            · have hj100i : (j : Int) < 100 := by omega
              obtain ⟨b, o, Ai, ni, ci, rfl, hlt, hc, hx, ha⟩ := HQ.out.pnds.at_ j hjn
              have hni := ha.len
              have hLm := Nat.le_trans ha.cap ha.max
              unfold maxLen at hLm
              obtain ⟨L, hL⟩ : ∃ L, L = (C.getD j (0, [])).2.length := ⟨_, rfl⟩
              have HL := Lib.hid hL
              rw [← hL] at hni
              subst hni
              clear hL ha
              by_cases h100 : 100 < L
              · have HG := Lib.hid (H2.out j hjn hj100 (by rw [← HL.out]; exact h100))
                have h100i : (100 : Int) < (L : Int) := by omega
                go_wp2
                go_ret
                rw [HG.out]
                exact ⟨rfl, BEL.out⟩
              · have h100i : ¬ (100 : Int) < (L : Int) := by omega
                go_wp2
                go_round
                case rel =>
                  refine ⟨j + 1, by omega, by go_num, fun y hy hym => ?_⟩
                  rcases Nat.lt_or_ge y j with h | h
                  · exact ALL.out y h hym
                  · obtain rfl : y = j := by omega
                    rw [← HL.out]; omega
                case measure => simp [intOf]; omega
            · have hj100i : ¬ (j : Int) < 100 := by omega
              have HE := Lib.hid (END.out ALL2.out fun y h1 h2 => ALL.out y (by omega) h2)
              have h100n : (100 : Int) < (n' : Int) := by omega
              have hmn : m < (n : Int) := by omega
              have EM := Lib.hid (decide_eq_true hmn)
              go_wp2
              go_ret
              rw [HE.out, EM.out]
              exact ⟨rfl, BEL.out⟩
          · have hji : ¬ (j : Int) < (n' : Int) := by omega
            have HE := Lib.hid (END.out ALL2.out fun y h1 h2 => ALL.out y (by omega) h2)
            have hmn : m < (n : Int) := by omega
            have EM := Lib.hid (decide_eq_true hmn)
            go_wp2
            go_ret
            rw [HE.out, EM.out]
            exact ⟨rfl, BEL.out⟩
      · have hki : ¬ (k : Int) < (n : Int) := by omega
        go_wp2
        go_loop [6] (fun i => ∃ j : Nat, j ≤ n' ∧ i = .int .i64 j ∧ ∀ y : Nat, y < j → y < 100 → (C.getD y (0, [])).2.length ≤ 100) (fun i => n' - (intOf i).toNat)
        case atStart => exact ⟨0, Nat.zero_le _, rfl, fun y hy => by omega⟩
        case round =>
          obtain ⟨j, hj, rfl, hall⟩ := hrel
          have ALL := Lib.hid hall
          clear hall
          by_cases hjn : j < n'
          · have hji : (j : Int) < (n' : Int) := by omega
            by_cases hj100 : j < 100
            · have hj100i : (j : Int) < 100 := by omega
              obtain ⟨b, o, Ai, ni, ci, rfl, hlt, hc, hx, ha⟩ := HQ.out.pnds.at_ j hjn
              have hni := ha.len
              have hLm := Nat.le_trans ha.cap ha.max
              unfold maxLen at hLm
              obtain ⟨L, hL⟩ : ∃ L, L = (C.getD j (0, [])).2.length := ⟨_, rfl⟩
              have HL := Lib.hid hL
              rw [← hL] at hni
              subst hni
              clear hL ha
              by_cases h100 : 100 < L
              · have HG := Lib.hid (H2.out j hjn hj100 (by rw [← HL.out]; exact h100))
                have h100i : (100 : Int) < (L : Int) := by omega
                go_wp2
                go_ret
                rw [HG.out]
                exact ⟨rfl, BEL.out⟩
              · have h100i : ¬ (100 : Int) < (L : Int) := by omega
                go_wp2
                go_round
                case rel =>
                  refine ⟨j + 1, by omega, by go_num, fun y hy hym => ?_⟩
                  rcases Nat.lt_or_ge y j with h | h
                  · exact ALL.out y h hym
                  · obtain rfl : y = j := by omega
                    rw [← HL.out]; omega
                case measure => simp [intOf]; omega
            · have hj100i : ¬ (j : Int) < 100 := by omega
              have HE := Lib.hid (END.out ALL2.out fun y h1 h2 => ALL.out y (by omega) h2)
              have h100n : (100 : Int) < (n' : Int) := by omega
              have EN := Lib.hid (decide_eq_true (show 100 < n' by omega))
              by_cases hmn : m < (n : Int)
              · have EM := Lib.hid (decide_eq_true hmn)
                go_wp2
                go_ret
                rw [HE.out, EM.out]
                exact ⟨rfl, BEL.out⟩
              · have EM := Lib.hid (decide_eq_false hmn)
                go_wp2
                go_ret
                rw [HE.out, EM.out, EN.out]
                exact ⟨rfl, BEL.out⟩
          · have hji : ¬ (j : Int) < (n' : Int) := by omega
            have HE := Lib.hid (END.out ALL2.out fun y h1 h2 => ALL.out y (by omega) h2)
            by_cases hmn : m < (n : Int)
            · have EM := Lib.hid (decide_eq_true hmn)
              go_wp2
              go_ret
              rw [HE.out, EM.out]
              exact ⟨rfl, BEL.out⟩
            · have EM := Lib.hid (decide_eq_false hmn)
              by_cases h100n : 100 < n'
              · have h100i : (100 : Int) < (n' : Int) := by omega
                have EN := Lib.hid (decide_eq_true h100n)
                go_wp2
                go_ret
                rw [HE.out, EM.out, EN.out]
                exact ⟨rfl, BEL.out⟩
              · have h100i : ¬ (100 : Int) < (n' : Int) := by omega
                have EN := Lib.hid (decide_eq_false h100n)
                go_wp2
                go_ret
                rw [HE.out, EM.out, EN.out]
                exact ⟨rfl, BEL.out⟩

end Go.Proofs.Ytiibmlbenamgcaa

namespace Go.Proofs.Ytiibmlbenamgcaa
open Go.RowKit
set_option linter.unusedVariables false

set_option maxHeartbeats 800000 in
theorem blank_any (A : Option Addr) (n c : Nat) (b : Txt) (w : World) (h : Arg w .u8 A n c b) :
    Calls Try.prog 77 #[.slice A n c] w fun e w' => e = .returned (.bool (b.all fun z => decide (z = 0))) ∧ w' = w := by
  have hl := h.len
  have hcm := Nat.le_trans h.cap h.max
  unfold maxLen at hcm
  have YES : (∀ y, y < n → b.getD y 0 = 0) → (b.all fun z => decide (z = 0)) = true := fun hall => by
    rw [List.all_eq_true]
    intro z hz
    obtain ⟨k, hk, rfl⟩ := List.getElem_of_mem hz
    have := hall k (by omega)
    rw [List.getD_eq_getElem?_getD, List.getElem?_eq_getElem hk, Option.getD_some] at this
    rw [decide_eq_true_iff]
    exact this
  have NO : ∀ y, y < n → b.getD y 0 ≠ 0 → (b.all fun z => decide (z = 0)) = false := fun y hy hne => by
    rw [List.all_eq_false]
    refine ⟨b[y]'(by omega), List.getElem_mem _, ?_⟩
    rw [List.getD_eq_getElem?_getD, List.getElem?_eq_getElem (by omega), Option.getD_some] at hne
    rw [decide_eq_true_iff]
    exact hne
  have YES := Lib.hid YES
  have NO := Lib.hid NO
  have H := Lib.hid h
  obtain ⟨R, hR⟩ : ∃ R, R = b.all fun z => decide (z = 0) := ⟨_, rfl⟩
  rw [← hR] at YES NO ⊢
  clear h hR
  go_enter Try.func77, Try.ntmps77
  go_wp2
  go_loop [3] (fun i => ∃ k : Nat, k ≤ n ∧ i = .int .i64 k ∧ ∀ y, y < k → b.getD y 0 = 0) (fun i => n - (intOf i).toNat)
  case atStart => exact ⟨0, Nat.zero_le _, rfl, fun y hy => by omega⟩
  case round =>
    obtain ⟨k, hk, rfl, hall⟩ := hrel
    have ALL := Lib.hid hall
    clear hall
    by_cases hkn : k < n
    · have hki : (k : Int) < (n : Int) := by omega
      obtain ⟨bb, o, rfl, _, hc⟩ := H.out.seq.int (j := k) (by omega)
      obtain ⟨z, hz⟩ : ∃ z, z = b.getD k 0 := ⟨_, rfl⟩
      rw [← hz] at hc
      by_cases h0 : z = 0
      · have HZ := Lib.hid (hz.symm.trans h0)
        have hq : (z != 0) = false := by rw [h0]; rfl
        clear hz h0
        go_wp2
        go_round
        case rel =>
          refine ⟨k + 1, by omega, by go_num, fun y hy => ?_⟩
          rcases Nat.lt_or_ge y k with h' | h'
          · exact ALL.out y h'
          · obtain rfl : y = k := by omega
            exact HZ.out
        case measure => simp [intOf]; omega
      · have HR := Lib.hid (NO.out k hkn (by rw [← hz]; exact h0))
        have hq : (z != 0) = true := bne_iff_ne.2 h0
        clear hz h0
        go_wp2
        go_ret
        rw [HR.out]
        exact ⟨rfl, rfl⟩
    · obtain rfl : k = n := by omega
      have HR := Lib.hid (YES.out ALL.out)
      go_wp2
      go_ret
      rw [HR.out]
      exact ⟨rfl, rfl⟩

theorem may_no1 {S : List Sec} {C : List Pnd} (h : ¬ (1 ≤ S.length ∧ S.length ≤ 1024 ∧ C.length ≤ 64)) : mayD S C = false := by
  cases hR : mayD S C with
  | false => rfl
  | true => exact absurd ((mayD_iff S C).1 hR).1 h
theorem may_no2 {S : List Sec} {C : List Pnd} {k : Nat} (hk : k < S.length) (h : secOk (S.getD k (false, [])) = false) : mayD S C = false := by
  unfold mayD
  rw [show S.all secOk = false from ?_]
  · simp
  · rw [List.all_eq_false]
    refine ⟨S[k], List.getElem_mem hk, ?_⟩
    rw [List.getD_eq_getElem?_getD, List.getElem?_eq_getElem hk, Option.getD_some] at h
    rw [h]; simp
theorem may_no3 {S : List Sec} {C : List Pnd} {k : Nat} (hk : k < C.length) (h : pndOk S.length (C.getD k (0, [])) = false) : mayD S C = false := by
  unfold mayD
  rw [show C.all (pndOk S.length) = false from ?_]
  · simp
  · rw [List.all_eq_false]
    refine ⟨C[k], List.getElem_mem hk, ?_⟩
    rw [List.getD_eq_getElem?_getD, List.getElem?_eq_getElem hk, Option.getD_some] at h
    rw [h]; simp
theorem may_yes {S : List Sec} {C : List Pnd} (h : 1 ≤ S.length ∧ S.length ≤ 1024 ∧ C.length ≤ 64) (h1 : ∀ k, k < S.length → secOk (S.getD k (false, [])) = true) (h2 : ∀ k, k < C.length → pndOk S.length (C.getD k (0, [])) = true) : mayD S C = true := by
  unfold mayD
  rw [show S.all secOk = true from ?_, show C.all (pndOk S.length) = true from ?_, decide_eq_true h.1, decide_eq_true h.2.1, decide_eq_true h.2.2]
  · rfl
  · rw [List.all_eq_true]
    intro s hs
    obtain ⟨k, hk, rfl⟩ := List.getElem_of_mem hs
    have := h2 k hk
    rwa [List.getD_eq_getElem?_getD, List.getElem?_eq_getElem hk, Option.getD_some] at this
  · rw [List.all_eq_true]
    intro s hs
    obtain ⟨k, hk, rfl⟩ := List.getElem_of_mem hs
    have := h1 k hk
    rwa [List.getD_eq_getElem?_getD, List.getElem?_eq_getElem hk, Option.getD_some] at this

set_option maxRecDepth 100000 in
set_option maxHeartbeats 3200000 in
theorem may_any (A : Option Addr) (n c : Nat) (A' : Option Addr) (n' c' : Nat) (S : List Sec) (C : List Pnd) (w : World) (hq : Dsk w A n c A' n' c' S C) :
    Calls Try.prog 67 #[diskV A n c A' n' c'] w fun e w' => e = .returned (.bool (mayD S C)) ∧ Below w.heap.size w w' := by
  have hbel : Below w.heap.size w (w.alloc (.cells #[.slice A n c, .slice A' n' c'] 37)) := (Below.refl _ _).alloc (Nat.le_refl _) _
  have HQ := hq.below hbel
  obtain ⟨c0, c1⟩ := box_disk w A n c A' n' c'
  have hl := hq.secs.len
  have hl' := hq.pnds.len
  have hcm := Nat.le_trans hq.secs.cap hq.secs.max
  have hcm' := Nat.le_trans hq.pnds.cap hq.pnds.max
  unfold maxLen at hcm hcm'
  have N1 := may_no1 (S := S) (C := C)
  have N2 := fun k => may_no2 (S := S) (C := C) (k := k)
  have N3 := fun k => may_no3 (S := S) (C := C) (k := k)
  have Y := may_yes (S := S) (C := C)
  rw [hl, hl'] at N1 Y
  rw [hl] at N2 N3
  rw [hl'] at N3
  obtain ⟨R, hR⟩ : ∃ R, R = mayD S C := ⟨_, rfl⟩
  rw [← hR] at N1 N2 N3 Y ⊢
  have N1 := Lib.hid N1
  have N2 := Lib.hid N2
  have N3 := Lib.hid N3
  have Y := Lib.hid Y
  have BEL := Lib.hid hbel
  obtain ⟨w1, hw1⟩ : ∃ w1, w1 = w.alloc (.cells #[.slice A n c, .slice A' n' c'] 37) := ⟨_, rfl⟩
  rw [← hw1] at BEL HQ c0 c1
  have HQ := Lib.hid HQ
  clear hq hbel hl hl' hR
  by_cases k1 : n < 1
  · have HR := Lib.hid (N1.out (by omega))
    have k1i : (n : Int) < 1 := by omega
    go_enter Try.func67, Try.ntmps67
    rw [hw1] at c0 c1 BEL
    go_wp2
    go_ret
    rw [HR.out]
    exact ⟨rfl, BEL.out⟩
  have k1i : ¬ (n : Int) < 1 := by omega
  by_cases k2 : 1024 < n
  · have HR := Lib.hid (N1.out (by omega))
    have k2i : (1024 : Int) < (n : Int) := by omega
    go_enter Try.func67, Try.ntmps67
    rw [hw1] at c0 c1 BEL
    go_wp2
    go_ret
    rw [HR.out]
    exact ⟨rfl, BEL.out⟩
  have k2i : ¬ (1024 : Int) < (n : Int) := by omega
  by_cases k3 : 64 < n'
  · have HR := Lib.hid (N1.out (by omega))
    have k3i : (64 : Int) < (n' : Int) := by omega
    go_enter Try.func67, Try.ntmps67
    rw [hw1] at c0 c1 BEL
    go_wp2
    go_ret
    try rw [HR.out]
    exact ⟨rfl, BEL.out⟩
  have k3i : ¬ (64 : Int) < (n' : Int) := by omega
  have OK := Lib.hid (show 1 ≤ n ∧ n ≤ 1024 ∧ n' ≤ 64 by omega)
  clear N1 k1 k2 k3
  go_enter Try.func67, Try.ntmps67
  rw [hw1] at c0 c1 BEL HQ
  go_wp2
  rw [← hw1] at c0 c1 BEL HQ ⊢
  clear hw1
  go_loop [4] (fun i => ∃ k : Nat, k ≤ n ∧ i = .int .i64 k ∧ ∀ y, y < k → secOk (S.getD y (false, [])) = true) (fun i => n - (intOf i).toNat)
  case atStart => exact ⟨0, Nat.zero_le _, rfl, fun y hy => by omega⟩
  case round =>
    obtain ⟨k, hk, rfl, hall⟩ := hrel
    have ALL := Lib.hid hall
    clear hall
    by_cases hkn : k < n
    · have hki : (k : Int) < (n : Int) := by omega
      obtain ⟨b, o, Ai, ni, ci, rfl, hlt, hc, hx, ha⟩ := HQ.out.secs.at_ k hkn
      have NOK := Lib.hid (N2.out k hkn)
      have BL := Lib.hid (blank_any Ai ni ci _ w1 ha)
      have hlen := ha.len
      have hLm := Nat.le_trans ha.cap ha.max
      unfold maxLen at hLm
      obtain ⟨sec, hsec⟩ : ∃ sec, sec = S.getD k (false, []) := ⟨_, rfl⟩
      rw [← hsec] at NOK BL hlen hx ha
      have HSEC := Lib.hid hsec
      obtain ⟨bad, txt⟩ := sec
      dsimp only at hlen hx BL ha
      clear hsec ha
      by_cases h32 : ni = 32
      · subst h32
        cases bad with
        | false =>
          have HOK := Lib.hid (show secOk (false, txt) = true by simp [secOk, hlen])
          clear hlen
          go_wp2
          go_round
          case rel =>
            refine ⟨k + 1, by omega, by go_num, fun y hy => ?_⟩
            rcases Nat.lt_or_ge y k with h' | h'
            · exact ALL.out y h'
            · obtain rfl : y = k := by omega
              rw [← HSEC.out]
              exact HOK.out
          case measure => simp [intOf]; omega
        | true =>
          obtain ⟨bl, hbl⟩ : ∃ bl, bl = txt.all fun z => decide (z = 0) := ⟨_, rfl⟩
          rw [← hbl] at BL
          cases bl with
          | true =>
            have HOK := Lib.hid (show secOk (true, txt) = true by simp only [secOk, hlen, ← hbl]; rfl)
            clear hlen hbl
            go_wp2_with fail
            refine BL.out.mono ?_
            rintro e w2 ⟨rfl, rfl⟩
            go_wp2
            go_round
            case rel =>
              refine ⟨k + 1, by omega, by go_num, fun y hy => ?_⟩
              rcases Nat.lt_or_ge y k with h' | h'
              · exact ALL.out y h'
              · obtain rfl : y = k := by omega
                rw [← HSEC.out]
                exact HOK.out
            case measure => simp [intOf]; omega
          | false =>
            have HR := Lib.hid (NOK.out (by simp only [secOk, hlen, ← hbl]; rfl))
            clear hlen hbl
            go_wp2_with fail
            refine BL.out.mono ?_
            rintro e w2 ⟨rfl, rfl⟩
            go_wp2
            go_ret
            rw [HR.out]
            exact ⟨rfl, BEL.out⟩
      · have HR := Lib.hid (NOK.out (by simp [secOk, hlen, h32]))
        have h32i : ((ni : Int) != 32) = true := bne_iff_ne.2 (by omega)
        clear hlen
        go_wp2
        go_ret
        rw [HR.out]
        exact ⟨rfl, BEL.out⟩
    · obtain rfl : k = n := by omega
      have ALL1 := Lib.hid ALL.out
      clear ALL
      go_wp2
      go_loop [5] (fun i => ∃ j : Nat, j ≤ n' ∧ i = .int .i64 j ∧ ∀ y, y < j → pndOk k (C.getD y (0, [])) = true) (fun i => n' - (intOf i).toNat)
      case atStart => exact ⟨0, Nat.zero_le _, rfl, fun y hy => by omega⟩
      case round =>
        obtain ⟨j, hj, rfl, hall⟩ := hrel
        have ALL := Lib.hid hall
        clear hall
        by_cases hjn : j < n'
        · have hji : (j : Int) < (n' : Int) := by omega
          obtain ⟨b, o, Ai, ni, ci, rfl, hlt, hc, hx, ha⟩ := HQ.out.pnds.at_ j hjn
          have NOK := Lib.hid (N3.out j hjn)
          have hlen := ha.len
          have hLm := Nat.le_trans ha.cap ha.max
          unfold maxLen at hLm
          obtain ⟨pnd, hpnd⟩ : ∃ pnd, pnd = C.getD j (0, []) := ⟨_, rfl⟩
          rw [← hpnd] at NOK hlen hx
          have HPND := Lib.hid hpnd
          obtain ⟨at_, txt⟩ := pnd
          dsimp only at hlen hx
          clear hpnd ha
          by_cases a0 : at_ < 0
          · have HR := Lib.hid (NOK.out (by simp [pndOk]; omega))
            clear hlen
            go_wp2
            go_ret
            rw [HR.out]
            exact ⟨rfl, BEL.out⟩
          by_cases a1 : (k : Int) ≤ at_
          · have HR := Lib.hid (NOK.out (by simp [pndOk]; omega))
            clear hlen
            go_wp2
            go_ret
            rw [HR.out]
            exact ⟨rfl, BEL.out⟩
          by_cases h32 : ni = 32
          · subst h32
            have HOK := Lib.hid (show pndOk k (at_, txt) = true by simp [pndOk, hlen]; omega)
            clear hlen
            go_wp2
            go_round
            case rel =>
              refine ⟨j + 1, by omega, by go_num, fun y hy => ?_⟩
              rcases Nat.lt_or_ge y j with h' | h'
              · exact ALL.out y h'
              · obtain rfl : y = j := by omega
                rw [← HPND.out]
                exact HOK.out
            case measure => simp [intOf]; omega
          · have HR := Lib.hid (NOK.out (by simp [pndOk, hlen, h32]))
            have h32i : ((ni : Int) != 32) = true := bne_iff_ne.2 (by omega)
            clear hlen
            go_wp2
            go_ret
            rw [HR.out]
            exact ⟨rfl, BEL.out⟩
        · obtain rfl : j = n' := by omega
          have HR := Lib.hid (Y.out OK.out ALL1.out ALL.out)
          go_wp2
          go_ret
          rw [HR.out]
          exact ⟨rfl, BEL.out⟩

end Go.Proofs.Ytiibmlbenamgcaa

namespace Go.Proofs.Ytiibmlbenamgcaa
open Go.RowKit
set_option linter.unusedVariables false

theorem list_same {α : Type} {z : α} {a b : List α} {n : Nat} (ha : a.length = n) (hb : b.length = n) (h : ∀ y, y < n → a.getD y z = b.getD y z) : a = b := by
  refine List.ext_getElem (ha.trans hb.symm) fun i h1 h2 => ?_
  have := h i (by omega)
  simpa [List.getD_eq_getElem?_getD, h1, h2] using this

set_option maxRecDepth 100000 in
set_option maxHeartbeats 3200000 in
theorem same_any (A : Option Addr) (n c : Nat) (A' : Option Addr) (n' c' : Nat) (S : List Sec) (C : List Pnd) (B : Option Addr) (m d : Nat) (B' : Option Addr) (m' d' : Nat) (T : List Sec) (D : List Pnd) (w : World) (ha : Dsk w A n c A' n' c' S C) (hb : Dsk w B m d B' m' d' T D) :
    Calls Try.prog 20 #[diskV A n c A' n' c', diskV B m d B' m' d'] w fun e w' => e = .returned (.bool (sameD S C T D)) ∧ Below w.heap.size w w' := by
  obtain ⟨x1, x2, hbel⟩ := boxes2 w A n c A' n' c' B m d B' m' d'
  have HA := Lib.hid (ha.below hbel)
  have HB := Lib.hid (hb.below hbel)
  have d0 := x1.cell 0
  have d1 := x1.cell 1
  have e0 := x2.cell 0
  have e1 := x2.cell 1
  simp only [List.getElem?_cons_zero, List.getElem?_cons_succ] at d0 d1 e0 e1
  have BEL := Lib.hid hbel
  have hE : sameD S C T D = decide (S = T ∧ C = D) := rfl
  have hcm := Nat.le_trans ha.secs.cap ha.secs.max
  have hcm' := Nat.le_trans ha.pnds.cap ha.pnds.max
  unfold maxLen at hcm hcm'
  have hla := ha.secs.len
  have hlb := hb.secs.len
  have hpa := ha.pnds.len
  have hpb := hb.pnds.len
  by_cases hn : n = m
  case neg =>
    rw [show sameD S C T D = false by rw [hE]; exact decide_eq_false fun e => hn (by rw [← hla, ← hlb, e.1])]
    have hn2 : ((n : Int) != (m : Int)) = true := bne_iff_ne.2 (by omega)
    clear hE hbel x1 x2 ha hb hla hlb hpa hpb
    go_enter Try.func20, Try.ntmps20
    go_wp2
    go_ret
    exact ⟨rfl, BEL.out⟩
  subst hn
  by_cases hn' : n' = m'
  case neg =>
    rw [show sameD S C T D = false by rw [hE]; exact decide_eq_false fun e => hn' (by rw [← hpa, ← hpb, e.2])]
    have hn2 : ((n' : Int) != (m' : Int)) = true := bne_iff_ne.2 (by omega)
    clear hE hbel x1 x2 ha hb hla hlb hpa hpb
    go_enter Try.func20, Try.ntmps20
    go_wp2
    go_ret
    exact ⟨rfl, BEL.out⟩
  subst hn'
  have YES := Lib.hid fun h1 h2 => (show sameD S C T D = true from decide_eq_true ⟨list_same (z := (false, [])) hla hlb h1, list_same (z := (0, [])) hpa hpb h2⟩)
  have NO1 := Lib.hid fun k (h : S.getD k (false, []) ≠ T.getD k (false, [])) => (show sameD S C T D = false from decide_eq_false fun e => h (by rw [e.1]))
  have NO2 := Lib.hid fun k (h : C.getD k (0, []) ≠ D.getD k (0, [])) => (show sameD S C T D = false from decide_eq_false fun e => h (by rw [e.2]))
  obtain ⟨R, hR⟩ : ∃ R, R = sameD S C T D := ⟨_, rfl⟩
  rw [← hR] at YES NO1 NO2 ⊢
  obtain ⟨w1, hw1⟩ : ∃ w1, w1 = (w.alloc (.cells #[.slice A n c, .slice A' n' c'] 37)).alloc (.cells #[.slice B n d, .slice B' n' d'] 37) := ⟨_, rfl⟩
  clear hE hbel x1 x2 ha hb hla hlb hpa hpb hR
  go_enter Try.func20, Try.ntmps20
  go_wp2
  rw [← hw1] at HA HB d0 d1 e0 e1 BEL ⊢
  clear hw1
  go_loopw [5] (fun i wr => ∃ k : Nat, k ≤ n ∧ i = .int .i64 k ∧ (∀ y, y < k → S.getD y (false, []) = T.getD y (false, [])) ∧ ∃ q, wr = w1.drewN q) (fun i _ => n - (intOf i).toNat)
  case atStart => exact ⟨0, Nat.zero_le _, rfl, fun y hy => by omega, 0, rfl⟩
  case round =>
    obtain ⟨k, hk, rfl, hall, q, rfl⟩ := hrel
    have ALL := Lib.hid hall
    clear hall
    by_cases hkn : k < n
    · have hki : (k : Int) < (n : Int) := by omega
      obtain ⟨b1, o1, A1, n1, c1, rfl, hlt1, hc1, hx1, ha1⟩ := HA.out.secs.at_ k hkn
      obtain ⟨b2, o2, A2, n2, c2, rfl, hlt2, hc2, hx2, ha2⟩ := HB.out.secs.at_ k hkn
      have hst1 := fun q => run_str (P := Try.prog) (w1.drewN q) 22 9 5 Try.underlying22 Try.underlying5 Try.underlying9 (c := c1) (ha1.seq.keep (w' := w1.drewN q) fun _ _ => rfl) ha1.len
      have hst2 := fun q => run_str (P := Try.prog) (w1.drewN q) 22 9 5 Try.underlying22 Try.underlying5 Try.underlying9 (c := c2) (ha2.seq.keep (w' := w1.drewN q) fun _ _ => rfl) ha2.len
      have hse := strs_eq (HA.out.secs.byte_at k) (HB.out.secs.byte_at k)
      have NOK := Lib.hid (NO1.out k)
      obtain ⟨s1, hs1⟩ : ∃ x, x = S.getD k (false, []) := ⟨_, rfl⟩
      obtain ⟨s2, hs2⟩ : ∃ x, x = T.getD k (false, []) := ⟨_, rfl⟩
      rw [← hs1] at hst1 hse NOK hx1
      rw [← hs2] at hst2 hse NOK hx2
      have HS1 := Lib.hid hs1
      have HS2 := Lib.hid hs2
      obtain ⟨p1, t1⟩ := s1
      obtain ⟨p2, t2⟩ := s2
      dsimp only at hst1 hst2 hse hx1 hx2
      clear hs1 hs2 ha1 ha2
      by_cases hp : p1 = p2
      · subst hp
        have hpp : (p1 != p1) = false := by simp
        by_cases ht : t1 = t2
        · have hse2 : ((strOfNums t1).toList == (strOfNums t2).toList) = true := hse.trans (decide_eq_true ht)
          have HT := Lib.hid ht
          clear ht hse
          go_wp2
          go_quiet (fail)
          go_wp2
          go_roundw
          case rel =>
            refine ⟨k + 1, by omega, by go_num, fun y' hy' => ?_, _, rfl⟩
            rcases Nat.lt_or_ge y' k with h' | h'
            · exact ALL.out y' h'
            · obtain rfl : y' = k := by omega
              rw [← HS1.out, ← HS2.out, HT.out]
          case measure => simp [intOf]; omega
        · have hse2 : ((strOfNums t1).toList == (strOfNums t2).toList) = false := hse.trans (decide_eq_false ht)
          have HN := Lib.hid (NOK.out (fun e => ht (congrArg Prod.snd e)))
          clear ht hse
          go_wp2
          go_quiet (fail)
          go_wp2
          go_ret
          rw [HN.out]
          exact ⟨rfl, below_drewN (below_drewN BEL.out _) _⟩
      · have hpp : (p1 != p2) = true := bne_iff_ne.2 hp
        have HN := Lib.hid (NOK.out (fun e => hp (congrArg Prod.fst e)))
        cases p1 <;> cases p2
        · exact absurd rfl hp
        · clear hp hse hpp
          go_wp2
          go_quiet (fail)
          go_wp2
          go_ret
          rw [HN.out]
          exact ⟨rfl, below_drewN (below_drewN BEL.out _) _⟩
        · clear hp hse hpp
          go_wp2
          go_quiet (fail)
          go_wp2
          go_ret
          rw [HN.out]
          exact ⟨rfl, below_drewN (below_drewN BEL.out _) _⟩
        · exact absurd rfl hp
    · obtain rfl : k = n := by omega
      have ALL1 := Lib.hid ALL.out
      clear ALL
      obtain ⟨r, hr⟩ : ∃ r, r = q := ⟨_, rfl⟩
      rw [← hr]
      clear hr
      go_wp2
      go_loopw [6] (fun i wr => ∃ j : Nat, j ≤ n' ∧ i = .int .i64 j ∧ (∀ y, y < j → C.getD y (0, []) = D.getD y (0, [])) ∧ ∃ q, wr = w1.drewN q) (fun i _ => n' - (intOf i).toNat)
      case atStart => exact ⟨0, Nat.zero_le _, rfl, fun y hy => by omega, r, rfl⟩
      case round =>
        obtain ⟨j, hk, rfl, hall, q, rfl⟩ := hrel
        have ALL := Lib.hid hall
        clear hall
        by_cases hkn : j < n'
        · have hki : (j : Int) < (n' : Int) := by omega
          obtain ⟨b1, o1, A1, n1, c1, rfl, hlt1, hc1, hx1, ha1⟩ := HA.out.pnds.at_ j hkn
          obtain ⟨b2, o2, A2, n2, c2, rfl, hlt2, hc2, hx2, ha2⟩ := HB.out.pnds.at_ j hkn
          have hst1 := fun q => run_str (P := Try.prog) (w1.drewN q) 22 9 5 Try.underlying22 Try.underlying5 Try.underlying9 (c := c1) (ha1.seq.keep (w' := w1.drewN q) fun _ _ => rfl) ha1.len
          have hst2 := fun q => run_str (P := Try.prog) (w1.drewN q) 22 9 5 Try.underlying22 Try.underlying5 Try.underlying9 (c := c2) (ha2.seq.keep (w' := w1.drewN q) fun _ _ => rfl) ha2.len
          have hse := strs_eq (HA.out.pnds.byte_at j) (HB.out.pnds.byte_at j)
          have NOK := Lib.hid (NO2.out j)
          obtain ⟨s1, hs1⟩ : ∃ x, x = C.getD j (0, []) := ⟨_, rfl⟩
          obtain ⟨s2, hs2⟩ : ∃ x, x = D.getD j (0, []) := ⟨_, rfl⟩
          rw [← hs1] at hst1 hse NOK hx1
          rw [← hs2] at hst2 hse NOK hx2
          have HS1 := Lib.hid hs1
          have HS2 := Lib.hid hs2
          obtain ⟨p1, t1⟩ := s1
          obtain ⟨p2, t2⟩ := s2
          dsimp only at hst1 hst2 hse hx1 hx2
          clear hs1 hs2 ha1 ha2
          by_cases hp : p1 = p2
          · subst hp
            have hpp : (p1 != p1) = false := by simp
            by_cases ht : t1 = t2
            · have hse2 : ((strOfNums t1).toList == (strOfNums t2).toList) = true := hse.trans (decide_eq_true ht)
              have HT := Lib.hid ht
              clear ht hse
              go_wp2
              go_quiet (fail)
              go_wp2
              go_roundw
              case rel =>
                refine ⟨j + 1, by omega, by go_num, fun y' hy' => ?_, _, rfl⟩
                rcases Nat.lt_or_ge y' j with h' | h'
                · exact ALL.out y' h'
                · obtain rfl : y' = j := by omega
                  rw [← HS1.out, ← HS2.out, HT.out]
              case measure => simp [intOf]; omega
            · have hse2 : ((strOfNums t1).toList == (strOfNums t2).toList) = false := hse.trans (decide_eq_false ht)
              have HN := Lib.hid (NOK.out (fun e => ht (congrArg Prod.snd e)))
              clear ht hse
              go_wp2
              go_quiet (fail)
              go_wp2
              go_ret
              rw [HN.out]
              exact ⟨rfl, below_drewN (below_drewN BEL.out _) _⟩
          · have hpp : (p1 != p2) = true := bne_iff_ne.2 hp
            have HN := Lib.hid (NOK.out (fun e => hp (congrArg Prod.fst e)))
            clear hp hse
            go_wp2
            go_quiet (fail)
            go_wp2
            go_ret
            rw [HN.out]
            exact ⟨rfl, below_drewN (below_drewN BEL.out _) _⟩
        · obtain rfl : j = n' := by omega
          have HY := Lib.hid (YES.out ALL1.out ALL.out)
          go_wp2
          go_ret
          rw [HY.out]
          exact ⟨rfl, below_drewN BEL.out q⟩

end Go.Proofs.Ytiibmlbenamgcaa

namespace Go.Proofs.Ytiibmlbenamgcaa
open Go.RowKit
set_option linter.unusedVariables false

theorem take_next {α : Type} {z : α} {l : List α} {n k : Nat} (hl : l.length = n) (hk : k < n) : l.take (k + 1) = l.take k ++ [l.getD k z] := by
  rw [List.take_succ_eq_append_getElem (by rw [hl]; exact hk)]
  simp [List.getD_eq_getElem?_getD, show k < l.length by rw [hl]; exact hk]

set_option maxRecDepth 100000 in
set_option maxHeartbeats 6400000 in
theorem twin_any (A : Option Addr) (n c : Nat) (A' : Option Addr) (n' c' : Nat) (S : List Sec) (C : List Pnd) (w : World) (hq : Dsk w A n c A' n' c' S C) (hs : SmallD S C) :
    Calls Try.prog 18 #[diskV A n c A' n' c'] w fun e w' => ∃ B d B' d', e = .returned (diskV B n d B' n' d') ∧ OwnDsk w' w.heap.size B n d B' n' d' S C ∧ Below w.heap.size w w' := by
  obtain ⟨i0, hi0, hz0, hz1, hz2⟩ := info_parts byte_info
  have hml : (1000 : Nat) ≤ maxLen := by decide
  obtain ⟨x1, x2, hbel⟩ := boxes2 w A n c A' n' c' none 0 0 none 0 0
  have hz : ((w.alloc (.cells #[.slice A n c, .slice A' n' c'] 37)).alloc (.cells #[.slice none 0 0, .slice none 0 0] 37)).heap.size = w.heap.size + 2 := by simp
  have y1 := x1.grown (World.grownBy_alloc _ (.cells #[.slice none 0 0, .slice none 0 0] 37) none) (by simp)
  have y2 := x2.grown (World.grownBy_alloc _ (.cells #[.slice none 0 0, .slice none 0 0] 37) none) (by simp)
  have y3 := Blk.new ((w.alloc (.cells #[.slice A n c, .slice A' n' c'] 37)).alloc (.cells #[.slice none 0 0, .slice none 0 0] 37)) 37 [.slice none 0 0, .slice none 0 0]
  have hb3 := hbel.alloc hbel.size (.cells #[.slice none 0 0, .slice none 0 0] 37)
  rw [hz, show w.heap.size + 2 = w.heap.size + 1 + 1 from rfl] at y3
  have hn := hs.secs
  have hn' := hs.pnds
  rw [hq.secs.len] at hn
  rw [hq.pnds.len] at hn'
  have HQ := Lib.hid hq
  have SM1 := Lib.hid fun k (hk : k < n) => (show (S.getD k (false, [])).2.length ≤ 100 from by
    have hk' : k < S.length := by rw [hq.secs.len]; exact hk
    rw [List.getD_eq_getElem?_getD, List.getElem?_eq_getElem hk', Option.getD_some]
    exact hs.long _ (List.getElem_mem hk'))
  have SM2 := Lib.hid fun k (hk : k < n') => (show (C.getD k (0, [])).2.length ≤ 100 from by
    have hk' : k < C.length := by rw [hq.pnds.len]; exact hk
    rw [List.getD_eq_getElem?_getD, List.getElem?_eq_getElem hk', Option.getD_some]
    exact hs.wide _ (List.getElem_mem hk'))
  have TF1 := Lib.hid (show S.take n = S by rw [← hq.secs.len, List.take_length])
  have TF2 := Lib.hid (show C.take n' = C by rw [← hq.pnds.len, List.take_length])
  have TS1 := Lib.hid fun k (hk : k < n) => take_next (z := ((false, []) : Sec)) hq.secs.len hk
  have TS2 := Lib.hid fun k (hk : k < n') => take_next (z := ((0, []) : Pnd)) hq.pnds.len hk
  obtain ⟨w1, hw1⟩ : ∃ w1, w1 = ((w.alloc (.cells #[.slice A n c, .slice A' n' c'] 37)).alloc (.cells #[.slice none 0 0, .slice none 0 0] 37)).alloc (.cells #[.slice none 0 0, .slice none 0 0] 37) := ⟨_, rfl⟩
  have Y1 := Lib.hid y1
  have Y2 := Lib.hid y2
  have Y3 := Lib.hid y3
  have B1 := Lib.hid hb3
  clear x1 x2 hbel hz y1 y2 y3 hb3 hq hs
  go_enter Try.func18, Try.ntmps18
  go_wp2
  rw [← hw1] at Y1 Y2 Y3 B1 ⊢
  clear hw1
  -- gen_twin5
  -- gen_twin5
  -- gen_twin5
  -- gen_twin5
  -- gen_twin5
  -- gen_twin5
  -- gen_twin5
  -- gen_twin5
  go_loopw [4] (fun i wr => ∃ k : Nat, k ≤ n ∧ i = .int .i64 k ∧ ∃ A1 c1, OwnSecs wr (w.heap.size + 3) A1 k c1 (S.take k) ∧ Blk wr w.heap.size 37 [.slice A n c, .slice A' n' c'] ∧ Blk wr (w.heap.size + 1) 37 [.slice none 0 0, .slice none 0 0] ∧ Blk wr (w.heap.size + 1 + 1) 37 [.slice A1 k c1, .slice none 0 0] ∧ Below w.heap.size w wr) (fun i _ => n - (intOf i).toNat)
  case atStart => exact ⟨0, Nat.zero_le _, rfl, none, 0, OwnSecs.nil _ _, Y1.out, Y2.out, Y3.out, B1.out⟩
  case round =>
    obtain ⟨k, hk, rfl, A1, c1, hO, hx1, hx2, hx3, hB⟩ := hrel
    have q0 := hx1.cell 0
    simp only [List.getElem?_cons_zero] at q0
    by_cases hkn : k < n
    · have hki : (k : Int) < (n : Int) := by omega
      obtain ⟨b, o, Ai, ni, ci, rfl, hlt, hc, hx, ha⟩ := HQ.out.secs.at_ k hkn
      have hby := HQ.out.secs.byte_at k
      have hsm := SM1.out k hkn
      have hst := TS1.out k hkn
      have hlen := ha.len
      obtain ⟨el, hel⟩ : ∃ el, el = S.getD k (false, []) := ⟨_, rfl⟩
      rw [← hel] at hby hsm hst hlen hx ha
      obtain ⟨bad, t⟩ := el
      dsimp only at hby hsm hlen hx ha
      have hni : ni ≤ 100 := by rw [← hlen]; exact hsm
      obtain ⟨Q, hQ⟩ : ∃ Q, Q = S.take k := ⟨_, rfl⟩
      rw [← hQ] at hst hO
      have l0 := hx3.cell 0
      simp only [List.getElem?_cons_zero] at l0
      have hszd : w.heap.size + 3 ≤ wr.drew.heap.size := by have := hx3.lt; show _ ≤ wr.heap.size; omega
      have HST := Lib.hid hst
      have HBY := Lib.hid hby
      have HA := Lib.hid (show Arg wr.drew .u8 Ai ni ci t from (ha.below hB).below (below_drewN (Below.refl _ _) 1))
      have OD := Lib.hid (show OwnSecs wr.drew (w.heap.size + 3) A1 k c1 Q from hO.below (below_drewN (Below.refl _ _) 1))
      have BD := Lib.hid (show Below w.heap.size w wr.drew from below_drewN hB 1)
      have X1 := Lib.hid (show Blk wr.drew w.heap.size 37 [.slice (some ⟨b, o, none⟩) n c, .slice A' n' c'] from hx1)
      have X2 := Lib.hid (show Blk wr.drew (w.heap.size + 1) 37 [.slice none 0 0, .slice none 0 0] from hx2)
      have X3 := Lib.hid (show Blk wr.drew (w.heap.size + 1 + 1) 37 [.slice A1 k c1, .slice none 0 0] from hx3)
      have hcb := (hB.cell (p := ⟨b, o + k * 2, none⟩) hlt).trans hc
      have hxb := (hB.cell (p := ⟨b, o + k * 2 + 1, none⟩) hlt).trans hx
      have keepS : ∀ wx, Below (w.heap.size + 3) wr.drew wx → wx.cell? ⟨w.heap.size, 0, none⟩ = some (.slice (some ⟨b, o, none⟩) n c) ∧ wx.cell? ⟨b, o + k * 2, none⟩ = some (.slice Ai ni ci) ∧ wx.cell? ⟨b, o + k * 2 + 1, none⟩ = some (.bool bad) ∧ wx.cell? ⟨w.heap.size + 1 + 1, 0, none⟩ = some (.slice A1 k c1) := fun wx hx =>
        ⟨(hx.cell (p := ⟨w.heap.size, 0, none⟩) (by show w.heap.size < _; omega)).trans q0, (hx.cell (p := ⟨b, o + k * 2, none⟩) (by show b < _; omega)).trans hcb, (hx.cell (p := ⟨b, o + k * 2 + 1, none⟩) (by show b < _; omega)).trans hxb, (hx.cell (p := ⟨w.heap.size + 1 + 1, 0, none⟩) (by show w.heap.size + 1 + 1 < _; omega)).trans l0⟩
      have hHeld := keepS wr.drew (Below.refl _ _)
      clear hel hQ hst hby hsm hlen hx ha hO hx1 hx2 hx3 hB hc hcb hxb
      go_wp2_with fail
      refine wp_region_to 20 (fun w' => w'.cell? ⟨w.heap.size, 0, none⟩ = some (.slice (some ⟨b, o, none⟩) n c) ∧ w'.cell? ⟨b, o + k * 2, none⟩ = some (.slice Ai ni ci) ∧ w'.cell? ⟨b, o + k * 2 + 1, none⟩ = some (.bool bad) ∧ w'.cell? ⟨w.heap.size + 1 + 1, 0, none⟩ = some (.slice A1 k c1)) (by kernel_rfl) ?_
      refine wpAnyG_take (i := 0) (v := ?_) rfl (by kernel_rfl) (by kernel_rfl) (by kernel_rfl) (by kernel_rfl) (by kernel_rfl) rfl (fun _ _ _ h => h) (Or.inl ⟨by rfl, ?_⟩) hHeld ?_
      rotate_left
      · (intro w' hSw; (try dsimp only at hSw); go_simp; (try with_reducible rfl))
      simp only [Act.put, List.setIfInBounds_toArray]
      refine wpAnyG_take (i := 1) (v := ?_) rfl (by kernel_rfl) (by kernel_rfl) (by kernel_rfl) (by kernel_rfl) (by kernel_rfl) rfl (fun _ _ _ h => h) (Or.inl ⟨by rfl, ?_⟩) hHeld ?_
      rotate_left
      · (intro w' hSw; (try dsimp only at hSw); go_simp; (try with_reducible rfl))
      simp only [Act.put]
      refine wpAnyG_take (i := 3) (v := ?_) rfl (by kernel_rfl) (by kernel_rfl) (by kernel_rfl) (by kernel_rfl) (by kernel_rfl) rfl (fun _ _ _ h => h) (Or.inl ⟨by rfl, ?_⟩) hHeld ?_
      rotate_left
      · (intro w' hSw; (try dsimp only at hSw); go_simp; (try with_reducible rfl))
      simp only [Act.put]
      refine wpAnyG_take (i := 4) (v := ?_) rfl (by kernel_rfl) (by kernel_rfl) (by kernel_rfl) (by kernel_rfl) (by kernel_rfl) rfl (fun _ _ _ h => h) (Or.inl ⟨by rfl, ?_⟩) hHeld ?_
      rotate_left
      · (intro w' hSw; (try dsimp only at hSw); go_simp; (try with_reducible rfl))
      simp only [Act.put]
      refine wpAnyG_take (i := 5) (v := ?_) rfl (by kernel_rfl) (by kernel_rfl) (by kernel_rfl) (by kernel_rfl) (by kernel_rfl) rfl (fun _ _ _ h => h) (Or.inl ⟨by rfl, ?_⟩) hHeld ?_
      rotate_left
      · (intro w' hSw; (try dsimp only at hSw); go_simp; (try with_reducible rfl))
      simp only [Act.put]
      refine wpAnyG_take (i := 6) (v := ?_) rfl (by kernel_rfl) (by kernel_rfl) (by kernel_rfl) (by kernel_rfl) (by kernel_rfl) rfl (fun _ _ _ h => h) (Or.inl ⟨by rfl, ?_⟩) hHeld ?_
      rotate_left
      · (intro w' hSw; (try dsimp only at hSw); go_simp; (try with_reducible rfl))
      simp only [Act.put]
      refine wpAnyG_take (i := 7) (v := ?_) rfl (by kernel_rfl) (by kernel_rfl) (by kernel_rfl) (by kernel_rfl) (by kernel_rfl) rfl (fun _ _ _ h => h) (Or.inl ⟨by rfl, ?_⟩) hHeld ?_
      rotate_left
      · (intro w' hSw; (try dsimp only at hSw); go_simp; (try with_reducible rfl))
      simp only [Act.put]
      refine wpAnyG_take (i := 8) (v := ?_) rfl (by kernel_rfl) (by kernel_rfl) (by kernel_rfl) (by kernel_rfl) (by kernel_rfl) rfl (fun _ _ _ h => h) (Or.inl ⟨by rfl, ?_⟩) hHeld ?_
      rotate_left
      · (intro w' hSw; (try dsimp only at hSw); go_simp; (try with_reducible rfl))
      simp only [Act.put]
      refine wpAnyG_take (i := 10) (v := ?_) rfl (by kernel_rfl) (by kernel_rfl) (by kernel_rfl) (by kernel_rfl) (by kernel_rfl) rfl (fun _ _ _ h => h) (Or.inl ⟨by rfl, ?_⟩) hHeld ?_
      rotate_left
      · (intro w' hSw; (try dsimp only at hSw); go_simp; (try with_reducible rfl))
      simp only [Act.put]
      refine wpAnyG_take (i := 11) (v := ?_) rfl (by kernel_rfl) (by kernel_rfl) (by kernel_rfl) (by kernel_rfl) (by kernel_rfl) rfl (fun _ _ _ h => h) (Or.inl ⟨by rfl, ?_⟩) hHeld ?_
      rotate_left
      · (intro w' hSw; (try dsimp only at hSw); go_simp; (try with_reducible rfl))
      simp only [Act.put]
      refine wpAnyG_take (i := 12) (v := ?_) rfl (by kernel_rfl) (by kernel_rfl) (by kernel_rfl) (by kernel_rfl) (by kernel_rfl) rfl (fun _ _ _ h => h) (Or.inl ⟨by rfl, ?_⟩) hHeld ?_
      rotate_left
      · (intro w' hSw; (try dsimp only at hSw); go_simp; (try with_reducible rfl))
      simp only [Act.put]
      refine wpAnyG_take (i := 13) (v := ?_) rfl (by kernel_rfl) (by kernel_rfl) (by kernel_rfl) (by kernel_rfl) (by kernel_rfl) rfl (fun _ _ _ h => h) (Or.inl ⟨by rfl, ?_⟩) hHeld ?_
      rotate_left
      · (intro w' hSw; (try dsimp only at hSw); go_simp; (try with_reducible rfl))
      simp only [Act.put]
      refine wpAnyG_take (i := 14) (v := ?_) rfl (by kernel_rfl) (by kernel_rfl) (by kernel_rfl) (by kernel_rfl) (by kernel_rfl) rfl (fun _ _ _ h => h) (Or.inl ⟨by rfl, ?_⟩) hHeld ?_
      rotate_left
      · (intro w' hSw; (try dsimp only at hSw); go_simp; (try with_reducible rfl))
      simp only [Act.put]
      refine wpAnyG_take (i := 15) (v := ?_) rfl (by kernel_rfl) (by kernel_rfl) (by kernel_rfl) (by kernel_rfl) (by kernel_rfl) rfl (fun _ _ _ h => h) (Or.inl ⟨by rfl, ?_⟩) hHeld ?_
      rotate_left
      · (intro w' hSw; (try dsimp only at hSw); go_simp; (try with_reducible rfl))
      simp only [Act.put]
      refine wpAnyG_one (i := 2) (by kernel_rfl) rfl (fun K hK => ?_)
      go_simp
      refine hK.out _ _ (fun _ => keepS _ ((Below.refl _ _).alloc hszd _)) (fun hHeld => ?_)
      have hHeld := hHeld (by decide)
      clear hK K
      try simp only [Act.put, List.setIfInBounds_toArray, List.set_cons_zero, List.set_cons_succ]
      refine wpAnyG_one (i := 9) (by kernel_rfl) rfl (fun K hK => ?_)
      refine step_dup_g wr.drew (by rfl) (.tmp 15) (.tmp 21) _ (by rfl) 5 i0 _ 1 Try.underlying22 hi0 hz0 hz1 hz2 rfl (by rfl) Ai ni ci (ints .u8 t) (by rfl) (by rw [ints_length, HA.out.len]) HA.out.seq (ints_one _ _) (by omega) (by omega) ?_
      intro A2 c2 w2 hown2 hbX
      have hbY := hbX.mono hszd
      have hz2' := hbX.size
      refine hK.out _ _ (fun _ => keepS _ hbY) (fun hHeld => ?_)
      have hHeld := hHeld (by decide)
      clear hK K
      try simp only [Act.put, List.setIfInBounds_toArray]
      refine wpAnyG_take (i := 16) (v := ?_) rfl (by kernel_rfl) (by kernel_rfl) (by kernel_rfl) (by kernel_rfl) (by kernel_rfl) rfl (fun _ _ _ h => h) (Or.inl ⟨by rfl, ?_⟩) hHeld ?_
      rotate_left
      · (intro w' hSw; (try dsimp only at hSw); go_simp; (try with_reducible rfl))
      simp only [Act.put]
      refine wpAnyG_one (i := 17) (by kernel_rfl) rfl (fun K hK => ?_)
      go_simp
      refine hK.out _ _ (fun _ => keepS _ (hbY.alloc (Nat.le_trans hszd hz2') _)) (fun hHeld => ?_)
      have hHeld := hHeld (by decide)
      clear hK K
      try simp only [Act.put, List.setIfInBounds_toArray, List.set_cons_zero, List.set_cons_succ]
      refine wpAnyG_one (i := 18) (by kernel_rfl) rfl (fun K hK => ?_)
      refine step_sec wr.drew w2 (by rfl) (.tmp 14) (.tmp 30) (by rfl) (w.heap.size + 3) A1 k c1 Q (by rfl) (OD.out.below hbX) A2 ni c2 bad t HBY.out (owns_base hown2 hszd) (by rfl) (by omega) hbY hszd ?_
      intro g4 c4 w4 hO4 hb4 hg4
      have x3 := X3.out.below hb4 (by omega)
      have l4 := x3.cell 0
      have f4 := x3.free 0
      simp only [List.getElem?_cons_zero] at l4
      refine hK.out _ _ (fun _ => keepS _ hb4) (fun hHeld => ?_)
      have hHeld := hHeld (by decide)
      clear hK K
      try simp only [Act.put, List.setIfInBounds_toArray]
      refine wpAnyG_take (i := 19) (v := ?_) rfl (by kernel_rfl) (by kernel_rfl) (by kernel_rfl) (by kernel_rfl) (by kernel_rfl) rfl (fun _ _ _ h => h) (Or.inl ⟨by rfl, ?_⟩) hHeld ?_
      rotate_left
      · (intro w' hSw; (try dsimp only at hSw); go_simp; (try with_reducible rfl))
      simp only [Act.put]
      refine wpAnyG_one (i := 20) (by kernel_rfl) rfl (fun K hK => ?_)
      go_simp
      refine hK.out _ _ (fun h => absurd rfl h) (fun _ => ?_)
      clear hK K
      refine wpAnyG_done (by kernel_rfl) ?_ _
      have E4 := Lib.hid (hO4.box x3 (by decide) (by decide) 0 (.slice (some ⟨g4, 0, none⟩) (k + 1) c4))
      have Z1 := Lib.hid ((X1.out.below hb4 (by omega)).away (g' := w.heap.size + 1 + 1) (by omega) 0 (.slice (some ⟨g4, 0, none⟩) (k + 1) c4))
      have Z2 := Lib.hid ((X2.out.below hb4 (by omega)).away (g' := w.heap.size + 1 + 1) (by omega) 0 (.slice (some ⟨g4, 0, none⟩) (k + 1) c4))
      have Z3 := Lib.hid (x3.set 0 (.slice (some ⟨g4, 0, none⟩) (k + 1) c4))
      have B4 := Lib.hid (((BD.out.trans ((below_base hb4 (show w.heap.size ≤ w.heap.size + 3 by omega))))).setCell (p := ⟨w.heap.size + 1 + 1, 0, none⟩) (show w.heap.size ≤ w.heap.size + 1 + 1 by omega) (.slice (some ⟨g4, 0, none⟩) (k + 1) c4))
      clear keepS hHeld hO4 hb4 hg4 x3 l4 f4 hown2 hbX hbY hz2'
      go_wp2
      go_roundw
      case rel => exact ⟨k + 1, by omega, by go_num, _, _, by rw [HST.out]; exact E4.out, Z1.out, Z2.out, Z3.out, B4.out⟩
      case measure => simp [intOf]; omega
    · have hkn' : n = k := by omega
      subst hkn'
      rw [TF1.out] at hO
      have OS := Lib.hid hO
      have Y1 := Lib.hid hx1
      have Y2 := Lib.hid hx2
      have Y3 := Lib.hid hx3
      have B1 := Lib.hid hB
      obtain ⟨A0, hA0⟩ : ∃ x, x = A1 := ⟨_, rfl⟩
      obtain ⟨c0, hc0⟩ : ∃ x, x = c1 := ⟨_, rfl⟩
      rw [← hA0, ← hc0] at OS Y3
      clear hO hx1 hx2 hx3 hB hA0 hc0
      go_wp2
      go_loopw [5] (fun i wr => ∃ j : Nat, j ≤ n' ∧ i = .int .i64 j ∧ ∃ A1 c1, OwnPnds wr (w.heap.size + 3) A1 j c1 (C.take j) ∧ OwnSecs wr (w.heap.size + 3) A0 n c0 S ∧ Blk wr w.heap.size 37 [.slice A n c, .slice A' n' c'] ∧ Blk wr (w.heap.size + 1) 37 [.slice none 0 0, .slice none 0 0] ∧ Blk wr (w.heap.size + 1 + 1) 37 [.slice A0 n c0, .slice A1 j c1] ∧ Below w.heap.size w wr) (fun i _ => n' - (intOf i).toNat)
      case atStart => exact ⟨0, Nat.zero_le _, rfl, none, 0, OwnPnds.nil _ _, OS.out, Y1.out, Y2.out, Y3.out, B1.out⟩
      case round =>
        obtain ⟨j, hk, rfl, A1, c1, hO, hOS, hx1, hx2, hx3, hB⟩ := hrel
        have q0 := hx1.cell 1
        simp only [List.getElem?_cons_zero, List.getElem?_cons_succ] at q0
        by_cases hkn : j < n'
        · have hki : (j : Int) < (n' : Int) := by omega
          obtain ⟨b, o, Ai, ni, ci, rfl, hlt, hc, hx, ha⟩ := HQ.out.pnds.at_ j hkn
          have hby := HQ.out.pnds.byte_at j
          have hsm := SM2.out j hkn
          have hst := TS2.out j hkn
          have hlen := ha.len
          obtain ⟨el, hel⟩ : ∃ el, el = C.getD j (0, []) := ⟨_, rfl⟩
          rw [← hel] at hby hsm hst hlen hx ha
          obtain ⟨at_, t⟩ := el
          dsimp only at hby hsm hlen hx ha
          have hni : ni ≤ 100 := by rw [← hlen]; exact hsm
          obtain ⟨Q, hQ⟩ : ∃ Q, Q = C.take j := ⟨_, rfl⟩
          rw [← hQ] at hst hO
          have l0 := hx3.cell 1
          simp only [List.getElem?_cons_zero, List.getElem?_cons_succ] at l0
          have hszd : w.heap.size + 3 ≤ wr.drew.heap.size := by have := hx3.lt; show _ ≤ wr.heap.size; omega
          have HST := Lib.hid hst
          have HBY := Lib.hid hby
          have HA := Lib.hid (show Arg wr.drew .u8 Ai ni ci t from (ha.below hB).below (below_drewN (Below.refl _ _) 1))
          have OD := Lib.hid (show OwnPnds wr.drew (w.heap.size + 3) A1 j c1 Q from hO.below (below_drewN (Below.refl _ _) 1))
          have SD := Lib.hid (show OwnSecs wr.drew (w.heap.size + 3) A0 n c0 S from hOS.below (below_drewN (Below.refl _ _) 1))
          have BD := Lib.hid (show Below w.heap.size w wr.drew from below_drewN hB 1)
          have X1 := Lib.hid (show Blk wr.drew w.heap.size 37 [.slice A n c, .slice (some ⟨b, o, none⟩) n' c'] from hx1)
          have X2 := Lib.hid (show Blk wr.drew (w.heap.size + 1) 37 [.slice none 0 0, .slice none 0 0] from hx2)
          have X3 := Lib.hid (show Blk wr.drew (w.heap.size + 1 + 1) 37 [.slice A0 n c0, .slice A1 j c1] from hx3)
          have hcb := (hB.cell (p := ⟨b, o + j * 2 + 1, none⟩) hlt).trans hc
          have hxb := (hB.cell (p := ⟨b, o + j * 2, none⟩) hlt).trans hx
          have keepS : ∀ wx, Below (w.heap.size + 3) wr.drew wx → wx.cell? ⟨w.heap.size, 1, none⟩ = some (.slice (some ⟨b, o, none⟩) n' c') ∧ wx.cell? ⟨b, o + j * 2 + 1, none⟩ = some (.slice Ai ni ci) ∧ wx.cell? ⟨b, o + j * 2, none⟩ = some (.int .i64 at_) ∧ wx.cell? ⟨w.heap.size + 1 + 1, 1, none⟩ = some (.slice A1 j c1) := fun wx hx =>
            ⟨(hx.cell (p := ⟨w.heap.size, 1, none⟩) (by show w.heap.size < _; omega)).trans q0, (hx.cell (p := ⟨b, o + j * 2 + 1, none⟩) (by show b < _; omega)).trans hcb, (hx.cell (p := ⟨b, o + j * 2, none⟩) (by show b < _; omega)).trans hxb, (hx.cell (p := ⟨w.heap.size + 1 + 1, 1, none⟩) (by show w.heap.size + 1 + 1 < _; omega)).trans l0⟩
          have hHeld := keepS wr.drew (Below.refl _ _)
          clear hel hQ hst hby hsm hlen hx ha hO hx1 hx2 hx3 hB hc hcb hxb hOS
          go_wp2_with fail
          refine wp_region_to 20 (fun w' => w'.cell? ⟨w.heap.size, 1, none⟩ = some (.slice (some ⟨b, o, none⟩) n' c') ∧ w'.cell? ⟨b, o + j * 2 + 1, none⟩ = some (.slice Ai ni ci) ∧ w'.cell? ⟨b, o + j * 2, none⟩ = some (.int .i64 at_) ∧ w'.cell? ⟨w.heap.size + 1 + 1, 1, none⟩ = some (.slice A1 j c1)) (by kernel_rfl) ?_
          refine wpAnyG_take (i := 0) (v := ?_) rfl (by kernel_rfl) (by kernel_rfl) (by kernel_rfl) (by kernel_rfl) (by kernel_rfl) rfl (fun _ _ _ h => h) (Or.inl ⟨by rfl, ?_⟩) hHeld ?_
          rotate_left
          · (intro w' hSw; (try dsimp only at hSw); go_simp; (try with_reducible rfl))
          simp only [Act.put, List.setIfInBounds_toArray]
          refine wpAnyG_take (i := 1) (v := ?_) rfl (by kernel_rfl) (by kernel_rfl) (by kernel_rfl) (by kernel_rfl) (by kernel_rfl) rfl (fun _ _ _ h => h) (Or.inl ⟨by rfl, ?_⟩) hHeld ?_
          rotate_left
          · (intro w' hSw; (try dsimp only at hSw); go_simp; (try with_reducible rfl))
          simp only [Act.put]
          refine wpAnyG_take (i := 2) (v := ?_) rfl (by kernel_rfl) (by kernel_rfl) (by kernel_rfl) (by kernel_rfl) (by kernel_rfl) rfl (fun _ _ _ h => h) (Or.inl ⟨by rfl, ?_⟩) hHeld ?_
          rotate_left
          · (intro w' hSw; (try dsimp only at hSw); go_simp; (try with_reducible rfl))
          simp only [Act.put]
          refine wpAnyG_take (i := 3) (v := ?_) rfl (by kernel_rfl) (by kernel_rfl) (by kernel_rfl) (by kernel_rfl) (by kernel_rfl) rfl (fun _ _ _ h => h) (Or.inl ⟨by rfl, ?_⟩) hHeld ?_
          rotate_left
          · (intro w' hSw; (try dsimp only at hSw); go_simp; (try with_reducible rfl))
          simp only [Act.put]
          refine wpAnyG_take (i := 4) (v := ?_) rfl (by kernel_rfl) (by kernel_rfl) (by kernel_rfl) (by kernel_rfl) (by kernel_rfl) rfl (fun _ _ _ h => h) (Or.inl ⟨by rfl, ?_⟩) hHeld ?_
          rotate_left
          · (intro w' hSw; (try dsimp only at hSw); go_simp; (try with_reducible rfl))
          simp only [Act.put]
          refine wpAnyG_take (i := 5) (v := ?_) rfl (by kernel_rfl) (by kernel_rfl) (by kernel_rfl) (by kernel_rfl) (by kernel_rfl) rfl (fun _ _ _ h => h) (Or.inl ⟨by rfl, ?_⟩) hHeld ?_
          rotate_left
          · (intro w' hSw; (try dsimp only at hSw); go_simp; (try with_reducible rfl))
          simp only [Act.put]
          refine wpAnyG_take (i := 6) (v := ?_) rfl (by kernel_rfl) (by kernel_rfl) (by kernel_rfl) (by kernel_rfl) (by kernel_rfl) rfl (fun _ _ _ h => h) (Or.inl ⟨by rfl, ?_⟩) hHeld ?_
          rotate_left
          · (intro w' hSw; (try dsimp only at hSw); go_simp; (try with_reducible rfl))
          simp only [Act.put]
          refine wpAnyG_take (i := 7) (v := ?_) rfl (by kernel_rfl) (by kernel_rfl) (by kernel_rfl) (by kernel_rfl) (by kernel_rfl) rfl (fun _ _ _ h => h) (Or.inl ⟨by rfl, ?_⟩) hHeld ?_
          rotate_left
          · (intro w' hSw; (try dsimp only at hSw); go_simp; (try with_reducible rfl))
          simp only [Act.put]
          refine wpAnyG_take (i := 9) (v := ?_) rfl (by kernel_rfl) (by kernel_rfl) (by kernel_rfl) (by kernel_rfl) (by kernel_rfl) rfl (fun _ _ _ h => h) (Or.inl ⟨by rfl, ?_⟩) hHeld ?_
          rotate_left
          · (intro w' hSw; (try dsimp only at hSw); go_simp; (try with_reducible rfl))
          simp only [Act.put]
          refine wpAnyG_take (i := 10) (v := ?_) rfl (by kernel_rfl) (by kernel_rfl) (by kernel_rfl) (by kernel_rfl) (by kernel_rfl) rfl (fun _ _ _ h => h) (Or.inl ⟨by rfl, ?_⟩) hHeld ?_
          rotate_left
          · (intro w' hSw; (try dsimp only at hSw); go_simp; (try with_reducible rfl))
          simp only [Act.put]
          refine wpAnyG_take (i := 11) (v := ?_) rfl (by kernel_rfl) (by kernel_rfl) (by kernel_rfl) (by kernel_rfl) (by kernel_rfl) rfl (fun _ _ _ h => h) (Or.inl ⟨by rfl, ?_⟩) hHeld ?_
          rotate_left
          · (intro w' hSw; (try dsimp only at hSw); go_simp; (try with_reducible rfl))
          simp only [Act.put]
          refine wpAnyG_take (i := 12) (v := ?_) rfl (by kernel_rfl) (by kernel_rfl) (by kernel_rfl) (by kernel_rfl) (by kernel_rfl) rfl (fun _ _ _ h => h) (Or.inl ⟨by rfl, ?_⟩) hHeld ?_
          rotate_left
          · (intro w' hSw; (try dsimp only at hSw); go_simp; (try with_reducible rfl))
          simp only [Act.put]
          refine wpAnyG_take (i := 13) (v := ?_) rfl (by kernel_rfl) (by kernel_rfl) (by kernel_rfl) (by kernel_rfl) (by kernel_rfl) rfl (fun _ _ _ h => h) (Or.inl ⟨by rfl, ?_⟩) hHeld ?_
          rotate_left
          · (intro w' hSw; (try dsimp only at hSw); go_simp; (try with_reducible rfl))
          simp only [Act.put]
          refine wpAnyG_take (i := 14) (v := ?_) rfl (by kernel_rfl) (by kernel_rfl) (by kernel_rfl) (by kernel_rfl) (by kernel_rfl) rfl (fun _ _ _ h => h) (Or.inl ⟨by rfl, ?_⟩) hHeld ?_
          rotate_left
          · (intro w' hSw; (try dsimp only at hSw); go_simp; (try with_reducible rfl))
          simp only [Act.put]
          refine wpAnyG_one (i := 8) (by kernel_rfl) rfl (fun K hK => ?_)
          go_simp
          refine hK.out _ _ (fun _ => keepS _ ((Below.refl _ _).alloc hszd _)) (fun hHeld => ?_)
          have hHeld := hHeld (by decide)
          clear hK K
          try simp only [Act.put, List.setIfInBounds_toArray, List.set_cons_zero, List.set_cons_succ]
          refine wpAnyG_one (i := 15) (by kernel_rfl) rfl (fun K hK => ?_)
          refine step_dup_g wr.drew (by rfl) (.tmp 48) (.tmp 54) _ (by rfl) 5 i0 _ 1 Try.underlying22 hi0 hz0 hz1 hz2 rfl (by rfl) Ai ni ci (ints .u8 t) (by rfl) (by rw [ints_length, HA.out.len]) HA.out.seq (ints_one _ _) (by omega) (by omega) ?_
          intro A2 c2 w2 hown2 hbX
          have hbY := hbX.mono hszd
          have hz2' := hbX.size
          refine hK.out _ _ (fun _ => keepS _ hbY) (fun hHeld => ?_)
          have hHeld := hHeld (by decide)
          clear hK K
          try simp only [Act.put, List.setIfInBounds_toArray]
          refine wpAnyG_take (i := 16) (v := ?_) rfl (by kernel_rfl) (by kernel_rfl) (by kernel_rfl) (by kernel_rfl) (by kernel_rfl) rfl (fun _ _ _ h => h) (Or.inl ⟨by rfl, ?_⟩) hHeld ?_
          rotate_left
          · (intro w' hSw; (try dsimp only at hSw); go_simp; (try with_reducible rfl))
          simp only [Act.put]
          refine wpAnyG_one (i := 17) (by kernel_rfl) rfl (fun K hK => ?_)
          go_simp
          refine hK.out _ _ (fun _ => keepS _ (hbY.alloc (Nat.le_trans hszd hz2') _)) (fun hHeld => ?_)
          have hHeld := hHeld (by decide)
          clear hK K
          try simp only [Act.put, List.setIfInBounds_toArray, List.set_cons_zero, List.set_cons_succ]
          refine wpAnyG_one (i := 18) (by kernel_rfl) rfl (fun K hK => ?_)
          refine step_pnd wr.drew w2 (by rfl) (.tmp 41) (.tmp 57) (by rfl) (w.heap.size + 3) A1 j c1 Q (by rfl) (OD.out.below hbX) A2 ni c2 at_ t HBY.out (owns_base hown2 hszd) (by rfl) (by omega) hbY hszd ?_
          intro g4 c4 w4 hO4 hb4 hg4
          have x3 := X3.out.below hb4 (by omega)
          have l4 := x3.cell 1
          have f4 := x3.free 1
          simp only [List.getElem?_cons_zero, List.getElem?_cons_succ] at l4
          refine hK.out _ _ (fun _ => keepS _ hb4) (fun hHeld => ?_)
          have hHeld := hHeld (by decide)
          clear hK K
          try simp only [Act.put, List.setIfInBounds_toArray]
          refine wpAnyG_take (i := 19) (v := ?_) rfl (by kernel_rfl) (by kernel_rfl) (by kernel_rfl) (by kernel_rfl) (by kernel_rfl) rfl (fun _ _ _ h => h) (Or.inl ⟨by rfl, ?_⟩) hHeld ?_
          rotate_left
          · (intro w' hSw; (try dsimp only at hSw); go_simp; (try with_reducible rfl))
          simp only [Act.put]
          refine wpAnyG_one (i := 20) (by kernel_rfl) rfl (fun K hK => ?_)
          go_simp
          refine hK.out _ _ (fun h => absurd rfl h) (fun _ => ?_)
          clear hK K
          refine wpAnyG_done (by kernel_rfl) ?_ _
          have E4 := Lib.hid (hO4.box x3 (by decide) (by decide) 1 (.slice (some ⟨g4, 0, none⟩) (j + 1) c4))
          have Z1 := Lib.hid ((X1.out.below hb4 (by omega)).away (g' := w.heap.size + 1 + 1) (by omega) 1 (.slice (some ⟨g4, 0, none⟩) (j + 1) c4))
          have Z2 := Lib.hid ((X2.out.below hb4 (by omega)).away (g' := w.heap.size + 1 + 1) (by omega) 1 (.slice (some ⟨g4, 0, none⟩) (j + 1) c4))
          have Z3 := Lib.hid (x3.set 1 (.slice (some ⟨g4, 0, none⟩) (j + 1) c4))
          have B4 := Lib.hid (((BD.out.trans ((below_base hb4 (show w.heap.size ≤ w.heap.size + 3 by omega))))).setCell (p := ⟨w.heap.size + 1 + 1, 1, none⟩) (show w.heap.size ≤ w.heap.size + 1 + 1 by omega) (.slice (some ⟨g4, 0, none⟩) (j + 1) c4))
          have S4 := Lib.hid ((((SD.out.below hbX).below ((Below.refl _ _).alloc (Nat.le_refl _) _)).beside (OD.out.below hbX |>.below ((Below.refl _ _).alloc (Nat.le_refl _) _)) hg4).box x3 (by decide) (by decide) 1 (.slice (some ⟨g4, 0, none⟩) (j + 1) c4))
          clear keepS hHeld hO4 hb4 hg4 x3 l4 f4 hown2 hbX hbY hz2'
          go_wp2
          go_roundw
          case rel => exact ⟨j + 1, by omega, by go_num, _, _, by rw [HST.out]; exact E4.out, S4.out, Z1.out, Z2.out, Z3.out, B4.out⟩
          case measure => simp [intOf]; omega
        · obtain rfl : j = n' := by omega
          rw [TF2.out] at hO
          have e0 := hx3.cell 0
          have e1 := hx3.cell 1
          have r0 := hx2.cell 0
          have r1 := hx2.cell 1
          have g0 := hx2.free 0
          have g1 := hx2.free 1
          simp only [List.getElem?_cons_zero, List.getElem?_cons_succ] at e0 e1 r0 r1
          have OD := Lib.hid (show OwnDsk wr (w.heap.size + 3) A0 n c0 A1 j c1 S C from ⟨hOS, hO⟩)
          have R2 := Lib.hid hx2
          have BB := Lib.hid hB
          clear hO hOS hx1 hx2 hx3 hB
          go_wp2
          have z := R2.out.two (.slice A0 n c0) (.slice A1 j c1)
          have z0 := z.cell 0
          have z1 := z.cell 1
          simp only [List.getElem?_cons_zero, List.getElem?_cons_succ] at z0 z1
          have O3 := OD.out.two R2.out (.slice A0 n c0) (.slice A1 j c1)
          have B3 := below_two BB.out (show w.heap.size ≤ w.heap.size + 1 by omega) (.slice A0 n c0) (.slice A1 j c1)
          refine bodyPost_ret (v := diskV A0 n c0 A1 j c1) ?_ rfl ⟨A0, c0, A1, c1, rfl, O3.lower (by omega), B3⟩
          clear e0 e1 r0 r1 g0 g1
          simp [results, Try.f18, go_sem, z0, z1]

end Go.Proofs.Ytiibmlbenamgcaa

namespace Go.Proofs.Ytiibmlbenamgcaa
open Go.RowKit
set_option linter.unusedVariables false

/-- What a call hands back beside a number: bytes of its own. -/
def BytesOut (w : World) (b : Txt) (E : Int) (e : Ending) (w' : World) : Prop :=
  ∃ A c, e = .returned (.tuple #[.slice A b.length c, .int .i64 E]) ∧ w'.ownsRow w.heap.size 5 1 (.slice A b.length c) b.length (ints .u8 b) ∧ Below w.heap.size w w'

theorem pend_hit {C : List Pnd} {at_ : Int} {k : Nat} (hk : k < C.length) (h : (C.getD k (0, [])).1 = at_) : pendB C at_ = true := by
  unfold pendB
  rw [List.any_eq_true]
  rw [List.getD_eq_getElem?_getD, List.getElem?_eq_getElem hk, Option.getD_some] at h
  exact ⟨C[k], List.getElem_mem hk, by rw [h]; simp⟩
theorem pend_none {C : List Pnd} {at_ : Int} (h : ∀ y, y < C.length → (C.getD y (0, [])).1 ≠ at_) : pendB C at_ = false := by
  unfold pendB
  rw [List.any_eq_false]
  intro p hp
  obtain ⟨k, hk, rfl⟩ := List.getElem_of_mem hp
  have := h k hk
  rw [List.getD_eq_getElem?_getD, List.getElem?_eq_getElem hk, Option.getD_some] at this
  simpa using this
theorem lastW_none {C : List Pnd} {at_ : Int} (h : ∀ y, y < C.length → (C.getD y (0, [])).1 ≠ at_) : lastW C at_ = none := by
  unfold lastW
  rw [show C.reverse.find? (fun p => decide (p.1 = at_)) = none from ?_]
  · rfl
  · rw [List.find?_eq_none]
    intro p hp
    obtain ⟨k, hk, rfl⟩ := List.getElem_of_mem (List.mem_reverse.1 hp)
    have := h k hk
    rw [List.getD_eq_getElem?_getD, List.getElem?_eq_getElem hk, Option.getD_some] at this
    simpa using this
theorem lastW_hit {C : List Pnd} {at_ : Int} {j : Nat} (hj : j < C.length) (h1 : (C.getD j (0, [])).1 = at_) (h : ∀ y, j < y → y < C.length → (C.getD y (0, [])).1 ≠ at_) : lastW C at_ = some (C.getD j (0, [])).2 := by
  unfold lastW
  have e : C = C.take j ++ (C[j] :: C.drop (j + 1)) := by
    rw [← List.drop_eq_getElem_cons hj, List.take_append_drop]
  have eg : C.getD j (0, []) = C[j] := by rw [List.getD_eq_getElem?_getD, List.getElem?_eq_getElem hj, Option.getD_some]
  rw [eg] at h1 ⊢
  have hd : (C.drop (j + 1)).reverse.find? (fun p => decide (p.1 = at_)) = none := by
    rw [List.find?_eq_none]
    intro p hp
    obtain ⟨k, hk, rfl⟩ := List.getElem_of_mem (List.mem_reverse.1 hp)
    rw [List.length_drop] at hk
    have := h (j + 1 + k) (by omega) (by omega)
    rw [List.getD_eq_getElem?_getD, List.getElem?_eq_getElem (by omega), Option.getD_some] at this
    rw [List.getElem_drop]
    simpa using this
  have hr : C.reverse = (C.drop (j + 1)).reverse ++ ([C[j]] ++ (C.take j).reverse) := by
    conv => lhs; rw [e]
    simp
  rw [hr, List.find?_append, hd, List.find?_append]
  simp [h1]

set_option maxRecDepth 100000 in
set_option maxHeartbeats 3200000 in
theorem got_any (A : Option Addr) (n c : Nat) (A' : Option Addr) (n' c' : Nat) (S : List Sec) (C : List Pnd) (a : Nat) (w : World) (hq : Dsk w A n c A' n' c' S C) (hs : SmallD S C) (han : a < n) :
    Calls Try.prog 78 #[diskV A n c A' n' c', .int .i64 (a : Int)] w fun e w' => ∃ B d, e = .returned (.tuple #[.slice B (gotB S C a).length d, .bool (gotOk S C a)]) ∧ w'.ownsRow w.heap.size 5 1 (.slice B (gotB S C a).length d) (gotB S C a).length (ints .u8 (gotB S C a)) ∧ Below w.heap.size w w' := by
  obtain ⟨i0, hi0, hz0, hz1, hz2⟩ := info_parts byte_info
  have hml : (1000 : Nat) ≤ maxLen := by decide
  have hbel : Below w.heap.size w (w.alloc (.cells #[.slice A n c, .slice A' n' c'] 37)) := (Below.refl _ _).alloc (Nat.le_refl _) _
  have HQ := hq.below hbel
  obtain ⟨c0, c1⟩ := box_disk w A n c A' n' c'
  have hl := hq.secs.len
  have hl' := hq.pnds.len
  have hn' := hs.pnds
  rw [hl'] at hn'
  have SM1 := Lib.hid (show (S.getD a (false, [])).2.length ≤ 100 from by
    have hk' : a < S.length := by rw [hl]; exact han
    rw [List.getD_eq_getElem?_getD, List.getElem?_eq_getElem hk', Option.getD_some]
    exact hs.long _ (List.getElem_mem hk'))
  have SM2 := Lib.hid fun k (hk : k < n') => (show (C.getD k (0, [])).2.length ≤ 100 from by
    have hk' : k < C.length := by rw [hl']; exact hk
    rw [List.getD_eq_getElem?_getD, List.getElem?_eq_getElem hk', Option.getD_some]
    exact hs.wide _ (List.getElem_mem hk'))
  have hhit : ∀ j, j < n' → (C.getD j (0, [])).1 = (a : Int) → (∀ y, j < y → y < n' → (C.getD y (0, [])).1 ≠ (a : Int)) → gotB S C a = (C.getD j (0, [])).2 ∧ gotOk S C a = true := fun j hj h1 h2 => by
    have := lastW_hit (C := C) (at_ := (a : Int)) (j := j) (by omega) h1 (fun y hy hy2 => h2 y hy (by omega))
    unfold gotB gotOk
    rw [this]
    exact ⟨rfl, rfl⟩
  have hnone : (∀ y, y < n' → (C.getD y (0, [])).1 ≠ (a : Int)) → gotB S C a = (S.getD a (false, [])).2 ∧ gotOk S C a = !(S.getD a (false, [])).1 := fun h1 => by
    have := lastW_none (C := C) (at_ := (a : Int)) (fun y hy => h1 y (by omega))
    unfold gotB gotOk secAt
    rw [this, Int.toNat_natCast]
    exact ⟨rfl, rfl⟩
  have HIT := Lib.hid hhit
  have NONE := Lib.hid hnone
  have hsz1 : (w.alloc (.cells #[.slice A n c, .slice A' n' c'] 37)).heap.size = w.heap.size + 1 := World.size_alloc _ _
  obtain ⟨B, hB⟩ : ∃ B, B = gotB S C a := ⟨_, rfl⟩
  obtain ⟨K, hK⟩ : ∃ K, K = gotOk S C a := ⟨_, rfl⟩
  rw [← hB, ← hK] at HIT NONE ⊢
  obtain ⟨w1, hw1⟩ : ∃ w1, w1 = w.alloc (.cells #[.slice A n c, .slice A' n' c'] 37) := ⟨_, rfl⟩
  rw [← hw1] at hbel HQ c0 c1 hsz1
  have HQ := Lib.hid HQ
  have BEL := Lib.hid hbel
  have HZ1 := Lib.hid hsz1
  have hw64 : ∀ k : Nat, k ≤ 100 → IntKind.i64.wrap ((k : Int) - 1) = (k : Int) - 1 := fun k hk => by
    cases k with
    | zero => rfl
    | succ k => have := Lib.wrap_i64_small k (by omega); rw [show ((k + 1 : Nat) : Int) - 1 = (k : Int) by omega]; exact this
  have HW := Lib.hid hw64
  clear hq hbel hl hl' hhit hnone hs hB hK hsz1 hw64
  have hwn := HW.out n' (by omega)
  go_enter Try.func78, Try.ntmps78
  go_wp2
  rw [← hw1]
  clear hw1 hwn
  go_loop [6] (fun i => ∃ k : Nat, k ≤ n' ∧ i = .int .i64 ((k : Int) - 1) ∧ ∀ y, k ≤ y → y < n' → (C.getD y (0, [])).1 ≠ (a : Int)) (fun i => ((intOf i) + 1).toNat)
  case atStart => exact ⟨n', Nat.le_refl _, rfl, fun y h1 h2 => by omega⟩
  case round =>
    obtain ⟨k, hk, rfl, hall⟩ := hrel
    have ALL := Lib.hid hall
    clear hall
    by_cases hk0 : k = 0
    · subst hk0
      obtain ⟨b, o, Ai, ni, ci, rfl, hlt, hc, hx, ha⟩ := HQ.out.secs.at_ a han
      obtain ⟨e1, e2⟩ := NONE.out (fun y hy => ALL.out y (Nat.zero_le _) hy)
      have hlen := ha.len
      have hsm := SM1.out
      obtain ⟨sec, hsec⟩ : ∃ sec, sec = S.getD a (false, []) := ⟨_, rfl⟩
      rw [← hsec] at e1 e2 hlen hsm hx ha
      obtain ⟨bad, t⟩ := sec
      dsimp only at e1 e2 hlen hsm hx ha
      have E1 := Lib.hid e1
      have E2 := Lib.hid e2
      have HA := Lib.hid (show Arg w1.drew .u8 Ai ni ci t from ha.below (below_drewN (Below.refl _ _) 1))
      have hni : ni ≤ 100 := by rw [← hlen]; exact hsm
      have hai : (a : Int) < (n : Int) := by omega
      have hblt := hlt
      have keepX : ∀ wx, Below w1.drew.heap.size w1.drew wx → wx.cell? ⟨w.heap.size, 0, none⟩ = some (.slice (some ⟨b, o, none⟩) n c) ∧ wx.cell? ⟨b, o + a * 2, none⟩ = some (.slice Ai ni ci) ∧ wx.cell? ⟨b, o + a * 2 + 1, none⟩ = some (.bool bad) := fun wx hx' =>
        ⟨(hx'.cell (p := ⟨w.heap.size, 0, none⟩) (by show w.heap.size < w1.heap.size; rw [HZ1.out]; exact Nat.lt_succ_self _)).trans c0, (hx'.cell (p := ⟨b, o + a * 2, none⟩) hblt).trans hc, (hx'.cell (p := ⟨b, o + a * 2 + 1, none⟩) hblt).trans hx⟩
      clear hsec e1 e2 hlen hsm ha
      go_wp2_with fail
      have hkX := keepX _ (Below.refl _ _)
      go_region_held3 (fun w' => w'.cell? ⟨w.heap.size, 0, none⟩ = some (.slice (some ⟨b, o, none⟩) n c) ∧ w'.cell? ⟨b, o + a * 2, none⟩ = some (.slice Ai ni ci) ∧ w'.cell? ⟨b, o + a * 2 + 1, none⟩ = some (.bool bad))
        (first | exact hkX | go_keep)
        ((refine step_dup_g w1.drew (by rfl) (.tmp 31) (.tmp 37) _ (by rfl) 5 i0 _ 1 Try.underlying22 hi0 hz0 hz1 hz2 rfl (by rfl) Ai ni ci (ints .u8 t) (by rfl) (by rw [ints_length, HA.out.len]) HA.out.seq (ints_one _ _) (by omega) (by omega) ?_; intro A2 c2 w2 hown2 hbX; have hkX := keepX w2 hbX))
      have O2 := Lib.hid hown2
      have B2 := Lib.hid ((below_drewN BEL.out 1).trans (hbX.mono (show w.heap.size ≤ w1.heap.size by rw [HZ1.out]; exact Nat.le_succ _)))
      have hbase : w.heap.size ≤ w1.heap.size := by rw [HZ1.out]; exact Nat.le_succ _
      clear hown2 hbX keepX hkX hc hx c0 c1
      go_wp2
      go_ret2
      have hl2 := HA.out.len
      rw [E1.out, E2.out, hl2]
      exact ⟨A2, c2, rfl, owns_base O2.out hbase, B2.out⟩
    · obtain ⟨j, rfl⟩ : ∃ j, k = j + 1 := ⟨k - 1, by omega⟩
      rw [show ((j + 1 : Nat) : Int) - 1 = (j : Int) by omega]
      have hjn : j < n' := by omega
      have hji : (j : Int) < (n' : Int) := by omega
      obtain ⟨b, o, Ai, ni, ci, rfl, hlt, hc, hx, ha⟩ := HQ.out.pnds.at_ j hjn
      have hj := HIT.out j hjn
      have hsm := SM2.out j hjn
      have hlen := ha.len
      obtain ⟨pnd, hpnd⟩ : ∃ p, p = C.getD j (0, []) := ⟨_, rfl⟩
      rw [← hpnd] at hj hsm hlen hx ha
      have HP := Lib.hid hpnd
      obtain ⟨p, t⟩ := pnd
      dsimp only at hj hsm hlen hx ha
      have HJ := Lib.hid hj
      have hni : ni ≤ 100 := by rw [← hlen]; exact hsm
      have HA := Lib.hid ha
      clear hpnd hj hsm hlen ha hk0 hk
      by_cases hpa : p = (a : Int)
      · obtain ⟨e1, e2⟩ := HJ.out hpa (fun y h1 h2 => ALL.out y h1 h2)
        have E1 := Lib.hid e1
        have E2 := Lib.hid e2
        subst hpa
        have c1a := (World.cell?_alloc_lt w1 (.cells #[] 5) ⟨w.heap.size, 1, none⟩ (by show w.heap.size < w1.heap.size; rw [HZ1.out]; exact Nat.lt_succ_self _)).trans c1
        have hca := (World.cell?_alloc_lt w1 (.cells #[] 5) ⟨b, o + j * 2 + 1, none⟩ hlt).trans hc
        clear e1 e2
        go_wp2_with (at_builtin; (refine wpList_dup_g w1 rfl (.tmp 23) (.tmp 29) _ rfl 5 i0 _ 1 Try.underlying22 hi0 hz0 hz1 hz2 rfl rfl Ai ni ci (ints .u8 t) rfl (by rw [ints_length, HA.out.len]) HA.out.seq (ints_one _ _) (by omega) (by omega) ?_); intro A2 c2 w2 hown2 hbX; have O2 := Lib.hid hown2; have B2 := Lib.hid (BEL.out.trans (hbX.mono (show w.heap.size ≤ w1.heap.size by rw [HZ1.out]; exact Nat.le_succ _))); clear hown2 hbX)
        go_ret2
        have hl2 := HA.out.len
        have hbase : w.heap.size ≤ w1.heap.size := by rw [HZ1.out]; exact Nat.le_succ _
        rw [E1.out, E2.out, hl2]
        exact ⟨A2, c2, rfl, owns_base O2.out hbase, B2.out⟩
      · have hq2 : (p == (a : Int)) = false := beq_eq_false_iff_ne.2 hpa
        have HN := Lib.hid hpa
        have hwj := HW.out j (by omega)
        clear hpa
        go_wp2
        go_round
        case rel =>
          refine ⟨j, by omega, by go_num, fun y h1 h2 => ?_⟩
          rcases Nat.lt_or_ge j y with h' | h'
          · exact ALL.out y h' h2
          · obtain rfl : y = j := by omega
            rw [← HP.out]
            exact HN.out
        case measure => simp [intOf]

theorem ask_zero {S : List Sec} {C : List Pnd} {at_ : Int} (h : askE S C at_ = 0) : mayD S C = true ∧ ∃ a : Nat, at_ = a ∧ a < S.length := by
  unfold askE at h
  cases hR : mayD S C with
  | false => rw [hR] at h; simp at h
  | true =>
    rw [hR] at h
    simp only [if_true] at h
    by_cases hx : at_ < 0 ∨ (S.length : Int) ≤ at_
    · rw [if_pos hx] at h; omega
    · exact ⟨rfl, at_.toNat, by omega, by omega⟩

end Go.Proofs.Ytiibmlbenamgcaa

namespace Go.Proofs.Ytiibmlbenamgcaa
open Go.RowKit
set_option linter.unusedVariables false

/-- What a call hands back beside a number: a disk of its own. -/
def DiskOut (w : World) (S : List Sec) (C : List Pnd) (E : Int) (e : Ending) (w' : World) : Prop :=
  ∃ A c A' c', e = .returned (.tuple #[diskV A S.length c A' C.length c', .int .i64 E]) ∧ OwnDsk w' w.heap.size A S.length c A' C.length c' S C ∧ Below w.heap.size w w'

end Go.Proofs.Ytiibmlbenamgcaa

namespace Go.Proofs.Ytiibmlbenamgcaa
open Go.RowKit
set_option linter.unusedVariables false

end Go.Proofs.Ytiibmlbenamgcaa

namespace Go.Proofs.Ytiibmlbenamgcaa
open Go.RowKit
set_option linter.unusedVariables false

theorem byFate_len (S : List Sec) (p : Pnd) (f : Int) : (byFate S p f).length = S.length := by unfold byFate; split <;> (try split) <;> simp
theorem behindK_len (S : List Sec) (C : List Pnd) (F : List Int) (k : Nat) : (behindK S C F k).length = S.length := by
  induction k with
  | zero => rfl
  | succ k ih => unfold behindK; rw [byFate_len, ih]
theorem make_bytes (n : Nat) (hn : n ≤ 1000) (w : World) :
    (Instr.makeSlice 22 (.int .i64 (n : Int)) (.int .i64 (n : Int))).run Try.prog w = .ok (.slice (some ⟨w.heap.size, 0, none⟩) n n) (w.alloc (.cells (List.replicate n (.int .u8 0)).toArray 5)) := by
  obtain ⟨i0, hi0, hz0, hz1, hz2⟩ := info_parts byte_info
  have hml : (1000 : Nat) ≤ maxLen := by decide
  exact run_make1 (P := Try.prog) 22 5 i0 _ Try.underlying22 hi0 hz0 hz1 rfl n (by rw [hz2]; omega) (by omega) w
theorem noughts_ints : List.replicate 32 (Value.int .u8 0) = ints .u8 noughts := by unfold noughts ints; rw [List.map_replicate]
theorem noughts_own (w : World) : (w.alloc (.cells (List.replicate 32 (.int .u8 0)).toArray 5)).ownsRow w.heap.size 5 1 (.slice (some ⟨w.heap.size, 0, none⟩) 32 32) 32 (ints .u8 noughts) := by
  have h : Blk (w.alloc (.cells (List.replicate 32 (.int .u8 0)).toArray 5)) w.heap.size 5 (List.replicate 32 (.int .u8 0)) := Blk.new w 5 _
  rw [noughts_ints] at h
  exact h.owns (Nat.le_refl _) (by simp [ints_length, noughts]) (by decide)
theorem noughts_byte : ∀ z ∈ noughts, isByte z := fun z hz => by
  rw [List.eq_of_mem_replicate hz]
  unfold isByte
  omega

end Go.Proofs.Ytiibmlbenamgcaa

namespace Go.Proofs.Ytiibmlbenamgcaa
open Go.RowKit
set_option linter.unusedVariables false

end Go.Proofs.Ytiibmlbenamgcaa
