/- Layer 5, package disk: whether sectors, and writes, may be. -/
import Derived.Test.YtkbeeknnfndjgaaDskP
namespace Go.Proofs.Ytkbeeknnfndjgaa
open Go.RowKit
set_option linter.unusedVariables false

def pndOkI (m : Int) (p : Pnd) : Bool := decide (0 ≤ p.1) && decide (p.1 < m) && decide (p.2.length = 32)
theorem all_getD {α : Type} (l : List α) (z : α) (f : α → Bool) (h : ∀ k, k < l.length → f (l.getD k z) = true) : l.all f = true := by
  rw [List.all_eq_true]
  intro s hs
  obtain ⟨k, hk, rfl⟩ := List.getElem_of_mem hs
  have := h k hk
  rwa [List.getD_eq_getElem?_getD, List.getElem?_eq_getElem hk, Option.getD_some] at this
theorem all_getD_no {α : Type} (l : List α) (z : α) (f : α → Bool) {k : Nat} (hk : k < l.length) (h : f (l.getD k z) = false) : l.all f = false := by
  rw [List.all_eq_false]
  refine ⟨l[k], List.getElem_mem hk, ?_⟩
  rw [List.getD_eq_getElem?_getD, List.getElem?_eq_getElem hk, Option.getD_some] at h
  rw [h]; simp

set_option maxRecDepth 100000 in
set_option maxHeartbeats 1600000 in
theorem areWrites_any (m : Int) (A : Option Addr) (n c : Nat) (C : List Pnd) (w : World) (h : Pnds w A n c C) :
    Calls Try.prog 53 #[.int .i64 m, .slice A n c] w fun e w' => e = .returned (.bool (C.all (pndOkI m))) ∧ Below w.heap.size w w' := by
  have hl := h.len
  have hcm := Nat.le_trans h.cap h.max
  unfold maxLen at hcm
  have YES := Lib.hid (all_getD C (0, []) (pndOkI m))
  have NO := Lib.hid (fun k => all_getD_no C (0, []) (pndOkI m) (k := k))
  rw [hl] at YES NO
  obtain ⟨R, hR⟩ : ∃ R, R = C.all (pndOkI m) := ⟨_, rfl⟩
  rw [← hR] at YES NO ⊢
  have H := Lib.hid h
  clear h hl hR
  go_enter Try.func53, Try.ntmps53
  go_wp2
  go_loopw [9] (fun i wr => ∃ k : Nat, k ≤ n ∧ i = .int .i64 k ∧ (∀ y, y < k → pndOkI m (C.getD y (0, [])) = true) ∧ Below w.heap.size w wr) (fun i _ => n - (intOf i).toNat)
  case atStart => exact ⟨0, Nat.zero_le _, rfl, fun y hy => by omega, Below.refl _ _⟩
  case round =>
    obtain ⟨k, hk, rfl, hall, hb⟩ := hrel
    have ALL := Lib.hid hall
    have B := Lib.hid hb
    by_cases hkn : k < n
    · have hki : (k : Int) < (n : Int) := by omega
      obtain ⟨b, o, Ai, ni, ci, rfl, hlt, hc, hx, ha⟩ := (H.out.below hb).at_ k hkn
      have hok : pndOkI m (C.getD k (0, [])) = (decide (0 ≤ (C.getD k (0, [])).1 ∧ (C.getD k (0, [])).1 < m) && decide (ni = 32)) := by
        unfold pndOkI
        rw [ha.len]
        simp
      obtain ⟨t, ht⟩ : ∃ t, t = (C.getD k (0, [])).1 := ⟨_, rfl⟩
      rw [← ht] at hx hok
      have NK := Lib.hid (NO.out k hkn)
      obtain ⟨P, hP⟩ : ∃ P, P = pndOkI m (C.getD k (0, [])) := ⟨_, rfl⟩
      rw [← hP] at hok NK
      have HP := Lib.hid hP
      have hcn := Nat.le_trans ha.cap ha.max
      unfold maxLen at hcn
      have I := isAt_any m t (wr.alloc (.cells #[.int .i64 t, .slice Ai ni ci] 63))
      have q0 : (wr.alloc (.cells #[.int .i64 t, .slice Ai ni ci] 63)).cell? ⟨wr.heap.size, 0, none⟩ = some (.int .i64 t) := (Blk.new wr 63 [.int .i64 t, .slice Ai ni ci]).cell 0
      have q1 : (wr.alloc (.cells #[.int .i64 t, .slice Ai ni ci] 63)).cell? ⟨wr.heap.size, 1, none⟩ = some (.slice Ai ni ci) := (Blk.new wr 63 [.int .i64 t, .slice Ai ni ci]).cell 1
      have B2 := Lib.hid (hb.alloc (B.out.size) (.cells #[.int .i64 t, .slice Ai ni ci] 63))
      clear hall hb ha hP ht
      cases hd : decide (0 ≤ t ∧ t < m) with
      | false =>
        rw [hd] at I hok
        rw [Bool.false_and] at hok
        have HR := Lib.hid (NK.out hok)
        have I := Lib.hid I
        clear hd hok
        go_wp2_with fail
        refine I.out.mono ?_
        rintro e w' ⟨rfl, rfl⟩
        go_wp2
        go_ret
        rw [HR.out]
        exact ⟨rfl, B2.out⟩
      | true =>
        rw [hd] at I hok
        rw [Bool.true_and] at hok
        have I := Lib.hid I
        by_cases h32 : ni = 32
        · have hq : ((ni : Int) != 32) = false := by subst h32; rfl
          have HOK := Lib.hid (HP.out.symm.trans (hok.trans (decide_eq_true h32)))
          clear hd hok h32
          go_wp2_with fail
          refine I.out.mono ?_
          rintro e w' ⟨rfl, rfl⟩
          go_wp2
          go_roundw
          case rel =>
            refine ⟨k + 1, by omega, by go_num, fun y hy => ?_, B2.out⟩
            rcases Nat.lt_or_ge y k with h' | h'
            · exact ALL.out y h'
            · obtain rfl : y = k := by omega
              exact HOK.out
          case measure => simp [intOf]; omega
        · have hq : ((ni : Int) != 32) = true := bne_iff_ne.2 (by omega)
          have HR := Lib.hid (NK.out (hok.trans (decide_eq_false h32)))
          clear hd hok h32
          go_wp2_with fail
          refine I.out.mono ?_
          rintro e w' ⟨rfl, rfl⟩
          go_wp2
          go_ret
          rw [HR.out]
          exact ⟨rfl, B2.out⟩
    · obtain rfl : k = n := by omega
      have HR := Lib.hid (YES.out hall)
      clear hall hb
      go_wp2
      go_ret
      rw [HR.out]
      exact ⟨rfl, B.out⟩

end Go.Proofs.Ytkbeeknnfndjgaa
