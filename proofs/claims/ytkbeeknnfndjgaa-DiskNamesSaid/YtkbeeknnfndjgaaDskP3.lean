/- Layer 5, package disk: whether sectors may be. -/
import Derived.Test.YtkbeeknnfndjgaaDskP2
import Derived.Deep.RegionWith
namespace Go.Proofs.Ytkbeeknnfndjgaa
open Go.RowKit
set_option linter.unusedVariables false

theorem secOk_len {s : Sec} (h : s.2.length ≠ 32) : secOk s = false := by unfold secOk; rw [decide_eq_false h, Bool.false_and]
theorem secOk_good {s : Sec} (h : s.2.length = 32) (hb : s.1 = false) : secOk s = true := by unfold secOk; rw [decide_eq_true h, hb]; rfl
theorem secOk_bad {s : Sec} (h : s.2.length = 32) (hb : s.1 = true) : secOk s = decide (s.2 = noughts) := by
  unfold secOk
  rw [decide_eq_true h, hb, Bool.true_and, Bool.not_true, Bool.false_or]
  by_cases e : s.2 = noughts
  · rw [decide_eq_true e, e, List.all_eq_true]
    intro z hz
    rw [List.eq_of_mem_replicate hz]
    rfl
  · rw [decide_eq_false e]
    cases hall : s.2.all fun z => decide (z = 0) with
    | false => rfl
    | true =>
      refine absurd (List.eq_replicate_iff.2 ⟨h, fun z hz => ?_⟩) e
      have := List.all_eq_true.1 hall z hz
      exact decide_eq_true_iff.1 this

set_option maxRecDepth 100000 in
set_option maxHeartbeats 3200000 in
theorem areSectors_any (A : Option Addr) (n c : Nat) (S : List Sec) (w : World) (h : Secs w A n c S) :
    Calls Try.prog 54 #[.slice A n c] w fun e w' => e = .returned (.bool (S.all secOk)) ∧ Below w.heap.size w w' := by
  have hl := h.len
  have hcm := Nat.le_trans h.cap h.max
  unfold maxLen at hcm
  have YES := Lib.hid (all_getD S (false, []) secOk)
  have NO := Lib.hid (fun k => all_getD_no S (false, []) secOk (k := k))
  rw [hl] at YES NO
  obtain ⟨R, hR⟩ : ∃ R, R = S.all secOk := ⟨_, rfl⟩
  rw [← hR] at YES NO ⊢
  have H := Lib.hid h
  clear h hl hR
  go_enter Try.func54, Try.ntmps54
  go_wp2
  go_loopw [7] (fun i wr => ∃ k : Nat, k ≤ n ∧ i = .int .i64 k ∧ (∀ y, y < k → secOk (S.getD y (false, [])) = true) ∧ Below w.heap.size w wr) (fun i _ => n - (intOf i).toNat)
  case atStart => exact ⟨0, Nat.zero_le _, rfl, fun y hy => by omega, Below.refl _ _⟩
  case round =>
    obtain ⟨k, hk, rfl, hall, hb⟩ := hrel
    have ALL := Lib.hid hall
    have B := Lib.hid hb
    by_cases hkn : k < n
    · have hki : (k : Int) < (n : Int) := by omega
      have hS := H.out.below hb
      obtain ⟨b, o, Ai, ni, ci, rfl, hlt, hc, hx, ha⟩ := hS.at_ k hkn
      have hby := hS.byte_at k
      have NK := Lib.hid (NO.out k hkn)
      obtain ⟨s, hs⟩ : ∃ s, s = S.getD k (false, []) := ⟨_, rfl⟩
      rw [← hs] at hx ha hby NK
      have HS := Lib.hid hs
      obtain ⟨bad, x⟩ := s
      have hlen : x.length = ni := ha.len
      have hcn := Nat.le_trans ha.cap ha.max
      unfold maxLen at hcn
      have q0 : (wr.alloc (.cells #[.slice Ai ni ci, .bool bad] 39)).cell? ⟨wr.heap.size, 0, none⟩ = some (.slice Ai ni ci) := (Blk.new wr 39 [.slice Ai ni ci, .bool bad]).cell 0
      have q1 : (wr.alloc (.cells #[.slice Ai ni ci, .bool bad] 39)).cell? ⟨wr.heap.size, 1, none⟩ = some (.bool bad) := (Blk.new wr 39 [.slice Ai ni ci, .bool bad]).cell 1
      have B2 := Lib.hid (hb.alloc (B.out.size) (.cells #[.slice Ai ni ci, .bool bad] 39))
      have ha2 := ha.below ((Below.refl wr.heap.size wr).alloc (Nat.le_refl _) (.cells #[.slice Ai ni ci, .bool bad] 39))
      by_cases h32 : ni = 32
      · have hq : ((ni : Int) != 32) = false := by subst h32; rfl
        cases bad with
        | false =>
          have HOK := Lib.hid (secOk_good (s := (false, x)) (hlen.trans h32) rfl)
          clear hall hb ha ha2 hs hS hby hlen h32
          go_wp2
          go_region
          go_wp2
          go_roundw
          case rel =>
            refine ⟨k + 1, by omega, by go_num, fun y hy => ?_, below_drewN B2.out 1⟩
            rcases Nat.lt_or_ge y k with h' | h'
            · exact ALL.out y h'
            · obtain rfl : y = k := by omega
              rw [← HS.out]
              exact HOK.out
          case measure => simp [intOf]; omega
        | true =>
          subst h32
          have hok := secOk_bad (s := (true, x)) hlen rfl
          obtain ⟨wb, hwb⟩ : ∃ wb, wb = wr.alloc (.cells #[.slice Ai 32 ci, .bool true] 39) := ⟨_, rfl⟩
          have hsz : wb.heap.size = wr.heap.size + 1 := by rw [hwb]; simp
          rw [← hwb] at q0 q1 B2 ha2
          obtain ⟨w2, hw2⟩ : ∃ w2, w2 = wb.drew.alloc (.cells (ints .u8 noughts).toArray 5) := ⟨_, rfl⟩
          have hb2 : Below wb.heap.size wb w2 := by rw [hw2]; exact (below_drewN (Below.refl _ _) 1).alloc (Nat.le_refl _) _
          have q2 : w2.cell? ⟨wr.heap.size, 0, none⟩ = some (.slice Ai 32 ci) := (hb2.cell (p := ⟨wr.heap.size, 0, none⟩) (by rw [hsz]; exact Nat.lt_succ_self _)).trans q0
          have NO := noughts_any wb.drew
          have hown := nown32 wb.drew
          change Calls _ _ _ _ (fun e w' => e = .returned (.slice (some ⟨wb.heap.size, 0, none⟩) 32 32) ∧ w' = wb.drew.alloc (.cells (ints .u8 noughts).toArray 5)) at NO
          change (wb.drew.alloc (.cells (ints .u8 noughts).toArray 5)).ownsRow wb.heap.size 5 1 (.slice (some ⟨wb.heap.size, 0, none⟩) 32 32) 32 (ints .u8 noughts) at hown
          rw [← hw2] at NO hown
          rw [hsz] at NO hown
          have EQ := equal_any Ai 32 ci x (some ⟨wr.heap.size + 1, 0, none⟩) 32 32 noughts w2 (ha2.below hb2) (Arg.own hown) hby noughts_bytes
          have B3 := Lib.hid (B2.out.trans (hb2.mono B2.out.size))
          have EQ := Lib.hid EQ
          have NO := Lib.hid NO
          cases hx0 : decide (x = noughts) with
          | true =>
            rw [hx0] at EQ hok
            have HOK := Lib.hid hok
            clear hall hb ha ha2 hs hS hby hlen hok hx0 hw2 hown hb2
            go_wp2
            rw [← hwb]
            clear hwb
            go_region_with ((first | (go_at_call 49; refine NO.out.mono ?_; rintro e w' ⟨rfl, rfl⟩) | (go_at_call 87; refine EQ.out.mono ?_; rintro e w' ⟨rfl, rfl⟩)))
            all_goals (
              go_wp2
              go_roundw
              case rel =>
                refine ⟨k + 1, by omega, by go_num, fun y hy => ?_, B3.out⟩
                rcases Nat.lt_or_ge y k with h' | h'
                · exact ALL.out y h'
                · obtain rfl : y = k := by omega
                  rw [← HS.out]
                  exact HOK.out
              case measure => simp [intOf]; omega)
          | false =>
            rw [hx0] at EQ hok
            have HR := Lib.hid (NK.out hok)
            clear hall hb ha ha2 hs hS hby hlen hok hx0 hw2 hown hb2
            go_wp2
            rw [← hwb]
            clear hwb
            go_region_with ((first | (go_at_call 49; refine NO.out.mono ?_; rintro e w' ⟨rfl, rfl⟩) | (go_at_call 87; refine EQ.out.mono ?_; rintro e w' ⟨rfl, rfl⟩)))
            all_goals (
              go_wp2
              go_ret
              rw [HR.out]
              exact ⟨rfl, B3.out⟩)
      · have hq : ((ni : Int) != 32) = true := bne_iff_ne.2 (by omega)
        have HR := Lib.hid (NK.out (secOk_len (s := (bad, x)) (by rw [hlen]; exact h32)))
        clear hall hb ha ha2 hs hS hby hlen h32
        go_wp2
        go_region
        go_wp2
        go_ret
        rw [HR.out]
        exact ⟨rfl, below_drewN B2.out 1⟩
    · obtain rfl : k = n := by omega
      have HR := Lib.hid (YES.out hall)
      clear hall hb
      go_wp2
      go_ret
      rw [HR.out]
      exact ⟨rfl, B.out⟩

end Go.Proofs.Ytkbeeknnfndjgaa
