/- Layer 5, package disk: its small functions. -/
/- Layer 5, package disk: whether sectors, and writes, may be. -/
/- Layer 5, package disk: whether sectors may be. -/
/- Layer 5, package disk: Check, and whether a sector is there. -/
import Derived.Test.YteinfkjlcpfeiaaDiskQ
import Derived.Test.YteinfkjlcpfeiaaStrs
import Derived.Test.YteinfkjlcpfeiaaCopy
import Derived.Lib.SliceRun
import Derived.Deep.RegionWith
namespace Go.Proofs.Yteinfkjlcpfeiaa
open Go.RowKit
set_option linter.unusedVariables false

theorem isMany_any (m : Int) (w : World) : Calls Try.prog 48 #[.int .i64 m] w fun e w' => e = .returned (.bool (decide (1 ≤ m ∧ m ≤ 1024))) ∧ w' = w := by
  by_cases h1 : 1 ≤ m
  · by_cases h2 : m ≤ 1024
    · rw [decide_eq_true (show 1 ≤ m ∧ m ≤ 1024 from ⟨h1, h2⟩)]
      go_enter Try.func48, Try.ntmps48
      go_wp2
      go_ret
      exact ⟨rfl, rfl⟩
    · rw [decide_eq_false (show ¬ (1 ≤ m ∧ m ≤ 1024) from fun h => h2 h.2)]
      go_enter Try.func48, Try.ntmps48
      go_wp2
      go_ret
      exact ⟨rfl, rfl⟩
  · rw [decide_eq_false (show ¬ (1 ≤ m ∧ m ≤ 1024) from fun h => h1 h.1)]
    go_enter Try.func48, Try.ntmps48
    go_wp2
    go_ret
    exact ⟨rfl, rfl⟩

theorem isAt_any (m t : Int) (w : World) : Calls Try.prog 84 #[.int .i64 m, .int .i64 t] w fun e w' => e = .returned (.bool (decide (0 ≤ t ∧ t < m))) ∧ w' = w := by
  by_cases h1 : 0 ≤ t
  · by_cases h2 : t < m
    · rw [decide_eq_true (show 0 ≤ t ∧ t < m from ⟨h1, h2⟩)]
      go_enter Try.func84, Try.ntmps84
      go_wp2
      go_ret
      exact ⟨rfl, rfl⟩
    · rw [decide_eq_false (show ¬ (0 ≤ t ∧ t < m) from fun h => h2 h.2)]
      go_enter Try.func84, Try.ntmps84
      go_wp2
      go_ret
      exact ⟨rfl, rfl⟩
  · rw [decide_eq_false (show ¬ (0 ≤ t ∧ t < m) from fun h => h1 h.1)]
    go_enter Try.func84, Try.ntmps84
    go_wp2
    go_ret
    exact ⟨rfl, rfl⟩

theorem make32 (w : World) : (Instr.makeSlice 31 (.int .i64 32) (.int .i64 32)).run Try.prog w = .ok (.slice (some ⟨w.heap.size, 0, none⟩) 32 32) (w.alloc (.cells (ints .u8 noughts).toArray 5)) := by
  obtain ⟨i0, hi0, hz0, hz1, hz2⟩ := info_parts byte_info
  have := run_make1 (P := Try.prog) 31 5 i0 _ Try.underlying31 hi0 hz0 hz1 rfl 32 (by rw [hz2]; omega) (by decide) w
  exact this
theorem noughts_any (w : World) : Calls Try.prog 49 #[] w fun e w' => e = .returned (.slice (some ⟨w.heap.size, 0, none⟩) 32 32) ∧ w' = w.alloc (.cells (ints .u8 noughts).toArray 5) := by
  have hm := make32 w
  go_enter Try.func49, Try.ntmps49
  go_wp2
  go_ret
  exact ⟨rfl, rfl⟩
theorem nown32 (w : World) : (w.alloc (.cells (ints .u8 noughts).toArray 5)).ownsRow w.heap.size 5 1 (.slice (some ⟨w.heap.size, 0, none⟩) 32 32) 32 (ints .u8 noughts) :=
  (Blk.new w 5 (ints .u8 noughts)).owns (Nat.le_refl _) rfl (by decide)
theorem noughts_bytes : ∀ z ∈ noughts, isByte z := by
  intro z hz
  rw [List.eq_of_mem_replicate hz]
  exact ⟨by decide, by decide⟩

theorem equal_any (A : Option Addr) (n c : Nat) (x : Txt) (A' : Option Addr) (n' c' : Nat) (y : Txt) (w : World) (hx : Arg w .u8 A n c x) (hy : Arg w .u8 A' n' c' y) (bx : ∀ z ∈ x, isByte z) (by_ : ∀ z ∈ y, isByte z) :
    Calls Try.prog 87 #[.slice A n c, .slice A' n' c'] w fun e w' => e = .returned (.bool (decide (x = y))) ∧ w' = w := by
  have hst1 := run_str (P := Try.prog) w 31 9 5 Try.underlying31 Try.underlying5 Try.underlying9 (c := c) hx.seq hx.len
  have hst2 := run_str (P := Try.prog) w 31 9 5 Try.underlying31 Try.underlying5 Try.underlying9 (c := c') hy.seq hy.len
  have hse := strs_eq bx by_
  obtain ⟨R, hR⟩ : ∃ R, R = decide (x = y) := ⟨_, rfl⟩
  rw [← hR] at hse ⊢
  clear hR hx hy bx by_
  go_enter Try.func87, Try.ntmps87
  go_wp2
  go_ret
  exact ⟨rfl, rfl⟩

set_option maxRecDepth 100000 in
/-- bytes.Clone: a row of its own. -/
theorem bclone_any (A : Option Addr) (n c : Nat) (x : Txt) (w : World) (hx : Arg w .u8 A n c x) (hn : n ≤ 100000) :
    Calls Try.prog 52 #[.slice A n c] w fun e w' => ∃ A' c', e = .returned (.slice A' n c') ∧ w'.ownsRow w.heap.size 5 1 (.slice A' n c') n (ints .u8 x) ∧ Below w.heap.size w w' := by
  obtain ⟨i0, hi0, hz0, hz1, hz2⟩ := info_parts byte_info
  have hml : (100000 : Nat) ≤ maxLen := by decide
  have hnil := Lib.run_eql_slice_nil (P := Try.prog) w 31 5 A n c 0 0 Try.underlying31
  cases A with
  | none =>
    have hx0 : x = [] := by
      cases x with
      | nil => rfl
      | cons a r => obtain ⟨_, _, e, _⟩ := hx.seq 0 _ rfl; cases e
    subst hx0
    have hn0 : n = 0 := by simpa using hx.len.symm
    subst hn0
    clear hx
    go_enter Try.func52, Try.ntmps52
    go_wp2
    go_ret
    exact ⟨none, 0, rfl, World.ownsRow_nil _ _ _ _, Below.refl _ _⟩
  | some a =>
    have HX := Lib.hid hx
    clear hx
    go_enter Try.func52, Try.ntmps52
    go_wp2_with (at_builtin; refine wpList_dup w (by rfl) (.tmp 5) (.tmp 6) 31 (by rfl) 5 i0 _ 1 Try.underlying31 hi0 hz0 hz1 hz2 rfl (by rfl) (some a) n c (ints .u8 x) (by rfl) (by rw [ints_length]; exact HX.out.len) HX.out.seq (ints_one _ _) (by omega) (by omega) ?_; intro A' c' w' hown hb; have O := Lib.hid hown; have B := Lib.hid hb; clear hown hb)
    go_ret
    exact ⟨A', c', rfl, O.out, B.out⟩

end Go.Proofs.Yteinfkjlcpfeiaa

namespace Go.Proofs.Yteinfkjlcpfeiaa
open Go.RowKit
set_option linter.unusedVariables false

def pndOkI (m : Int) (p : Pnd) : Bool := decide (0 ≤ p.1) && decide (p.1 < m) && decide (p.2.length = 32)
theorem all_getD {α : Type} (l : List α) (z : α) (f : α → Bool) (h : ∀ k, k < l.length → f (l.getD k z) = true) : l.all f = true := by
  rw [List.all_eq_true]
  intro s hs
  obtain ⟨k, hk, rfl⟩ := List.getElem_of_mem hs
  have := h k hk
  rwa [List.getD_eq_getElem?_getD, List.getElem?_eq_getElem hk, Option.getD_some] at this
theorem all_getD_no {α : Type} (l : List α) (z : α) (f : α → Bool) {k : Nat} (hk : k < l.length) (h : f (l.getD k z) = false) : l.all f = false := by
  rw [List.all_eq_false]
  refine ⟨l[k], List.getElem_mem hk, ?_⟩
  rw [List.getD_eq_getElem?_getD, List.getElem?_eq_getElem hk, Option.getD_some] at h
  rw [h]; simp

set_option maxRecDepth 100000 in
set_option maxHeartbeats 1600000 in
theorem areWrites_any (m : Int) (A : Option Addr) (n c : Nat) (C : List Pnd) (w : World) (h : Pnds w A n c C) :
    Calls Try.prog 53 #[.int .i64 m, .slice A n c] w fun e w' => e = .returned (.bool (C.all (pndOkI m))) ∧ Below w.heap.size w w' := by
  have hl := h.len
  have hcm := Nat.le_trans h.cap h.max
  unfold maxLen at hcm
  have YES := Lib.hid (all_getD C (0, []) (pndOkI m))
  have NO := Lib.hid (fun k => all_getD_no C (0, []) (pndOkI m) (k := k))
  rw [hl] at YES NO
  obtain ⟨R, hR⟩ : ∃ R, R = C.all (pndOkI m) := ⟨_, rfl⟩
  rw [← hR] at YES NO ⊢
  have H := Lib.hid h
  clear h hl hR
  go_enter Try.func53, Try.ntmps53
  go_wp2
  go_loopw [9] (fun i wr => ∃ k : Nat, k ≤ n ∧ i = .int .i64 k ∧ (∀ y, y < k → pndOkI m (C.getD y (0, [])) = true) ∧ Below w.heap.size w wr) (fun i _ => n - (intOf i).toNat)
  case atStart => exact ⟨0, Nat.zero_le _, rfl, fun y hy => by omega, Below.refl _ _⟩
  case round =>
    obtain ⟨k, hk, rfl, hall, hb⟩ := hrel
    have ALL := Lib.hid hall
    have B := Lib.hid hb
    by_cases hkn : k < n
    · have hki : (k : Int) < (n : Int) := by omega
      obtain ⟨b, o, Ai, ni, ci, rfl, hlt, hc, hx, ha⟩ := (H.out.below hb).at_ k hkn
      have hok : pndOkI m (C.getD k (0, [])) = (decide (0 ≤ (C.getD k (0, [])).1 ∧ (C.getD k (0, [])).1 < m) && decide (ni = 32)) := by
        unfold pndOkI
        rw [ha.len]
        simp
      obtain ⟨t, ht⟩ : ∃ t, t = (C.getD k (0, [])).1 := ⟨_, rfl⟩
      rw [← ht] at hx hok
      have NK := Lib.hid (NO.out k hkn)
      obtain ⟨P, hP⟩ : ∃ P, P = pndOkI m (C.getD k (0, [])) := ⟨_, rfl⟩
      rw [← hP] at hok NK
      have HP := Lib.hid hP
      have hcn := Nat.le_trans ha.cap ha.max
      unfold maxLen at hcn
      have I := isAt_any m t (wr.alloc (.cells #[.int .i64 t, .slice Ai ni ci] 63))
      have q0 : (wr.alloc (.cells #[.int .i64 t, .slice Ai ni ci] 63)).cell? ⟨wr.heap.size, 0, none⟩ = some (.int .i64 t) := (Blk.new wr 63 [.int .i64 t, .slice Ai ni ci]).cell 0
      have q1 : (wr.alloc (.cells #[.int .i64 t, .slice Ai ni ci] 63)).cell? ⟨wr.heap.size, 1, none⟩ = some (.slice Ai ni ci) := (Blk.new wr 63 [.int .i64 t, .slice Ai ni ci]).cell 1
      have B2 := Lib.hid (hb.alloc (B.out.size) (.cells #[.int .i64 t, .slice Ai ni ci] 63))
      clear hall hb ha hP ht
      cases hd : decide (0 ≤ t ∧ t < m) with
      | false =>
        rw [hd] at I hok
        rw [Bool.false_and] at hok
        have HR := Lib.hid (NK.out hok)
        have I := Lib.hid I
        clear hd hok
        go_wp2_with fail
        refine I.out.mono ?_
        rintro e w' ⟨rfl, rfl⟩
        go_wp2
        go_ret
        rw [HR.out]
        exact ⟨rfl, B2.out⟩
      | true =>
        rw [hd] at I hok
        rw [Bool.true_and] at hok
        have I := Lib.hid I
        by_cases h32 : ni = 32
        · have hq : ((ni : Int) != 32) = false := by subst h32; rfl
          have HOK := Lib.hid (HP.out.symm.trans (hok.trans (decide_eq_true h32)))
          clear hd hok h32
          go_wp2_with fail
          refine I.out.mono ?_
          rintro e w' ⟨rfl, rfl⟩
          go_wp2
          go_roundw
          case rel =>
            refine ⟨k + 1, by omega, by go_num, fun y hy => ?_, B2.out⟩
            rcases Nat.lt_or_ge y k with h' | h'
            · exact ALL.out y h'
            · obtain rfl : y = k := by omega
              exact HOK.out
          case measure => simp [intOf]; omega
        · have hq : ((ni : Int) != 32) = true := bne_iff_ne.2 (by omega)
          have HR := Lib.hid (NK.out (hok.trans (decide_eq_false h32)))
          clear hd hok h32
          go_wp2_with fail
          refine I.out.mono ?_
          rintro e w' ⟨rfl, rfl⟩
          go_wp2
          go_ret
          rw [HR.out]
          exact ⟨rfl, B2.out⟩
    · obtain rfl : k = n := by omega
      have HR := Lib.hid (YES.out hall)
      clear hall hb
      go_wp2
      go_ret
      rw [HR.out]
      exact ⟨rfl, B.out⟩

end Go.Proofs.Yteinfkjlcpfeiaa

namespace Go.Proofs.Yteinfkjlcpfeiaa
open Go.RowKit
set_option linter.unusedVariables false

theorem secOk_len {s : Sec} (h : s.2.length ≠ 32) : secOk s = false := by unfold secOk; rw [decide_eq_false h, Bool.false_and]
theorem secOk_good {s : Sec} (h : s.2.length = 32) (hb : s.1 = false) : secOk s = true := by unfold secOk; rw [decide_eq_true h, hb]; rfl
theorem secOk_bad {s : Sec} (h : s.2.length = 32) (hb : s.1 = true) : secOk s = decide (s.2 = noughts) := by
  unfold secOk
  rw [decide_eq_true h, hb, Bool.true_and, Bool.not_true, Bool.false_or]
  by_cases e : s.2 = noughts
  · rw [decide_eq_true e, e, List.all_eq_true]
    intro z hz
    rw [List.eq_of_mem_replicate hz]
    rfl
  · rw [decide_eq_false e]
    cases hall : s.2.all fun z => decide (z = 0) with
    | false => rfl
    | true =>
      refine absurd (List.eq_replicate_iff.2 ⟨h, fun z hz => ?_⟩) e
      have := List.all_eq_true.1 hall z hz
      exact decide_eq_true_iff.1 this

set_option maxRecDepth 100000 in
set_option maxHeartbeats 3200000 in
theorem areSectors_any (A : Option Addr) (n c : Nat) (S : List Sec) (w : World) (h : Secs w A n c S) :
    Calls Try.prog 54 #[.slice A n c] w fun e w' => e = .returned (.bool (S.all secOk)) ∧ Below w.heap.size w w' := by
  have hl := h.len
  have hcm := Nat.le_trans h.cap h.max
  unfold maxLen at hcm
  have YES := Lib.hid (all_getD S (false, []) secOk)
  have NO := Lib.hid (fun k => all_getD_no S (false, []) secOk (k := k))
  rw [hl] at YES NO
  obtain ⟨R, hR⟩ : ∃ R, R = S.all secOk := ⟨_, rfl⟩
  rw [← hR] at YES NO ⊢
  have H := Lib.hid h
  clear h hl hR
  go_enter Try.func54, Try.ntmps54
  go_wp2
  go_loopw [7] (fun i wr => ∃ k : Nat, k ≤ n ∧ i = .int .i64 k ∧ (∀ y, y < k → secOk (S.getD y (false, [])) = true) ∧ Below w.heap.size w wr) (fun i _ => n - (intOf i).toNat)
  case atStart => exact ⟨0, Nat.zero_le _, rfl, fun y hy => by omega, Below.refl _ _⟩
  case round =>
    obtain ⟨k, hk, rfl, hall, hb⟩ := hrel
    have ALL := Lib.hid hall
    have B := Lib.hid hb
    by_cases hkn : k < n
    · have hki : (k : Int) < (n : Int) := by omega
      have hS := H.out.below hb
      obtain ⟨b, o, Ai, ni, ci, rfl, hlt, hc, hx, ha⟩ := hS.at_ k hkn
      have hby := hS.byte_at k
      have NK := Lib.hid (NO.out k hkn)
      obtain ⟨s, hs⟩ : ∃ s, s = S.getD k (false, []) := ⟨_, rfl⟩
      rw [← hs] at hx ha hby NK
      have HS := Lib.hid hs
      obtain ⟨bad, x⟩ := s
      have hlen : x.length = ni := ha.len
      have hcn := Nat.le_trans ha.cap ha.max
      unfold maxLen at hcn
      have q0 : (wr.alloc (.cells #[.slice Ai ni ci, .bool bad] 39)).cell? ⟨wr.heap.size, 0, none⟩ = some (.slice Ai ni ci) := (Blk.new wr 39 [.slice Ai ni ci, .bool bad]).cell 0
      have q1 : (wr.alloc (.cells #[.slice Ai ni ci, .bool bad] 39)).cell? ⟨wr.heap.size, 1, none⟩ = some (.bool bad) := (Blk.new wr 39 [.slice Ai ni ci, .bool bad]).cell 1
      have B2 := Lib.hid (hb.alloc (B.out.size) (.cells #[.slice Ai ni ci, .bool bad] 39))
      have ha2 := ha.below ((Below.refl wr.heap.size wr).alloc (Nat.le_refl _) (.cells #[.slice Ai ni ci, .bool bad] 39))
      by_cases h32 : ni = 32
      · have hq : ((ni : Int) != 32) = false := by subst h32; rfl
        cases bad with
        | false =>
          have HOK := Lib.hid (secOk_good (s := (false, x)) (hlen.trans h32) rfl)
          clear hall hb ha ha2 hs hS hby hlen h32
          go_wp2
          go_region
          go_wp2
          go_roundw
          case rel =>
            refine ⟨k + 1, by omega, by go_num, fun y hy => ?_, below_drewN B2.out 1⟩
            rcases Nat.lt_or_ge y k with h' | h'
            · exact ALL.out y h'
            · obtain rfl : y = k := by omega
              rw [← HS.out]
              exact HOK.out
          case measure => simp [intOf]; omega
        | true =>
          subst h32
          have hok := secOk_bad (s := (true, x)) hlen rfl
          obtain ⟨wb, hwb⟩ : ∃ wb, wb = wr.alloc (.cells #[.slice Ai 32 ci, .bool true] 39) := ⟨_, rfl⟩
          have hsz : wb.heap.size = wr.heap.size + 1 := by rw [hwb]; simp
          rw [← hwb] at q0 q1 B2 ha2
          obtain ⟨w2, hw2⟩ : ∃ w2, w2 = wb.drew.alloc (.cells (ints .u8 noughts).toArray 5) := ⟨_, rfl⟩
          have hb2 : Below wb.heap.size wb w2 := by rw [hw2]; exact (below_drewN (Below.refl _ _) 1).alloc (Nat.le_refl _) _
          have q2 : w2.cell? ⟨wr.heap.size, 0, none⟩ = some (.slice Ai 32 ci) := (hb2.cell (p := ⟨wr.heap.size, 0, none⟩) (by rw [hsz]; exact Nat.lt_succ_self _)).trans q0
          have NO := noughts_any wb.drew
          have hown := nown32 wb.drew
          change Calls _ _ _ _ (fun e w' => e = .returned (.slice (some ⟨wb.heap.size, 0, none⟩) 32 32) ∧ w' = wb.drew.alloc (.cells (ints .u8 noughts).toArray 5)) at NO
          change (wb.drew.alloc (.cells (ints .u8 noughts).toArray 5)).ownsRow wb.heap.size 5 1 (.slice (some ⟨wb.heap.size, 0, none⟩) 32 32) 32 (ints .u8 noughts) at hown
          rw [← hw2] at NO hown
          rw [hsz] at NO hown
          have EQ := equal_any Ai 32 ci x (some ⟨wr.heap.size + 1, 0, none⟩) 32 32 noughts w2 (ha2.below hb2) (Arg.own hown) hby noughts_bytes
          have B3 := Lib.hid (B2.out.trans (hb2.mono B2.out.size))
          have EQ := Lib.hid EQ
          have NO := Lib.hid NO
          cases hx0 : decide (x = noughts) with
          | true =>
            rw [hx0] at EQ hok
            have HOK := Lib.hid hok
            clear hall hb ha ha2 hs hS hby hlen hok hx0 hw2 hown hb2
            go_wp2
            rw [← hwb]
            clear hwb
            go_region_with ((first | (go_at_call 49; refine NO.out.mono ?_; rintro e w' ⟨rfl, rfl⟩) | (go_at_call 87; refine EQ.out.mono ?_; rintro e w' ⟨rfl, rfl⟩)))
            all_goals (
              go_wp2
              go_roundw
              case rel =>
                refine ⟨k + 1, by omega, by go_num, fun y hy => ?_, B3.out⟩
                rcases Nat.lt_or_ge y k with h' | h'
                · exact ALL.out y h'
                · obtain rfl : y = k := by omega
                  rw [← HS.out]
                  exact HOK.out
              case measure => simp [intOf]; omega)
          | false =>
            rw [hx0] at EQ hok
            have HR := Lib.hid (NK.out hok)
            clear hall hb ha ha2 hs hS hby hlen hok hx0 hw2 hown hb2
            go_wp2
            rw [← hwb]
            clear hwb
            go_region_with ((first | (go_at_call 49; refine NO.out.mono ?_; rintro e w' ⟨rfl, rfl⟩) | (go_at_call 87; refine EQ.out.mono ?_; rintro e w' ⟨rfl, rfl⟩)))
            all_goals (
              go_wp2
              go_ret
              rw [HR.out]
              exact ⟨rfl, B3.out⟩)
      · have hq : ((ni : Int) != 32) = true := bne_iff_ne.2 (by omega)
        have HR := Lib.hid (NK.out (secOk_len (s := (bad, x)) (by rw [hlen]; exact h32)))
        clear hall hb ha ha2 hs hS hby hlen h32
        go_wp2
        go_region
        go_wp2
        go_ret
        rw [HR.out]
        exact ⟨rfl, below_drewN B2.out 1⟩
    · obtain rfl : k = n := by omega
      have HR := Lib.hid (YES.out hall)
      clear hall hb
      go_wp2
      go_ret
      rw [HR.out]
      exact ⟨rfl, B.out⟩

end Go.Proofs.Yteinfkjlcpfeiaa

namespace Go.Proofs.Yteinfkjlcpfeiaa
open Go.RowKit
set_option linter.unusedVariables false

theorem chk_yes {S : List Sec} {C : List Pnd} (h : 1 ≤ S.length ∧ S.length ≤ 1024) (hc : C.length ≤ 64) (h1 : S.all secOk = true) (h2 : C.all (pndOkI S.length) = true) : chkD S C = 0 := by
  unfold chkD mayD
  rw [decide_eq_true h.1, decide_eq_true h.2, decide_eq_true hc, h1, show C.all (pndOk S.length) = true from h2]
  rfl
theorem chk_no1 {S : List Sec} {C : List Pnd} (h : ¬ (1 ≤ S.length ∧ S.length ≤ 1024 ∧ C.length ≤ 64)) : chkD S C = 8 := by
  unfold chkD
  rw [if_neg]
  intro hm
  exact h ((mayD_iff S C).1 hm).1
theorem chk_no2 {S : List Sec} {C : List Pnd} (h : S.all secOk = false) : chkD S C = 8 := by
  unfold chkD mayD
  rw [h]
  simp
theorem chk_no3 {S : List Sec} {C : List Pnd} (h : C.all (pndOkI S.length) = false) : chkD S C = 8 := by
  unfold chkD mayD
  rw [show C.all (pndOk S.length) = false from h]
  simp

set_option maxRecDepth 100000 in
set_option maxHeartbeats 1600000 in
theorem check_any (A : Option Addr) (n c : Nat) (A' : Option Addr) (n' c' : Nat) (S : List Sec) (C : List Pnd) (w : World) (hq : Dsk w A n c A' n' c' S C) :
    Calls Try.prog 21 #[diskV A n c A' n' c'] w fun e w' => e = .returned (.int .i64 (chkD S C)) ∧ Below w.heap.size w w' := by
  have hbel : Below w.heap.size w (w.alloc (.cells #[.slice A n c, .slice A' n' c'] 25)) := (Below.refl _ _).alloc (Nat.le_refl _) _
  obtain ⟨c0, c1⟩ := box_disk w A n c A' n' c'
  have hl := hq.secs.len
  have hl' := hq.pnds.len
  have hcm := Nat.le_trans hq.secs.cap hq.secs.max
  have hcm' := Nat.le_trans hq.pnds.cap hq.pnds.max
  unfold maxLen at hcm hcm'
  have Y := chk_yes (S := S) (C := C)
  have N1 := chk_no1 (S := S) (C := C)
  have N2 := chk_no2 (S := S) (C := C)
  have N3 := chk_no3 (S := S) (C := C)
  rw [hl, hl'] at N1
  rw [hl] at Y N3
  rw [hl'] at Y
  obtain ⟨R, hR⟩ : ∃ R, R = chkD S C := ⟨_, rfl⟩
  rw [← hR] at Y N1 N2 N3 ⊢
  obtain ⟨w1, hw1⟩ : ∃ w1, w1 = w.alloc (.cells #[.slice A n c, .slice A' n' c'] 25) := ⟨_, rfl⟩
  have hsz : w1.heap.size = w.heap.size + 1 := by rw [hw1]; simp
  rw [← hw1] at hbel c0 c1
  have HQ := hq.below hbel
  have IM := isMany_any n w1
  have AS := areSectors_any A n c S w1 HQ.secs
  have AW := fun w2 (hb : Below w1.heap.size w1 w2) => areWrites_any n A' n' c' C w2 (HQ.pnds.below hb)
  have BEL := Lib.hid hbel
  clear hbel hq HQ hl hl' hR
  have IM := Lib.hid IM
  cases hm : decide (1 ≤ (n : Int) ∧ (n : Int) ≤ 1024) with
  | false =>
    have hmm := of_decide_eq_false hm
    have HR := Lib.hid (N1 (by omega))
    rw [hm] at IM
    clear hm hmm Y N1 N2 N3 AS AW
    go_enter Try.func21, Try.ntmps21
    go_wp2_with fail
    rw [← hw1]
    clear hw1
    refine IM.out.mono ?_
    rintro e w' ⟨rfl, rfl⟩
    go_wp2
    go_ret
    rw [HR.out]
    exact ⟨rfl, BEL.out⟩
  | true =>
    have hmm := of_decide_eq_true hm
    rw [hm] at IM
    by_cases h64 : n' ≤ 64
    · have h64i : ((n' : Int) > 64) = False := by simp; omega
      have h64d : decide ((64 : Int) < (n' : Int)) = false := decide_eq_false (by omega)
      cases hs : S.all secOk with
      | false =>
        have HR := Lib.hid (N2 hs)
        rw [hs] at AS
        have AS := Lib.hid AS
        clear hm hmm Y N1 N2 N3 AW hs
        go_enter Try.func21, Try.ntmps21
        go_wp2_with fail
        rw [← hw1]
        clear hw1
        refine IM.out.mono ?_
        rintro e w' ⟨rfl, rfl⟩
        go_wp2_with fail
        refine AS.out.mono ?_
        rintro e w2 ⟨rfl, hb2⟩
        have B2 := Lib.hid (BEL.out.trans (hb2.mono BEL.out.size))
        clear hb2
        go_wp2
        go_ret
        rw [HR.out]
        exact ⟨rfl, B2.out⟩
      | true =>
        rw [hs] at AS
        cases hp : C.all (pndOkI n) with
        | false =>
          rw [hp] at AW
          have HR := Lib.hid (N3 hp)
          have AS := Lib.hid AS
          have AW := Lib.hid AW
          clear hm hmm Y N1 N2 N3 hs hp
          go_enter Try.func21, Try.ntmps21
          go_wp2_with fail
          rw [← hw1]
          clear hw1
          refine IM.out.mono ?_
          rintro e w' ⟨rfl, rfl⟩
          go_wp2_with fail
          refine AS.out.mono ?_
          rintro e w2 ⟨rfl, hb2⟩
          have B2 := Lib.hid (BEL.out.trans (hb2.mono BEL.out.size))
          have d1 := (hb2.cell (p := ⟨w.heap.size, 1, none⟩) (by rw [hsz]; exact Nat.lt_succ_self _)).trans c1
          have AW := Lib.hid (AW.out w2 hb2)
          clear hb2
          go_wp2_with fail
          refine AW.out.mono ?_
          rintro e w3 ⟨rfl, hb3⟩
          have B3 := Lib.hid (B2.out.trans (hb3.mono B2.out.size))
          clear hb3
          go_wp2
          go_ret
          rw [HR.out]
          exact ⟨rfl, B3.out⟩
        | true =>
          rw [hp] at AW
          have HR := Lib.hid (Y (by omega) h64 hs hp)
          have AS := Lib.hid AS
          have AW := Lib.hid AW
          clear hm hmm Y N1 N2 N3 hs hp
          go_enter Try.func21, Try.ntmps21
          go_wp2_with fail
          rw [← hw1]
          clear hw1
          refine IM.out.mono ?_
          rintro e w' ⟨rfl, rfl⟩
          go_wp2_with fail
          refine AS.out.mono ?_
          rintro e w2 ⟨rfl, hb2⟩
          have B2 := Lib.hid (BEL.out.trans (hb2.mono BEL.out.size))
          have d1 := (hb2.cell (p := ⟨w.heap.size, 1, none⟩) (by rw [hsz]; exact Nat.lt_succ_self _)).trans c1
          have AW := Lib.hid (AW.out w2 hb2)
          clear hb2
          go_wp2_with fail
          refine AW.out.mono ?_
          rintro e w3 ⟨rfl, hb3⟩
          have B3 := Lib.hid (B2.out.trans (hb3.mono B2.out.size))
          clear hb3
          go_wp2
          go_ret
          rw [HR.out]
          exact ⟨rfl, B3.out⟩
    · have h64i : (64 : Int) < (n' : Int) := by omega
      have HR := Lib.hid (N1 (by omega))
      clear hm hmm Y N1 N2 N3 AS AW
      go_enter Try.func21, Try.ntmps21
      go_wp2_with fail
      rw [← hw1]
      clear hw1
      refine IM.out.mono ?_
      rintro e w' ⟨rfl, rfl⟩
      go_wp2
      go_ret
      rw [HR.out]
      exact ⟨rfl, BEL.out⟩

theorem ask_chk {S : List Sec} {C : List Pnd} {t : Int} (h : chkD S C ≠ 0) : askE S C t = chkD S C := by
  unfold askE chkD at *
  split at h
  · exact absurd rfl h
  · rename_i hm; rw [if_neg hm, if_neg hm]
theorem ask_at {S : List Sec} {C : List Pnd} {t : Int} (h : chkD S C = 0) : askE S C t = if 0 ≤ t ∧ t < (S.length : Int) then 0 else 2 := by
  unfold askE chkD at *
  split at h
  · rename_i hm
    rw [if_pos hm]
    by_cases hc : 0 ≤ t ∧ t < (S.length : Int)
    · rw [if_pos hc, if_neg (by omega)]
    · rw [if_neg hc, if_pos (by omega)]
  · omega

set_option maxRecDepth 100000 in
set_option maxHeartbeats 1600000 in
theorem checkAt_any (A : Option Addr) (n c : Nat) (A' : Option Addr) (n' c' : Nat) (S : List Sec) (C : List Pnd) (t : Int) (w : World) (hq : Dsk w A n c A' n' c' S C) :
    Calls Try.prog 50 #[diskV A n c A' n' c', .int .i64 t] w fun e w' => e = .returned (.int .i64 (askE S C t)) ∧ Below w.heap.size w w' := by
  have hbel : Below w.heap.size w (w.alloc (.cells #[.slice A n c, .slice A' n' c'] 25)) := (Below.refl _ _).alloc (Nat.le_refl _) _
  obtain ⟨c0, c1⟩ := box_disk w A n c A' n' c'
  have hl := hq.secs.len
  have hcm := Nat.le_trans hq.secs.cap hq.secs.max
  unfold maxLen at hcm
  have N := ask_chk (S := S) (C := C) (t := t)
  have Y := ask_at (S := S) (C := C) (t := t)
  rw [hl] at Y
  obtain ⟨w1, hw1⟩ : ∃ w1, w1 = w.alloc (.cells #[.slice A n c, .slice A' n' c'] 25) := ⟨_, rfl⟩
  have hsz : w1.heap.size = w.heap.size + 1 := by rw [hw1]; simp
  rw [← hw1] at hbel c0 c1
  have CK := check_any A n c A' n' c' S C w1 (hq.below hbel)
  obtain ⟨R, hR⟩ : ∃ R, R = askE S C t := ⟨_, rfl⟩
  obtain ⟨E, hE⟩ : ∃ E, E = chkD S C := ⟨_, rfl⟩
  rw [← hR, ← hE] at Y N
  rw [← hE] at CK
  rw [← hR]
  have CK := Lib.hid CK
  have BEL := Lib.hid hbel
  clear hq hbel hl hR hE
  by_cases he : E = 0
  · subst he
    have IA := isAt_any n t
    have HR := Y rfl
    by_cases hat : 0 ≤ t ∧ t < (n : Int)
    · rw [if_pos hat] at HR
      rw [decide_eq_true hat] at IA
      have HR := Lib.hid HR
      have IA := Lib.hid IA
      clear Y N hat
      go_enter Try.func50, Try.ntmps50
      go_wp2_with fail
      rw [← hw1]
      clear hw1
      refine CK.out.mono ?_
      rintro e w2 ⟨rfl, hb2⟩
      have B2 := Lib.hid (BEL.out.trans (hb2.mono BEL.out.size))
      have d0 := (hb2.cell (p := ⟨w.heap.size, 0, none⟩) (by rw [hsz]; exact Nat.lt_succ_self _)).trans c0
      clear hb2
      go_wp2_with fail
      refine (IA.out _).mono ?_
      rintro e w' ⟨rfl, rfl⟩
      go_wp2
      go_ret
      rw [HR.out]
      exact ⟨rfl, B2.out⟩
    · rw [if_neg hat] at HR
      rw [decide_eq_false hat] at IA
      have HR := Lib.hid HR
      have IA := Lib.hid IA
      clear Y N hat
      go_enter Try.func50, Try.ntmps50
      go_wp2_with fail
      rw [← hw1]
      clear hw1
      refine CK.out.mono ?_
      rintro e w2 ⟨rfl, hb2⟩
      have B2 := Lib.hid (BEL.out.trans (hb2.mono BEL.out.size))
      have d0 := (hb2.cell (p := ⟨w.heap.size, 0, none⟩) (by rw [hsz]; exact Nat.lt_succ_self _)).trans c0
      clear hb2
      go_wp2_with fail
      refine (IA.out _).mono ?_
      rintro e w' ⟨rfl, rfl⟩
      go_wp2
      go_ret
      rw [HR.out]
      exact ⟨rfl, B2.out⟩
  · have HR := Lib.hid (N he)
    have hne : (E != 0) = true := bne_iff_ne.2 he
    clear Y N he
    go_enter Try.func50, Try.ntmps50
    go_wp2_with fail
    rw [← hw1]
    clear hw1
    refine CK.out.mono ?_
    rintro e w2 ⟨rfl, hb2⟩
    have B2 := Lib.hid (BEL.out.trans (hb2.mono BEL.out.size))
    clear hb2
    go_wp2
    go_ret
    rw [HR.out]
    exact ⟨rfl, B2.out⟩

end Go.Proofs.Yteinfkjlcpfeiaa
