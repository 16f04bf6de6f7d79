/- Layer 5, package disk: its small functions. -/
import Derived.Test.YtkbeeknnfndjgaaDiskQ
import Derived.Test.YtkbeeknnfndjgaaStrs
import Derived.Test.YtkbeeknnfndjgaaCopy
import Derived.Lib.SliceRun
namespace Go.Proofs.Ytkbeeknnfndjgaa
open Go.RowKit
set_option linter.unusedVariables false

theorem isMany_any (m : Int) (w : World) : Calls Try.prog 48 #[.int .i64 m] w fun e w' => e = .returned (.bool (decide (1 ≤ m ∧ m ≤ 1024))) ∧ w' = w := by
  by_cases h1 : 1 ≤ m
  · by_cases h2 : m ≤ 1024
    · rw [decide_eq_true (show 1 ≤ m ∧ m ≤ 1024 from ⟨h1, h2⟩)]
      go_enter Try.func48, Try.ntmps48
      go_wp2
      go_ret
      exact ⟨rfl, rfl⟩
    · rw [decide_eq_false (show ¬ (1 ≤ m ∧ m ≤ 1024) from fun h => h2 h.2)]
      go_enter Try.func48, Try.ntmps48
      go_wp2
      go_ret
      exact ⟨rfl, rfl⟩
  · rw [decide_eq_false (show ¬ (1 ≤ m ∧ m ≤ 1024) from fun h => h1 h.1)]
    go_enter Try.func48, Try.ntmps48
    go_wp2
    go_ret
    exact ⟨rfl, rfl⟩

theorem isAt_any (m t : Int) (w : World) : Calls Try.prog 84 #[.int .i64 m, .int .i64 t] w fun e w' => e = .returned (.bool (decide (0 ≤ t ∧ t < m))) ∧ w' = w := by
  by_cases h1 : 0 ≤ t
  · by_cases h2 : t < m
    · rw [decide_eq_true (show 0 ≤ t ∧ t < m from ⟨h1, h2⟩)]
      go_enter Try.func84, Try.ntmps84
      go_wp2
      go_ret
      exact ⟨rfl, rfl⟩
    · rw [decide_eq_false (show ¬ (0 ≤ t ∧ t < m) from fun h => h2 h.2)]
      go_enter Try.func84, Try.ntmps84
      go_wp2
      go_ret
      exact ⟨rfl, rfl⟩
  · rw [decide_eq_false (show ¬ (0 ≤ t ∧ t < m) from fun h => h1 h.1)]
    go_enter Try.func84, Try.ntmps84
    go_wp2
    go_ret
    exact ⟨rfl, rfl⟩

theorem make32 (w : World) : (Instr.makeSlice 31 (.int .i64 32) (.int .i64 32)).run Try.prog w = .ok (.slice (some ⟨w.heap.size, 0, none⟩) 32 32) (w.alloc (.cells (ints .u8 noughts).toArray 5)) := by
  obtain ⟨i0, hi0, hz0, hz1, hz2⟩ := info_parts byte_info
  have := run_make1 (P := Try.prog) 31 5 i0 _ Try.underlying31 hi0 hz0 hz1 rfl 32 (by rw [hz2]; omega) (by decide) w
  exact this
theorem noughts_any (w : World) : Calls Try.prog 49 #[] w fun e w' => e = .returned (.slice (some ⟨w.heap.size, 0, none⟩) 32 32) ∧ w' = w.alloc (.cells (ints .u8 noughts).toArray 5) := by
  have hm := make32 w
  go_enter Try.func49, Try.ntmps49
  go_wp2
  go_ret
  exact ⟨rfl, rfl⟩
theorem nown32 (w : World) : (w.alloc (.cells (ints .u8 noughts).toArray 5)).ownsRow w.heap.size 5 1 (.slice (some ⟨w.heap.size, 0, none⟩) 32 32) 32 (ints .u8 noughts) :=
  (Blk.new w 5 (ints .u8 noughts)).owns (Nat.le_refl _) rfl (by decide)
theorem noughts_bytes : ∀ z ∈ noughts, isByte z := by
  intro z hz
  rw [List.eq_of_mem_replicate hz]
  exact ⟨by decide, by decide⟩

theorem equal_any (A : Option Addr) (n c : Nat) (x : Txt) (A' : Option Addr) (n' c' : Nat) (y : Txt) (w : World) (hx : Arg w .u8 A n c x) (hy : Arg w .u8 A' n' c' y) (bx : ∀ z ∈ x, isByte z) (by_ : ∀ z ∈ y, isByte z) :
    Calls Try.prog 87 #[.slice A n c, .slice A' n' c'] w fun e w' => e = .returned (.bool (decide (x = y))) ∧ w' = w := by
  have hst1 := run_str (P := Try.prog) w 31 9 5 Try.underlying31 Try.underlying5 Try.underlying9 (c := c) hx.seq hx.len
  have hst2 := run_str (P := Try.prog) w 31 9 5 Try.underlying31 Try.underlying5 Try.underlying9 (c := c') hy.seq hy.len
  have hse := strs_eq bx by_
  obtain ⟨R, hR⟩ : ∃ R, R = decide (x = y) := ⟨_, rfl⟩
  rw [← hR] at hse ⊢
  clear hR hx hy bx by_
  go_enter Try.func87, Try.ntmps87
  go_wp2
  go_ret
  exact ⟨rfl, rfl⟩

set_option maxRecDepth 100000 in
/-- bytes.Clone: a row of its own. -/
theorem bclone_any (A : Option Addr) (n c : Nat) (x : Txt) (w : World) (hx : Arg w .u8 A n c x) (hn : n ≤ 100000) :
    Calls Try.prog 52 #[.slice A n c] w fun e w' => ∃ A' c', e = .returned (.slice A' n c') ∧ w'.ownsRow w.heap.size 5 1 (.slice A' n c') n (ints .u8 x) ∧ Below w.heap.size w w' := by
  obtain ⟨i0, hi0, hz0, hz1, hz2⟩ := info_parts byte_info
  have hml : (100000 : Nat) ≤ maxLen := by decide
  have hnil := Lib.run_eql_slice_nil (P := Try.prog) w 31 5 A n c 0 0 Try.underlying31
  cases A with
  | none =>
    have hx0 : x = [] := by
      cases x with
      | nil => rfl
      | cons a r => obtain ⟨_, _, e, _⟩ := hx.seq 0 _ rfl; cases e
    subst hx0
    have hn0 : n = 0 := by simpa using hx.len.symm
    subst hn0
    clear hx
    go_enter Try.func52, Try.ntmps52
    go_wp2
    go_ret
    exact ⟨none, 0, rfl, World.ownsRow_nil _ _ _ _, Below.refl _ _⟩
  | some a =>
    have HX := Lib.hid hx
    clear hx
    go_enter Try.func52, Try.ntmps52
    go_wp2_with (at_builtin; refine wpList_dup w (by rfl) (.tmp 5) (.tmp 6) 31 (by rfl) 5 i0 _ 1 Try.underlying31 hi0 hz0 hz1 hz2 rfl (by rfl) (some a) n c (ints .u8 x) (by rfl) (by rw [ints_length]; exact HX.out.len) HX.out.seq (ints_one _ _) (by omega) (by omega) ?_; intro A' c' w' hown hb; have O := Lib.hid hown; have B := Lib.hid hb; clear hown hb)
    go_ret
    exact ⟨A', c', rfl, O.out, B.out⟩

end Go.Proofs.Ytkbeeknnfndjgaa
