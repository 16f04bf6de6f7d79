/- Layer 4, package ring: its small functions: rooms, places that go round, texts in new memory. -/
import Derived.Test.YtbbnfbclbhkneaaRingR6
import Derived.Test.YtbbnfbclbhkneaaCopy
namespace Go.Proofs.Ytbbnfbclbhkneaa
open Go.RowKit
set_option linter.unusedVariables false

theorem isRoom_any (r : Int) (w : World) : Calls Try.prog 25 #[.int .i64 r] w fun e w' => e = .returned (.bool (decide (1 ≤ r ∧ r ≤ 64))) ∧ w' = w := by
  by_cases h1 : 1 ≤ r
  · by_cases h2 : r ≤ 64
    · rw [decide_eq_true (show 1 ≤ r ∧ r ≤ 64 from ⟨h1, h2⟩)]
      go_enter Try.func25, Try.ntmps25
      go_wp2
      go_ret
      exact ⟨rfl, rfl⟩
    · rw [decide_eq_false (show ¬ (1 ≤ r ∧ r ≤ 64) from fun h => h2 h.2)]
      go_enter Try.func25, Try.ntmps25
      go_wp2
      go_ret
      exact ⟨rfl, rfl⟩
  · rw [decide_eq_false (show ¬ (1 ≤ r ∧ r ≤ 64) from fun h => h1 h.1)]
    go_enter Try.func25, Try.ntmps25
    go_wp2
    go_ret
    exact ⟨rfl, rfl⟩

theorem around_any (A : Option Addr) (n c : Nat) (h m : Int) (w : World) : Calls Try.prog 26 #[queueV A n c h m] w fun e w' => e = .returned (.slice A n c) ∧ Below w.heap.size w w' := by
  have hbel : Below w.heap.size w (w.alloc (.cells #[.slice A n c, .int .i64 h, .int .i64 m] 24)) := (Below.refl _ _).alloc (Nat.le_refl _) _
  obtain ⟨c0, c1, c2⟩ := box_queue w A n c h m
  have BEL := Lib.hid hbel
  clear hbel c1 c2
  go_enter Try.func26, Try.ntmps26
  go_wp2
  go_ret
  exact ⟨rfl, BEL.out⟩

theorem behind_any (A : Option Addr) (n c p k : Nat) (w : World) (h1 : 1 ≤ n) (hn : n ≤ 1000) (hp : p ≤ 1000) (hk : k ≤ 1000) :
    Calls Try.prog 27 #[.slice A n c, .int .i64 (p : Int), .int .i64 (k : Int)] w fun e w' => e = .returned (.int .i64 (((p + k) % n : Nat) : Int)) ∧ w' = w := by
  obtain ⟨r, hr⟩ : ∃ r, r = (p + k) % n := ⟨_, rfl⟩
  have hrn : r < n := by rw [hr]; exact Nat.mod_lt _ (by omega)
  have hri : ((p : Int) + (k : Int)) % (n : Int) = (r : Int) := by rw [hr]; simp
  have hri2 : ((p : Int) + (k : Int)).tmod (n : Int) = (r : Int) := by rw [Int.tmod_eq_emod_of_nonneg (by omega)]; exact hri
  have hw1 : IntKind.i64.wrap ((p : Int) + (k : Int)) = (p : Int) + (k : Int) := Lib.wrap_i64_small (p + k) (by omega)
  have hw2 : IntKind.i64.wrap (r : Int) = (r : Int) := Lib.wrap_i64_small r (by omega)
  have hn0 : ¬ (n : Int) = 0 := by omega
  have hn1 : ¬ n = 0 := by omega
  rw [← hr]
  clear hr
  go_enter Try.func27, Try.ntmps27
  go_wp2
  go_ret
  exact ⟨rfl, rfl⟩

theorem equal_any (A : Option Addr) (n c : Nat) (x : Text) (A' : Option Addr) (n' c' : Nat) (y : Text) (w : World) (hx : Arg w .u8 A n c x) (hy : Arg w .u8 A' n' c' y) (bx : ∀ z ∈ x, isByte z) (by_ : ∀ z ∈ y, isByte z) :
    Calls Try.prog 33 #[.slice A n c, .slice A' n' c'] w fun e w' => e = .returned (.bool (decide (x = y))) ∧ w' = w := by
  have hst1 := run_str (P := Try.prog) w 28 9 5 Try.underlying28 Try.underlying5 Try.underlying9 (c := c) hx.seq hx.len
  have hst2 := run_str (P := Try.prog) w 28 9 5 Try.underlying28 Try.underlying5 Try.underlying9 (c := c') hy.seq hy.len
  have hse := strs_eq bx by_
  obtain ⟨R, hR⟩ : ∃ R, R = decide (x = y) := ⟨_, rfl⟩
  rw [← hR] at hse ⊢
  clear hR hx hy bx by_
  go_enter Try.func33, Try.ntmps33
  go_wp2
  go_ret
  exact ⟨rfl, rfl⟩

theorem make_bytes (n : Nat) (hn : n ≤ 1000) (w : World) :
    (Instr.makeSlice 28 (.int .i64 (n : Int)) (.int .i64 (n : Int))).run Try.prog w = .ok (.slice (some ⟨w.heap.size, 0, none⟩) n n) (w.alloc (.cells (List.replicate n (.int .u8 0)).toArray 5)) := by
  obtain ⟨i0, hi0, hz0, hz1, hz2⟩ := info_parts byte_info
  have hml : (1000 : Nat) ≤ maxLen := by decide
  exact run_make1 (P := Try.prog) 28 5 i0 _ Try.underlying28 hi0 hz0 hz1 rfl n (by rw [hz2]; omega) (by omega) w

theorem splice_whole {cur cs : List Value} (h : cs.length = cur.length) : splice cur 0 cs = cs := by
  unfold splice
  simp [h]

/-- A text in new memory. -/
theorem twinB_any (A : Option Addr) (n c : Nat) (x : Text) (w : World) (hx : Arg w .u8 A n c x) (hn : n ≤ 1000) :
    Calls Try.prog 30 #[.slice A n c] w fun e w' => ∃ A' c', e = .returned (.slice A' n c') ∧ w'.ownsRow w.heap.size 5 1 (.slice A' n c') n (ints .u8 x) ∧ Below w.heap.size w w' := by
  have hml : (1000 : Nat) ≤ maxLen := by decide
  have hl := hx.len
  by_cases h0 : n = 0
  · subst h0
    obtain rfl : x = [] := List.eq_nil_of_length_eq_zero hl
    clear hx hl
    go_enter Try.func30, Try.ntmps30
    go_wp2
    go_ret
    exact ⟨none, 0, rfl, World.ownsRow_nil _ _ _ _, Below.refl _ _⟩
  · have hmk := make_bytes n hn w
    have hb : Blk (w.alloc (.cells (List.replicate n (.int .u8 0)).toArray 5)) w.heap.size 5 (List.replicate n (.int .u8 0)) := Blk.new w 5 _
    have hbel : Below w.heap.size w (w.alloc (.cells (List.replicate n (.int .u8 0)).toArray 5)) := (Below.refl _ _).alloc (Nat.le_refl _) _
    have hseq := hx.seq.below hbel
    obtain ⟨w1, hw1⟩ : ∃ w1, w1 = w.alloc (.cells (List.replicate n (.int .u8 0)).toArray 5) := ⟨_, rfl⟩
    rw [← hw1] at hmk hb hbel hseq
    have HB := Lib.hid hb
    have HBEL := Lib.hid hbel
    have HSEQ := Lib.hid hseq
    have HLEN := Lib.hid (show (ints .u8 x).length = Nat.min n n by rw [ints_length, hl]; exact (Nat.min_self n).symm)
    have HFIT := Lib.hid (show 0 + (ints .u8 x).length ≤ (List.replicate n (Value.int .u8 0)).length by simp [ints_length, hl])
    have HL := Lib.hid hl
    clear hx hw1 hb hbel hseq hl
    go_enter Try.func30, Try.ntmps30
    go_wp2_with (with_reducible refine wpList_copy_seq (o := ⟨some 12, _, _, _, _, _⟩) rfl (.tmp 10) (.tmp 11) _ _ rfl 5 Try.underlying28 byte_size A w.heap.size 0 n n n c rfl rfl (List.replicate n (.int .u8 0)) 5 HB.out (ints .u8 x) HLEN.out _ HSEQ.out HFIT.out (ints_one _ _) w.heap.size w HBEL.out (Nat.le_refl _) ?_; intro w2 HG2 hB2)
    have hg2 := HG2.out
    rw [splice_whole (by rw [ints_length, HL.out, List.length_replicate])] at hg2
    have G2 := Lib.hid hg2
    have B2 := Lib.hid hB2
    clear hg2 hB2
    go_wp2
    go_ret
    exact ⟨_, n, rfl, G2.out.owns (Nat.le_refl _) (by rw [ints_length, HL.out]) (by omega), B2.out⟩

end Go.Proofs.Ytbbnfbclbhkneaa
