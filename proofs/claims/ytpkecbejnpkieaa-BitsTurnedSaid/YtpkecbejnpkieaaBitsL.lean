/- Layer 3: the statements' own helper function: the examples hold; the document's equality of two lists. -/
import Derived.Test.YtpkecbejnpkieaaBitsK
import Derived.KernelRfl
namespace Go.Proofs.Ytpkecbejnpkieaa
open Go.RowKit
set_option linter.unusedVariables false

/-- Two lists are the same, or not. -/
theorem len_ints (A A2 : Option Addr) (n n2 c c2 : Nat) (w : World) (h : n ≠ n2) :
    Calls Try.prog 18 #[.slice A n c, .slice A2 n2 c2] w fun e w' => e = .returned (.bool false) ∧ w = w' := by
  have h2 : ¬ (n : Int) = (n2 : Int) := by omega
  go_enter Try.func18, Try.ntmps18
  go_wp2
  go_ret
  exact ⟨rfl, rfl⟩
set_option maxHeartbeats 400000 in
theorem same_ints (A A2 : Option Addr) (n c c2 : Nat) (l : List Int) (w : World) (B : Nat) (h : Seq w B A (ints .i64 l)) (h2 : Seq w B A2 (ints .i64 l)) (hl : l.length = n) (hn : n ≤ 1000000) :
    Calls Try.prog 18 #[.slice A n c, .slice A2 n c2] w fun e w' => e = .returned (.bool true) ∧ ∃ k, w' = w.drewN k := by
  subst hl
  go_enter Try.func18, Try.ntmps18
  go_wp2
  go_loopw [5] (fun i wr => ∃ k : Nat, k ≤ l.length ∧ i = .int .i64 k ∧ ∃ q, wr = w.drewN q) (fun i _ => l.length - (intOf i).toNat)
  case atStart => exact ⟨0, Nat.zero_le _, rfl, 0, rfl⟩
  case round =>
    obtain ⟨k, hk, rfl, q, rfl⟩ := hrel
    by_cases hkn : k < l.length
    · obtain ⟨ba, oa, rfl, hba, hac⟩ := h.int hkn
      obtain ⟨bb, ob, rfl, hbb, hbc⟩ := h2.int hkn
      obtain ⟨v, hv⟩ : ∃ v, v = l.getD k 0 := ⟨_, rfl⟩
      rw [← hv] at hac hbc
      clear hv h h2
      go_wp2
      go_quiet (fail)
      go_wp2
      go_roundw
      case rel => exact ⟨k + 1, by omega, by go_num, _, rfl⟩
      case measure => simp [intOf]; omega
    · obtain rfl : k = l.length := by omega
      go_wp2
      go_ret
      exact ⟨rfl, q, rfl⟩

/-- A literal of numbers is a row that may be handed in. -/
theorem lit_arg (w : World) (t : TypeId) (k : IntKind) (zs : List Int) (n : Nat) (hn : zs.length = n) (hm : n ≤ maxLen) : Arg (w.alloc (.cells (ints k zs).toArray t)) k (some ⟨w.heap.size, 0, none⟩) n n zs :=
  ⟨(lit_seq w t k zs).more (by simp), hn, Nat.le_refl _, hm⟩
theorem tiny_byte (l : List Int) (h : l.all (fun z => decide (0 ≤ z ∧ z < 256)) = true) : ∀ z ∈ l, isByte z := by
  intro z hz
  have h1 := List.all_eq_true.1 h z hz
  exact (of_decide_eq_true h1 : 0 ≤ z ∧ z < 256)
theorem RowOut.is {k : IntKind} {t : TypeId} {w : World} {zs zs' : List Int} {E E' : Int} {e : Ending} {w' : World} (h : RowOut k t w zs E e w') {n : Nat} (hz : zs = zs') (hE : E = E') (hn : zs'.length = n) :
    ∃ A c, e = .returned (.tuple #[.slice A n c, .int .i64 E']) ∧ w'.ownsRow w.heap.size t 1 (.slice A n c) n (ints k zs') ∧ Below w.heap.size w w' := by
  subst hz; subst hE; subst hn; exact h

set_option maxHeartbeats 1600000 in
theorem alive_any (w : World) : Calls Try.prog 13 #[] w fun e w' => e = .returned (.bool true) ∧ Below w.heap.size w w' := by
  have hml : (1000 : Nat) ≤ maxLen := by decide
  have x1 := Of_any 10 _ 4 4 [1, 8, 9, 1] _ (lit_arg w 3 .i64 [1, 8, 9, 1] 4 rfl (by omega))
  have X1 := Lib.hid x1
  have e1 : strOfNums [2, 3] = ⟨#[2, 3]⟩ := by decide
  have E1 := Lib.hid e1
  clear x1 e1
  go_enter Try.func13, Try.ntmps13
  go_wp2_with fail
  refine X1.out.mono ?_
  intro e w1 hout
  obtain ⟨A, c, rfl, hown, hbel⟩ := hout.is (zs' := [2, 3]) (E' := 0) (by kernel_rfl) (by kernel_rfl) rfl
  have B1 := Lib.hid (((Below.refl _ _).alloc (Nat.le_refl _) _).trans (hbel.mono (by simp)))
  have S1 := Lib.hid (Arg.own hown)
  clear hout hown hbel
  have x2 := Next_any 10 A 2 c [2, 3] 2 w1 S1.out (tiny_byte _ rfl)
  rw [show nextV 10 [2, 3] 2 = 8 by kernel_rfl, show trkE 10 [2, 3] 2 = 0 by kernel_rfl] at x2
  have X2 := Lib.hid x2
  clear x2
  go_wp2_with fail
  refine X2.out.mono ?_
  rintro e w2 ⟨rfl, hbel⟩
  have S2 := Lib.hid (S1.out.below hbel)
  have B2 := Lib.hid (B1.out.trans (hbel.mono B1.out.size))
  have x3 := List_any 10 A 2 c [2, 3] w2 S2.out (tiny_byte _ rfl)
  have X3 := Lib.hid x3
  clear x3 hbel
  go_wp2_with fail
  refine X3.out.mono ?_
  intro e w3 hout
  obtain ⟨A3, c3, rfl, hown, hbel⟩ := hout.is (zs' := [1, 8, 9]) (E' := 0) (by kernel_rfl) (by kernel_rfl) rfl
  have B3 := Lib.hid (B2.out.trans (hbel.mono B2.out.size))
  have S3 := Lib.hid (S2.out.below hbel)
  have O3 := Lib.hid (Arg.own hown)
  have hst := run_str (P := Try.prog) w3 25 9 5 Try.underlying25 Try.underlying5 Try.underlying9 (c := c) S3.out.seq (show ([2, 3] : List Int).length = 2 from rfl)
  rw [E1.out] at hst
  have x4 := same_ints A3 (some ⟨w3.heap.size, 0, none⟩) 3 c3 3 [1, 8, 9] (w3.alloc (.cells (ints .i64 [1, 8, 9]).toArray 3)) _ (O3.out.below ((Below.refl _ _).alloc (Nat.le_refl _) _)).seq (lit_arg w3 3 .i64 [1, 8, 9] 3 rfl (by omega)).seq rfl (by omega)
  have X4 := Lib.hid x4
  clear hout hown hbel x4
  go_wp2_with fail
  refine X4.out.mono ?_
  rintro e w4 ⟨rfl, q, rfl⟩
  go_wp2
  go_ret
  exact ⟨rfl, below_drewN (B3.out.alloc B3.out.size _) q⟩

end Go.Proofs.Ytpkecbejnpkieaa
