/- Layer 1: what the document's own Digits returns, in the words of NumMath. -/
import Derived.Test.YteinfkjlcpfeiaaBase
import Derived.Test.YteinfkjlcpfeiaaBase3
import Derived.Test.YteinfkjlcpfeiaaNumMath
import Derived.StillTailTactics
namespace Go.Proofs.Yteinfkjlcpfeiaa
open Go.RowKit
set_option linter.unusedVariables false

theorem rword_info : (Try.prog.info? 116).map (fun i => (i.zero, i.size, i.bytes)) = some (some (.int .u64 0), 1, 8) := by kernel_rfl

/-- What Digits answers. -/
def DigOut (n : Nat) (v : Int) (w : World) (e : Ending) (w' : World) : Prop :=
  ∃ A c, e = .returned (.tuple #[.slice A n c, .bool (decide (v / 256 ^ n = 0))]) ∧ w'.ownsRow w.heap.size 5 1 (.slice A n c) n (ints .u8 (digs n v)) ∧ Below w.heap.size w w'

set_option maxHeartbeats 400000 in
theorem digits_any (n : Nat) (v : Int) (w : World) (hn : n ≤ 100) (h0 : 0 ≤ v) (h1 : v < 18446744073709551616) :
    Calls Try.prog 117 #[.int .u64 v, .int .i64 n] w (DigOut n v w) := by
  obtain ⟨i0, hi0, hz0, hz1, hz2⟩ := info_parts byte_info
  go_enter Try.func117, Try.ntmps117
  go_wp2
  go_loopw [0, 6, 7] (fun u out i wr => ∃ k : Nat, k ≤ n ∧ i = .int .i64 k ∧ u = .int .u64 (v / 256 ^ k) ∧ (∃ A c, out = .slice A k c) ∧ wr.ownsRow w.heap.size 5 1 out k (ints .u8 (digs k v)) ∧ Below w.heap.size w wr) (fun _ _ i _ => n - (intOf i).toNat)
  case atStart => exact ⟨0, Nat.zero_le _, rfl, by simp, ⟨_, _, rfl⟩, World.ownsRow_nil _ _ _ _, Below.refl _ _⟩
  case round =>
    obtain ⟨k, hk, rfl, rfl, ⟨A, c, rfl⟩, hown, hbel⟩ := hrel
    by_cases hkn : k < n
    · have hq : 0 ≤ v / 256 ^ k := Int.ediv_nonneg h0 (Int.le_of_lt (Int.pow_pos (by omega)))
      obtain ⟨q, hqe⟩ : ∃ q, q = v / 256 ^ k := ⟨_, rfl⟩
      rw [← hqe] at hq ⊢
      have hq2 : q < 18446744073709551616 := by
        have := Int.ediv_le_self (a := v) (256 ^ k) h0
        omega
      have HQ := Lib.hid hqe
      have HO := Lib.hid hown
      have HBL := Lib.hid hbel
      clear hqe hown hbel
      have hsz := HBL.out.size
      have hsrc := (Seq.own HO.out).alloc (Nat.le_refl _) (.cells #[.int .u8 (q % 256)] 5)
      have hlit := World.ownsRow_lit (base := w.heap.size) (e := 5) (size := 1) wr #[.int .u8 (q % 256)] 1 hsz (by decide) rfl
      have HS := Lib.hid hsrc
      have HL := Lib.hid hlit
      clear hsrc hlit
      go_wp2_with (at_builtin; go_must (refine wpList_app _ rfl (.tmp 16) (.tmp 17) _ rfl w.heap.size 5 i0 _ 1 Try.underlying31 hi0 hz0 hz1 hz2 rfl _ 1 _ rfl HL.out wr.heap.size A k c (ints .u8 (digs k v)) rfl (by rw [ints_length, digs_length]) HS.out (ints_one _ _) (by simp only [maxLen]; omega) (by omega) (by simp; omega) ?_); intro v' w1 hown1 hg1 hob1)
      obtain ⟨A1, c1, rfl⟩ := owns_slice hown1
      have HO1 := Lib.hid hown1
      have HG1 := Lib.hid hg1
      clear hown1 hg1 hob1
      go_wp2
      go_roundw
      case rel =>
        refine ⟨k + 1, by omega, by go_num, by rw [HQ.out, Int.pow_succ, ← Int.ediv_ediv_of_nonneg (Int.le_of_lt (Int.pow_pos (by omega)))], ⟨A1, c1, by rw [Nat.add_comm]⟩, ?_, ?_⟩
        · have := HO1.out
          rw [Nat.add_comm 1 k] at this
          rw [digs_cons, ← HQ.out, Nat.add_comm 1 k]
          exact this
        · exact (HBL.out.alloc hsz _).grown HG1.out (by simp; omega) (fun g e => by have e : some wr.heap.size = some g := e; injection e with e; omega)
      case measure => simp [intOf]; omega
    · obtain rfl : k = n := by omega
      obtain ⟨q, hqe⟩ : ∃ q, q = v / 256 ^ k := ⟨_, rfl⟩
      rw [← hqe]
      have HQ := Lib.hid hqe
      have HO := Lib.hid hown
      have HBL := Lib.hid hbel
      clear hqe hown hbel
      go_wp2
      go_ret2
      exact ⟨A, c, by rw [← HQ.out]; rfl, HO.out, HBL.out⟩

end Go.Proofs.Yteinfkjlcpfeiaa
