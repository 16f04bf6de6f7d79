/- Layer 1: what the document's own answers return, in the words of NumMath. -/
import Derived.Test.YtkmimecakpghhaaBase
import Derived.Test.YtkmimecakpghhaaNumMath
import Derived.StillTailTactics
namespace Go.Proofs.Ytkmimecakpghhaa
open Go.RowKit
set_option linter.unusedVariables false

theorem total_ok (A : Option Addr) (n c : Nat) (s : List Int) (w : World) (B : Nat) (h : Seq w B A (ints .i64 s)) (hs : s.length = n) (hok : okB s = true) :
    Calls Try.prog 21 #[.slice A n c] w fun e w' => e = .returned (.int .i64 (atTo s n)) ∧ w = w' := by
  subst hs
  have h16 : s.length ≤ 16 := by simp [okB] at hok; exact hok.1
  have hoo := Lib.hid (show okTo s s.length = true by simp [okB] at hok; exact hok.2)
  clear hok
  go_enter Try.func21, Try.ntmps21
  go_wp2
  go_loop [3, 4] (fun v i => ∃ k : Nat, k ≤ s.length ∧ i = .int .i64 k ∧ v = .int .i64 (atTo s k)) (fun _ i => s.length - (intOf i).toNat)
  case atStart => exact ⟨0, Nat.zero_le _, rfl, rfl⟩
  case round =>
    obtain ⟨k, hk, rfl, rfl⟩ := hrel
    by_cases hkn : k < s.length
    · obtain ⟨b, o, rfl, hlt, hc⟩ := h.int hkn
      have hat := okTo_at hoo.out hkn
      have hle := atTo_le hoo.out hk
      obtain ⟨z, hz⟩ : ∃ z, z = s.getD k 0 := ⟨_, rfl⟩
      rw [← hz] at hc hat
      have HZ := Lib.hid hz
      obtain ⟨h1, h2⟩ := hat
      clear hz h
      go_wp2
      go_round
      case rel => exact ⟨k + 1, by omega, by go_num, by rw [atTo, szOf, ← HZ.out]; congr 1; omega⟩
      case measure => simp [intOf]; omega
    · obtain rfl : k = s.length := by omega
      go_wp2
      go_ret
      exact ⟨rfl, rfl⟩

theorem total_no (A : Option Addr) (n c : Nat) (s : List Int) (w : World) (B : Nat) (h : Seq w B A (ints .i64 s)) (hs : s.length = n) (hn : n ≤ 1000) (hno : okB s = false) :
    Calls Try.prog 21 #[.slice A n c] w fun e w' => e = .returned (.int .i64 (-1)) ∧ w = w' := by
  subst hs
  by_cases h16 : 16 < s.length
  · go_enter Try.func21, Try.ntmps21
    go_wp2
    go_ret
    exact ⟨rfl, rfl⟩
  · have hno' := Lib.hid (show okTo s s.length = false by simpa [okB, show s.length ≤ 16 from by omega] using hno)
    clear hno
    go_enter Try.func21, Try.ntmps21
    go_wp2
    go_loop [3, 4] (fun v i => ∃ k : Nat, k ≤ s.length ∧ Hid (okTo s k = true) ∧ i = .int .i64 k ∧ v = .int .i64 (atTo s k)) (fun _ i => s.length - (intOf i).toNat)
    case atStart => exact ⟨0, Nat.zero_le _, rfl, rfl, rfl⟩
    case round =>
      obtain ⟨k, hk, hok, rfl, rfl⟩ := hrel
      by_cases hkn : k < s.length
      · obtain ⟨b, o, rfl, hlt, hc⟩ := h.int hkn
        obtain ⟨z, hz⟩ : ∃ z, z = s.getD k 0 := ⟨_, rfl⟩
        rw [← hz] at hc
        have HZ := Lib.hid hz
        clear hz h
        by_cases h1 : z < 1
        · go_wp2
          go_ret
          exact ⟨rfl, rfl⟩
        · by_cases h2 : 8 < z
          · go_wp2
            go_ret
            exact ⟨rfl, rfl⟩
          · have hle := atTo_le hok.out (Nat.le_refl k)
            go_wp2
            go_round
            case rel => exact ⟨k + 1, by omega, by show okTo s (k + 1) = true; rw [okTo, hok.out, ← HZ.out]; simp; omega, by go_num, by rw [atTo, szOf, ← HZ.out]; congr 1; omega⟩
            case measure => simp [intOf]; omega
      · obtain rfl : k = s.length := by omega
        have := hno'.out
        rw [hok.out] at this
        cases this

theorem rsize_ok (A : Option Addr) (n c : Nat) (s : List Int) (w : World) (B : Nat) (h : Seq w B A (ints .i64 s)) (hs : s.length = n) (hok : okB s = true) :
    Calls Try.prog 12 #[.slice A n c] w fun e w' => e = .returned (.tuple #[.int .i64 (atTo s n), .int .i64 0]) ∧ w = w' := by
  go_enter Try.func12, Try.ntmps12
  go_wp2_with fail
  refine (total_ok A n c s _ B h hs hok).mono ?_
  rintro e w' ⟨rfl, rfl⟩
  go_wp2_with fail
  refine (total_ok A n c s _ B h hs hok).mono ?_
  rintro e w' ⟨rfl, rfl⟩
  go_wp2
  go_ret2
  exact ⟨rfl, rfl⟩
theorem rsize_no (A : Option Addr) (n c : Nat) (s : List Int) (w : World) (B : Nat) (h : Seq w B A (ints .i64 s)) (hs : s.length = n) (hn : n ≤ 1000) (hno : okB s = false) :
    Calls Try.prog 12 #[.slice A n c] w fun e w' => e = .returned (.tuple #[.int .i64 0, .int .i64 2]) ∧ w = w' := by
  go_enter Try.func12, Try.ntmps12
  go_wp2_with fail
  refine (total_no A n c s _ B h hs hn hno).mono ?_
  rintro e w' ⟨rfl, rfl⟩
  go_wp2
  go_ret2
  exact ⟨rfl, rfl⟩

theorem rbyte_info : (Try.prog.info? 5).map (fun i => (i.zero, i.size, i.bytes)) = some (some (.int .u8 0), 1, 1) := by kernel_rfl
theorem rword_info : (Try.prog.info? 26).map (fun i => (i.zero, i.size, i.bytes)) = some (some (.int .u64 0), 1, 8) := by kernel_rfl

/-- What Digits answers. -/
def DigOut (n : Nat) (v : Int) (w : World) (e : Ending) (w' : World) : Prop :=
  ∃ A c, e = .returned (.tuple #[.slice A n c, .bool (decide (v / 256 ^ n = 0))]) ∧ w'.ownsRow w.heap.size 5 1 (.slice A n c) n (ints .u8 (digs n v)) ∧ Below w.heap.size w w'

set_option maxHeartbeats 400000 in
theorem digits_any (n : Nat) (v : Int) (w : World) (hn : n ≤ 100) (h0 : 0 ≤ v) (h1 : v < 18446744073709551616) :
    Calls Try.prog 22 #[.int .u64 v, .int .i64 n] w (DigOut n v w) := by
  obtain ⟨i0, hi0, hz0, hz1, hz2⟩ := info_parts rbyte_info
  go_enter Try.func22, Try.ntmps22
  go_wp2
  go_loopw [0, 6, 7] (fun u out i wr => ∃ k : Nat, k ≤ n ∧ i = .int .i64 k ∧ u = .int .u64 (v / 256 ^ k) ∧ (∃ A c, out = .slice A k c) ∧ wr.ownsRow w.heap.size 5 1 out k (ints .u8 (digs k v)) ∧ Below w.heap.size w wr) (fun _ _ i _ => n - (intOf i).toNat)
  case atStart => exact ⟨0, Nat.zero_le _, rfl, by simp, ⟨_, _, rfl⟩, World.ownsRow_nil _ _ _ _, Below.refl _ _⟩
  case round =>
    obtain ⟨k, hk, rfl, rfl, ⟨A, c, rfl⟩, hown, hbel⟩ := hrel
    by_cases hkn : k < n
    · have hq : 0 ≤ v / 256 ^ k := Int.ediv_nonneg h0 (Int.le_of_lt (Int.pow_pos (by omega)))
      obtain ⟨q, hqe⟩ : ∃ q, q = v / 256 ^ k := ⟨_, rfl⟩
      rw [← hqe] at hq ⊢
      have hq2 : q < 18446744073709551616 := by
        have := Int.ediv_le_self (a := v) (256 ^ k) h0
        omega
      have HQ := Lib.hid hqe
      have HO := Lib.hid hown
      have HBL := Lib.hid hbel
      clear hqe hown hbel
      have hsz := HBL.out.size
      have hsrc := (Seq.own HO.out).alloc (Nat.le_refl _) (.cells #[.int .u8 (q % 256)] 5)
      have hlit := World.ownsRow_lit (base := w.heap.size) (e := 5) (size := 1) wr #[.int .u8 (q % 256)] 1 hsz (by decide) rfl
      have HS := Lib.hid hsrc
      have HL := Lib.hid hlit
      clear hsrc hlit
      go_wp2_with (at_builtin; go_must (refine wpList_app _ rfl (.tmp 16) (.tmp 17) _ rfl w.heap.size 5 i0 _ 1 Try.underlying22 hi0 hz0 hz1 hz2 rfl _ 1 _ rfl HL.out wr.heap.size A k c (ints .u8 (digs k v)) rfl (by rw [ints_length, digs_length]) HS.out (ints_one _ _) (by simp only [maxLen]; omega) (by omega) (by simp; omega) ?_); intro v' w1 hown1 hg1 hob1)
      obtain ⟨A1, c1, rfl⟩ := owns_slice hown1
      have HO1 := Lib.hid hown1
      have HG1 := Lib.hid hg1
      clear hown1 hg1 hob1
      go_wp2
      go_roundw
      case rel =>
        refine ⟨k + 1, by omega, by go_num, by rw [HQ.out, Int.pow_succ, ← Int.ediv_ediv_of_nonneg (Int.le_of_lt (Int.pow_pos (by omega)))], ⟨A1, c1, by rw [Nat.add_comm]⟩, ?_, ?_⟩
        · have := HO1.out
          rw [Nat.add_comm 1 k] at this
          rw [digs_cons, ← HQ.out, Nat.add_comm 1 k]
          exact this
        · exact (HBL.out.alloc hsz _).grown HG1.out (by simp; omega) (fun g e => by have e : some wr.heap.size = some g := e; injection e with e; omega)
      case measure => simp [intOf]; omega
    · obtain rfl : k = n := by omega
      obtain ⟨q, hqe⟩ : ∃ q, q = v / 256 ^ k := ⟨_, rfl⟩
      rw [← hqe]
      have HQ := Lib.hid hqe
      have HO := Lib.hid hown
      have HBL := Lib.hid hbel
      clear hqe hown hbel
      go_wp2
      go_ret2
      exact ⟨A, c, by rw [← HQ.out]; rfl, HO.out, HBL.out⟩

end Go.Proofs.Ytkmimecakpghhaa
