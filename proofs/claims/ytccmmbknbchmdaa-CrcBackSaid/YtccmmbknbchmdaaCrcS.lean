/- Layer 2, package crc: a sum's four bytes are put down, and taken out again. -/
import Derived.Test.YtccmmbknbchmdaaCrc
namespace Go.Proofs.Ytccmmbknbchmdaa
open Go.RowKit
set_option linter.unusedVariables false

theorem or_le (y v k : Nat) (hy : y < 2 ^ (8 * k)) (hv : v < 256) (hk : k < 4) :
    bits .or .u32 (y : Int) ((v : Int) * 2 ^ (8 * k) % 4294967296) = ((y + v * 2 ^ (8 * k) : Nat) : Int) := by
  have h1 : v * 2 ^ (8 * k) < 4294967296 := by
    rcases (show k = 0 ∨ k = 1 ∨ k = 2 ∨ k = 3 by omega) with rfl | rfl | rfl | rfl <;> omega
  have h2 : y < 4294967296 := by
    rcases (show k = 0 ∨ k = 1 ∨ k = 2 ∨ k = 3 by omega) with rfl | rfl | rfl | rfl <;> omega
  have e : ((v : Int) * 2 ^ (8 * k) % 4294967296) = ((v * 2 ^ (8 * k) : Nat) : Int) := by
    have e1 : ((v : Int) * 2 ^ (8 * k)) = ((v * 2 ^ (8 * k) : Nat) : Int) := by rw [Int.natCast_mul, Int.natCast_pow]; rfl
    rw [e1]
    omega
  rw [e, u32_or_nat y _ h2 h1]
  have := Nat.two_pow_add_eq_or_of_lt hy v
  rw [Nat.or_comm, Nat.mul_comm, ← this, Nat.add_comm]

set_option maxHeartbeats 400000 in
theorem getSum_any (A : Option Addr) (c : Nat) (l : List Int) (w : World) (B : Nat) (h : Seq w B A (ints .u8 l)) (hl : l.length = 4) (hb : ∀ z ∈ l, isByte z) :
    Calls Try.prog 19 #[.slice A 4 c] w fun e w' => e = .returned (.int .u32 (leTo l 4 : Nat)) ∧ w = w' := by
  have HB := Lib.hid hb
  have HL := Lib.hid hl
  clear hb hl
  go_enter Try.func19, Try.ntmps19
  go_wp2
  go_loop [3, 5] (fun u i => ∃ k : Nat, k ≤ 4 ∧ i = .int .i64 k ∧ u = .int .u32 (leTo l k : Nat)) (fun _ i => 4 - (intOf i).toNat)
  case atStart => exact ⟨0, Nat.zero_le _, rfl, rfl⟩
  case round =>
    obtain ⟨k, hk, rfl, rfl⟩ := hrel
    by_cases hkn : k < 4
    · obtain ⟨b, o, rfl, hlt, hc⟩ := h.int (j := k) (by have := HL.out; omega)
      rw [byt_cast HB.out (by have := HL.out; omega)] at hc
      have hbl := byt_lt HB.out k
      obtain ⟨y, hye⟩ : ∃ y, y = leTo l k := ⟨_, rfl⟩
      obtain ⟨v, hve⟩ : ∃ v, v = byt l k := ⟨_, rfl⟩
      have hlt2 := leTo_lt HB.out k
      have hst : leTo l (k + 1) = leTo l k + byt l k * 2 ^ (8 * k) := rfl
      have HS := Lib.hid hst
      rw [← hye] at hlt2 HS ⊢
      rw [← hve] at hbl hc HS
      have ho := or_le y v k hlt2 hbl hkn
      have HO := Lib.hid ho
      clear hye hve h hst ho hlt2
      go_wp2
      go_round
      case rel => exact ⟨k + 1, by omega, by go_num, by rw [HS.out, HO.out]⟩
      case measure => simp [intOf]; omega
    · obtain rfl : k = 4 := by omega
      obtain ⟨y, hye⟩ : ∃ y, y = leTo l 4 := ⟨_, rfl⟩
      have HY := Lib.hid hye
      rw [← hye]
      clear hye
      go_wp2
      go_ret
      exact ⟨by rw [← HY.out]; rfl, rfl⟩

theorem set_ints (k : IntKind) (l : List Int) (i : Nat) (x : Int) : (ints k l).set i (.int k x) = ints k (l.set i x) := by
  simp [ints, List.map_set]
theorem le4_put (s : Nat) (P M : List Int) {n k : Nat} (hP : P.length = n) (hM : M.length = 4) (hk : k < 4) :
    (P ++ (le4 s).take k ++ M.drop k).set (n + k) ((s / 2 ^ (8 * k) % 256 : Nat) : Int) = P ++ (le4 s).take (k + 1) ++ M.drop (k + 1) := by
  subst hP
  match M, hM with
  | [a, b, c, d], _ =>
    rw [List.append_assoc, List.set_append, if_neg (by omega), show P.length + k - P.length = k from by omega, List.append_assoc]
    congr 1
    rcases (show k = 0 ∨ k = 1 ∨ k = 2 ∨ k = 3 by omega) with rfl | rfl | rfl | rfl <;> simp [le4]

theorem putSum_any (g n m c : Nat) (P M : List Int) (s : Nat) (w : World) (hb : Blk w g 5 (ints .u8 (P ++ M))) (hP : P.length = n) (hM : M.length = 4) (hs : s < 4294967296) :
    Calls Try.prog 18 #[.slice (some ⟨g, n, none⟩) 4 c, .int .u32 (s : Int)] w fun e w' => e = .returned (.tuple #[]) ∧ Blk w' g 5 (ints .u8 (P ++ le4 s)) ∧ w.grownBy w' (some g) := by
  go_enter Try.func18, Try.ntmps18
  go_wp2
  go_loopw [5] (fun i wr => ∃ k : Nat, k ≤ 4 ∧ i = .int .i64 k ∧ Blk wr g 5 (ints .u8 (P ++ (le4 s).take k ++ M.drop k)) ∧ w.grownBy wr (some g)) (fun i _ => 4 - (intOf i).toNat)
  case atStart => exact ⟨0, Nat.zero_le _, rfl, by simpa using hb, grownBy_refl _ _⟩
  case round =>
    obtain ⟨k, hk, rfl, hbk, hg⟩ := hrel
    by_cases hkn : k < 4
    · have hcell := hbk.cell (n + k)
      have hfree := hbk.free (n + k)
      rw [ints_getD .u8 _ (n + k) (by simp [le4_length]; omega)] at hcell
      have hset := hbk.set (n + k) (.int .u8 ((s / 2 ^ (8 * k) % 256 : Nat) : Int))
      rw [set_ints, le4_put s P M hP hM hkn] at hset
      have hgr := grownBy_trans hg (grownBy_set wr g (n + k) (.int .u8 ((s / 2 ^ (8 * k) % 256 : Nat) : Int)))
      have HS := Lib.hid hset
      have HG := Lib.hid hgr
      clear hset hgr hbk hg hb
      go_wp2
      go_roundw
      case rel => exact ⟨k + 1, by omega, by go_num, HS.out, HG.out⟩
      case measure => simp [intOf]; omega
    · obtain rfl : k = 4 := by omega
      have HB := Lib.hid hbk
      have HG := Lib.hid hg
      clear hbk hg hb
      have e1 : (P ++ (le4 s).take 4 ++ M.drop 4) = P ++ le4 s := by rw [List.drop_of_length_le (by omega), List.append_nil, List.take_of_length_le (by rw [le4_length]; omega)]
      rw [e1] at HB
      clear e1
      go_wp2
      first | go_end0 | refine bodyPost_ret (results_none rfl _ _ _) rfl ?_
      exact ⟨rfl, HB.out, HG.out⟩

end Go.Proofs.Ytccmmbknbchmdaa
