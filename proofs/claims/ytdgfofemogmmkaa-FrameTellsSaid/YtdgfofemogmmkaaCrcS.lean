/- Layer 2: what the document's own sums return, in the words of CrcMath. -/
/- Layer 2, package crc: a sum's four bytes are put down, and taken out again. -/
import Derived.Test.YtdgfofemogmmkaaCrc
namespace Go.Proofs.Ytdgfofemogmmkaa
open Go.RowKit
set_option linter.unusedVariables false

set_option maxHeartbeats 400000 in
theorem taken_any (s c : Nat) (w : World) (hs : s < 4294967296) (hc : c < 256) :
    Calls Try.prog 46 #[.int .u32 (s : Int), .int .u8 (c : Int)] w fun e w' => e = .returned (.int .u32 (tak s c : Nat)) ∧ w = w' := by
  have hx := u32_xor_nat s c hs (by omega)
  obtain ⟨x, hxe⟩ : ∃ x, x = s ^^^ c := ⟨_, rfl⟩
  have hxw : isW x := by rw [hxe]; exact isW_xor hs (show c < 4294967296 by omega)
  have HX := Lib.hid hxe
  rw [← hxe] at hx
  clear hxe
  go_enter Try.func46, Try.ntmps46
  go_wp2
  go_loop [0, 5] (fun u i => ∃ k : Nat, k ≤ 8 ∧ i = .int .i64 k ∧ u = .int .u32 (stps k x : Nat)) (fun _ i => 8 - (intOf i).toNat)
  case atStart => exact ⟨0, Nat.zero_le _, rfl, rfl⟩
  case round =>
    obtain ⟨k, hk, rfl, rfl⟩ := hrel
    by_cases hk8 : k < 8
    · have hy := stps_w k hxw
      have hst : stps (k + 1) x = stp (stps k x) := rfl
      have HS := Lib.hid hst
      clear hst
      obtain ⟨y, hye⟩ : ∃ y, y = stps k x := ⟨_, rfl⟩
      rw [← hye] at hy HS ⊢
      have hy2 : y / 2 < 4294967296 := by have : y < 4294967296 := hy; omega
      have h2 := u32_xor_pat (y / 2) hy2
      rw [show ((y / 2 : Nat) : Int) = (y : Int) / 2 from by omega] at h2
      clear hye
      rcases Nat.mod_two_eq_zero_or_one y with hp | hp
      · have hb : ((y : Int) % 2 == 1) = false := by rw [beq_eq_false_iff_ne]; omega
        have HP := Lib.hid hp
        clear hp h2
        go_wp2
        go_round
        case rel => exact ⟨k + 1, by omega, by go_num, by rw [HS.out, stp, if_neg (by have := HP.out; omega)]; go_num⟩
        case measure => simp [intOf]; omega
      · have hb : ((y : Int) % 2 == 1) = true := by rw [beq_iff_eq]; omega
        have HP := Lib.hid hp
        have H2 := Lib.hid h2
        clear hp h2
        go_wp2
        go_round
        case rel => exact ⟨k + 1, by omega, by go_num, by rw [HS.out, stp, if_pos HP.out, H2.out]⟩
        case measure => simp [intOf]; omega
    · obtain rfl : k = 8 := by omega
      obtain ⟨y, hye⟩ : ∃ y, y = stps 8 x := ⟨_, rfl⟩
      have HY := Lib.hid hye
      rw [← hye]
      clear hye
      go_wp2
      go_ret
      exact ⟨by rw [HY.out, HX.out]; rfl, rfl⟩

set_option maxHeartbeats 400000 in
theorem behindC_any (s : Nat) (A : Option Addr) (n c : Nat) (l : List Int) (w : World) (B : Nat) (h : Seq w B A (ints .u8 l)) (hl : l.length = n) (hn : n ≤ maxLen) (hs : s < 4294967296) (hb : ∀ z ∈ l, isByte z) :
    Calls Try.prog 45 #[.int .u32 (s : Int), .slice A n c] w fun e w' => e = .returned (.int .u32 (takAll s l : Nat)) ∧ w = w' := by
  subst hl
  unfold maxLen at hn
  have HB := Lib.hid hb
  clear hb
  go_enter Try.func45, Try.ntmps45
  go_wp2
  go_loop [0, 5] (fun u i => ∃ k : Nat, k ≤ l.length ∧ i = .int .i64 k ∧ u = .int .u32 (takTo s l k : Nat)) (fun _ i => l.length - (intOf i).toNat)
  case atStart => exact ⟨0, Nat.zero_le _, rfl, rfl⟩
  case round =>
    obtain ⟨k, hk, rfl, rfl⟩ := hrel
    have hy := takTo_w (w := s) (l := l) hs HB.out k
    by_cases hkn : k < l.length
    · obtain ⟨b, o, rfl, hlt, hc⟩ := h.int hkn
      rw [byt_cast HB.out hkn] at hc
      have hbl := byt_lt HB.out k
      have hst : takTo s l (k + 1) = tak (takTo s l k) (byt l k) := rfl
      have HS := Lib.hid hst
      clear hst h
      obtain ⟨y, hye⟩ : ∃ y, y = takTo s l k := ⟨_, rfl⟩
      obtain ⟨v, hve⟩ : ∃ v, v = byt l k := ⟨_, rfl⟩
      rw [← hye] at hy HS ⊢
      rw [← hve] at hbl HS hc
      clear hye hve
      have T := Lib.hid (taken_any y v w hy hbl)
      go_wp2_with fail
      refine T.out.mono ?_
      rintro e w' ⟨rfl, rfl⟩
      go_wp2
      go_round
      case rel => exact ⟨k + 1, by omega, by go_num, by rw [HS.out]⟩
      case measure => simp [intOf]; omega
    · obtain rfl : k = l.length := by omega
      obtain ⟨y, hye⟩ : ∃ y, y = takTo s l l.length := ⟨_, rfl⟩
      have HY := Lib.hid hye
      rw [← hye]
      clear hye
      go_wp2
      go_ret
      exact ⟨by rw [HY.out]; rfl, rfl⟩

theorem u32_trn_r (x : Nat) (h : x < 4294967296) : bits .xor .u32 (x : Int) 4294967295 = ((trn x : Nat) : Int) := by
  rw [trn_eq, ones_eq, Nat.xor_comm]
  exact u32_xor_nat x 4294967295 h (by omega)

theorem rsum_any (A : Option Addr) (n c : Nat) (l : List Int) (w : World) (B : Nat) (h : Seq w B A (ints .u8 l)) (hl : l.length = n) (hn : n ≤ maxLen) (hb : ∀ z ∈ l, isByte z) :
    Calls Try.prog 44 #[.slice A n c] w fun e w' => e = .returned (.int .u32 (sum l : Nat)) ∧ w = w' := by
  have hy : isW (takAll ones l) := takAll_w ones_w hb
  have hs : sum l = trn (takAll ones l) := by rw [sum]
  have T := behindC_any ones A n c l w B h hl hn ones_w hb
  obtain ⟨y, hye⟩ : ∃ y, y = takAll ones l := ⟨_, rfl⟩
  rw [hs]
  rw [← hye] at T hy ⊢
  rw [ones_eq] at T
  have hx := u32_trn_r y hy
  obtain ⟨u, hu⟩ : ∃ u, u = trn y := ⟨_, rfl⟩
  rw [← hu] at hx ⊢
  have T := Lib.hid T
  clear hye hs h hu
  go_enter Try.func44, Try.ntmps44
  go_wp2_with fail
  refine T.out.mono ?_
  rintro e w' ⟨rfl, rfl⟩
  go_wp2
  go_ret
  exact ⟨rfl, rfl⟩

end Go.Proofs.Ytdgfofemogmmkaa

namespace Go.Proofs.Ytdgfofemogmmkaa
open Go.RowKit
set_option linter.unusedVariables false

theorem or_le (y v k : Nat) (hy : y < 2 ^ (8 * k)) (hv : v < 256) (hk : k < 4) :
    bits .or .u32 (y : Int) ((v : Int) * 2 ^ (8 * k) % 4294967296) = ((y + v * 2 ^ (8 * k) : Nat) : Int) := by
  have h1 : v * 2 ^ (8 * k) < 4294967296 := by
    rcases (show k = 0 ∨ k = 1 ∨ k = 2 ∨ k = 3 by omega) with rfl | rfl | rfl | rfl <;> omega
  have h2 : y < 4294967296 := by
    rcases (show k = 0 ∨ k = 1 ∨ k = 2 ∨ k = 3 by omega) with rfl | rfl | rfl | rfl <;> omega
  have e : ((v : Int) * 2 ^ (8 * k) % 4294967296) = ((v * 2 ^ (8 * k) : Nat) : Int) := by
    have e1 : ((v : Int) * 2 ^ (8 * k)) = ((v * 2 ^ (8 * k) : Nat) : Int) := by rw [Int.natCast_mul, Int.natCast_pow]; rfl
    rw [e1]
    omega
  rw [e, u32_or_nat y _ h2 h1]
  have := Nat.two_pow_add_eq_or_of_lt hy v
  rw [Nat.or_comm, Nat.mul_comm, ← this, Nat.add_comm]

set_option maxHeartbeats 400000 in
theorem getSum_any (A : Option Addr) (c : Nat) (l : List Int) (w : World) (B : Nat) (h : Seq w B A (ints .u8 l)) (hl : l.length = 4) (hb : ∀ z ∈ l, isByte z) :
    Calls Try.prog 33 #[.slice A 4 c] w fun e w' => e = .returned (.int .u32 (leTo l 4 : Nat)) ∧ w = w' := by
  have HB := Lib.hid hb
  have HL := Lib.hid hl
  clear hb hl
  go_enter Try.func33, Try.ntmps33
  go_wp2
  go_loop [3, 5] (fun u i => ∃ k : Nat, k ≤ 4 ∧ i = .int .i64 k ∧ u = .int .u32 (leTo l k : Nat)) (fun _ i => 4 - (intOf i).toNat)
  case atStart => exact ⟨0, Nat.zero_le _, rfl, rfl⟩
  case round =>
    obtain ⟨k, hk, rfl, rfl⟩ := hrel
    by_cases hkn : k < 4
    · obtain ⟨b, o, rfl, hlt, hc⟩ := h.int (j := k) (by have := HL.out; omega)
      rw [byt_cast HB.out (by have := HL.out; omega)] at hc
      have hbl := byt_lt HB.out k
      obtain ⟨y, hye⟩ : ∃ y, y = leTo l k := ⟨_, rfl⟩
      obtain ⟨v, hve⟩ : ∃ v, v = byt l k := ⟨_, rfl⟩
      have hlt2 := leTo_lt HB.out k
      have hst : leTo l (k + 1) = leTo l k + byt l k * 2 ^ (8 * k) := rfl
      have HS := Lib.hid hst
      rw [← hye] at hlt2 HS ⊢
      rw [← hve] at hbl hc HS
      have ho := or_le y v k hlt2 hbl hkn
      have HO := Lib.hid ho
      clear hye hve h hst ho hlt2
      go_wp2
      go_round
      case rel => exact ⟨k + 1, by omega, by go_num, by rw [HS.out, HO.out]⟩
      case measure => simp [intOf]; omega
    · obtain rfl : k = 4 := by omega
      obtain ⟨y, hye⟩ : ∃ y, y = leTo l 4 := ⟨_, rfl⟩
      have HY := Lib.hid hye
      rw [← hye]
      clear hye
      go_wp2
      go_ret
      exact ⟨by rw [← HY.out]; rfl, rfl⟩

theorem le4_put (s : Nat) (P M : List Int) {n k : Nat} (hP : P.length = n) (hM : M.length = 4) (hk : k < 4) :
    (P ++ (le4 s).take k ++ M.drop k).set (n + k) ((s / 2 ^ (8 * k) % 256 : Nat) : Int) = P ++ (le4 s).take (k + 1) ++ M.drop (k + 1) := by
  subst hP
  match M, hM with
  | [a, b, c, d], _ =>
    rw [List.append_assoc, List.set_append, if_neg (by omega), show P.length + k - P.length = k from by omega, List.append_assoc]
    congr 1
    rcases (show k = 0 ∨ k = 1 ∨ k = 2 ∨ k = 3 by omega) with rfl | rfl | rfl | rfl <;> simp [le4]

theorem putSum_any (g n m c : Nat) (P M : List Int) (s : Nat) (w : World) (hb : Blk w g 5 (ints .u8 (P ++ M))) (hP : P.length = n) (hM : M.length = 4) (hs : s < 4294967296) :
    Calls Try.prog 23 #[.slice (some ⟨g, n, none⟩) 4 c, .int .u32 (s : Int)] w fun e w' => e = .returned (.tuple #[]) ∧ Blk w' g 5 (ints .u8 (P ++ le4 s)) ∧ w.grownBy w' (some g) := by
  go_enter Try.func23, Try.ntmps23
  go_wp2
  go_loopw [5] (fun i wr => ∃ k : Nat, k ≤ 4 ∧ i = .int .i64 k ∧ Blk wr g 5 (ints .u8 (P ++ (le4 s).take k ++ M.drop k)) ∧ w.grownBy wr (some g)) (fun i _ => 4 - (intOf i).toNat)
  case atStart => exact ⟨0, Nat.zero_le _, rfl, by simpa using hb, grownBy_refl _ _⟩
  case round =>
    obtain ⟨k, hk, rfl, hbk, hg⟩ := hrel
    by_cases hkn : k < 4
    · have hcell := hbk.cell (n + k)
      have hfree := hbk.free (n + k)
      rw [ints_getD .u8 _ (n + k) (by simp [le4_length]; omega)] at hcell
      have hset := hbk.set (n + k) (.int .u8 ((s / 2 ^ (8 * k) % 256 : Nat) : Int))
      rw [set_ints, le4_put s P M hP hM hkn] at hset
      have hgr := grownBy_trans hg (grownBy_set wr g (n + k) (.int .u8 ((s / 2 ^ (8 * k) % 256 : Nat) : Int)))
      have HS := Lib.hid hset
      have HG := Lib.hid hgr
      clear hset hgr hbk hg hb
      go_wp2
      go_roundw
      case rel => exact ⟨k + 1, by omega, by go_num, HS.out, HG.out⟩
      case measure => simp [intOf]; omega
    · obtain rfl : k = 4 := by omega
      have HB := Lib.hid hbk
      have HG := Lib.hid hg
      clear hbk hg hb
      have e1 : (P ++ (le4 s).take 4 ++ M.drop 4) = P ++ le4 s := by rw [List.drop_of_length_le (by omega), List.append_nil, List.take_of_length_le (by rw [le4_length]; omega)]
      rw [e1] at HB
      clear e1
      go_wp2
      first | go_end0 | refine bodyPost_ret (results_none rfl _ _ _) rfl ?_
      exact ⟨rfl, HB.out, HG.out⟩

end Go.Proofs.Ytdgfofemogmmkaa
