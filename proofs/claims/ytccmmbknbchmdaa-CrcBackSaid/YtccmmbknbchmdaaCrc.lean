/- Layer 2, package crc: what take, takeAll, Sum and More return, in the words of CrcMath. -/
import Derived.Test.YtccmmbknbchmdaaBase
import Derived.Test.YtccmmbknbchmdaaCrcMath
import Derived.Laws.BitsAllLaws
import Derived.WalkMore
import Derived.ScopeJumps
import Derived.Deep.LoopGhost
namespace Go.Proofs.Ytccmmbknbchmdaa
open Go.RowKit
set_option linter.unusedVariables false

theorem u32_and_one (x : Nat) (h : x < 4294967296) : bits .and .u32 (x : Int) 1 = ((x % 2 : Nat) : Int) := by
  have := u32_and_nat x 1 h (by omega)
  rw [nat_mask1] at this
  exact this
theorem u32_xor_pat (x : Nat) (h : x < 4294967296) : bits .xor .u32 (x : Int) 3988292384 = ((x ^^^ 3988292384 : Nat) : Int) := u32_xor_nat x 3988292384 h (by omega)

set_option maxHeartbeats 400000 in
theorem take_any (s c : Nat) (w : World) (hs : s < 4294967296) (hc : c < 256) :
    Calls Try.prog 23 #[.int .u32 (s : Int), .int .u8 (c : Int)] w fun e w' => e = .returned (.int .u32 (tak s c : Nat)) ∧ w = w' := by
  have hx := u32_xor_nat s c hs (by omega)
  obtain ⟨x, hxe⟩ : ∃ x, x = s ^^^ c := ⟨_, rfl⟩
  have hxw : isW x := by rw [hxe]; exact isW_xor hs (show c < 4294967296 by omega)
  have HX := Lib.hid hxe
  rw [← hxe] at hx
  clear hxe
  go_enter Try.func23, Try.ntmps23
  go_wp2
  go_step3
  go_wp2
  go_step3
  go_wp2
  go_loop [0, 10] (fun u i => ∃ k : Nat, k ≤ 8 ∧ i = .int .i64 k ∧ u = .int .u32 (stps k x : Nat)) (fun _ i => 8 - (intOf i).toNat)
  case atStart => exact ⟨0, Nat.zero_le _, rfl, rfl⟩
  case round =>
    obtain ⟨k, hk, rfl, rfl⟩ := hrel
    by_cases hk8 : k < 8
    · have hy := stps_w k hxw
      have hst : stps (k + 1) x = stp (stps k x) := rfl
      have HS := Lib.hid hst
      clear hst
      obtain ⟨y, hye⟩ : ∃ y, y = stps k x := ⟨_, rfl⟩
      rw [← hye] at hy HS ⊢
      have hy2 : y / 2 < 4294967296 := by have : y < 4294967296 := hy; omega
      have h1 := u32_and_one y hy
      have h2 := u32_xor_pat (y / 2) hy2
      rw [show ((y / 2 : Nat) : Int) = (y : Int) / 2 from by omega] at h2
      clear hye
      rcases Nat.mod_two_eq_zero_or_one y with hp | hp
      · have hb : (bits .and .u32 (y : Int) 1 == 0) = true := by rw [h1, hp]; rfl
        have HP := Lib.hid hp
        clear h1 hp h2
        go_wp2
        go_round
        case rel => exact ⟨k + 1, by omega, by go_num, by rw [HS.out, stp, if_neg (by have := HP.out; omega)]; go_num⟩
        case measure => simp [intOf]; omega
      · have hb : (bits .and .u32 (y : Int) 1 == 0) = false := by rw [h1, hp]; rfl
        have HP := Lib.hid hp
        have H2 := Lib.hid h2
        clear h1 hp h2
        go_wp2
        go_round
        case rel => exact ⟨k + 1, by omega, by go_num, by rw [HS.out, stp, if_pos HP.out, H2.out]⟩
        case measure => simp [intOf]; omega
    · obtain rfl : k = 8 := by omega
      obtain ⟨y, hye⟩ : ∃ y, y = stps 8 x := ⟨_, rfl⟩
      have HY := Lib.hid hye
      rw [← hye]
      clear hye
      go_wp2
      try rw [Exit.noGoto_ret]
      go_ret
      exact ⟨by rw [HY.out, HX.out]; rfl, rfl⟩

set_option maxHeartbeats 400000 in
theorem takeAll_any (s : Nat) (A : Option Addr) (n c : Nat) (l : List Int) (w : World) (B : Nat) (h : Seq w B A (ints .u8 l)) (hl : l.length = n) (hn : n ≤ maxLen) (hs : s < 4294967296) (hb : ∀ z ∈ l, isByte z) :
    Calls Try.prog 20 #[.int .u32 (s : Int), .slice A n c] w fun e w' => e = .returned (.int .u32 (takAll s l : Nat)) ∧ w = w' := by
  subst hl
  unfold maxLen at hn
  have HB := Lib.hid hb
  clear hb
  go_enter Try.func20, Try.ntmps20
  go_wp2
  go_loop [0, 9] (fun u i => ∃ k : Nat, k ≤ l.length ∧ i = .int .i64 k ∧ u = .int .u32 (takTo s l k : Nat)) (fun _ i => l.length - (intOf i).toNat)
  case atStart => exact ⟨0, Nat.zero_le _, rfl, rfl⟩
  case round =>
    obtain ⟨k, hk, rfl, rfl⟩ := hrel
    have hy := takTo_w (w := s) (l := l) hs HB.out k
    by_cases hkn : k < l.length
    · obtain ⟨b, o, rfl, hlt, hc⟩ := h.int hkn
      rw [byt_cast HB.out hkn] at hc
      have hbl := byt_lt HB.out k
      have hst : takTo s l (k + 1) = tak (takTo s l k) (byt l k) := rfl
      have HS := Lib.hid hst
      clear hst h
      obtain ⟨y, hye⟩ : ∃ y, y = takTo s l k := ⟨_, rfl⟩
      obtain ⟨v, hve⟩ : ∃ v, v = byt l k := ⟨_, rfl⟩
      rw [← hye] at hy HS ⊢
      rw [← hve] at hbl HS hc
      clear hye hve
      have T := Lib.hid (take_any y v w hy hbl)
      go_wp2_with fail
      refine T.out.mono ?_
      rintro e w' ⟨rfl, rfl⟩
      go_wp2
      go_round
      case rel => exact ⟨k + 1, by omega, by go_num, by rw [HS.out]⟩
      case measure => simp [intOf]; omega
    · obtain rfl : k = l.length := by omega
      obtain ⟨y, hye⟩ : ∃ y, y = takTo s l l.length := ⟨_, rfl⟩
      have HY := Lib.hid hye
      rw [← hye]
      clear hye
      go_wp2
      go_ret
      exact ⟨by rw [HY.out]; rfl, rfl⟩

theorem trn_eq (x : Nat) : trn x = ones ^^^ x := by rw [trn]
theorem ones_eq : ones = 4294967295 := by rw [ones]
theorem u32_trn (x : Nat) (h : x < 4294967296) : bits .xor .u32 4294967295 (x : Int) = ((trn x : Nat) : Int) := by
  rw [trn_eq, ones_eq]
  exact u32_xor_nat 4294967295 x (by omega) h
theorem u32_max : IntKind.u32.max = 4294967295 := by decide
theorem u32_trn_max (x : Nat) (h : x < 4294967296) : bits .xor .u32 IntKind.u32.max (x : Int) = ((trn x : Nat) : Int) := by rw [u32_max]; exact u32_trn x h

theorem sum_any (A : Option Addr) (n c : Nat) (l : List Int) (w : World) (B : Nat) (h : Seq w B A (ints .u8 l)) (hl : l.length = n) (hn : n ≤ maxLen) (hb : ∀ z ∈ l, isByte z) :
    Calls Try.prog 12 #[.slice A n c] w fun e w' => e = .returned (.int .u32 (sum l : Nat)) ∧ w = w' := by
  have hy : isW (takAll ones l) := takAll_w ones_w hb
  have hs : sum l = trn (takAll ones l) := by rw [sum]
  have T := takeAll_any ones A n c l w B h hl hn ones_w hb
  obtain ⟨y, hye⟩ : ∃ y, y = takAll ones l := ⟨_, rfl⟩
  rw [hs]
  rw [← hye] at T hy ⊢
  rw [ones_eq] at T
  have hx := u32_trn_max y hy
  obtain ⟨u, hu⟩ : ∃ u, u = trn y := ⟨_, rfl⟩
  rw [← hu] at hx ⊢
  have T := Lib.hid T
  clear hye hs h hu
  go_enter Try.func12, Try.ntmps12
  go_wp2_with fail
  refine T.out.mono ?_
  rintro e w' ⟨rfl, rfl⟩
  go_wp2
  go_ret
  exact ⟨rfl, rfl⟩

set_option maxHeartbeats 400000 in
theorem more_any (s : Nat) (A : Option Addr) (n c : Nat) (l : List Int) (w : World) (B : Nat) (h : Seq w B A (ints .u8 l)) (hl : l.length = n) (hn : n ≤ maxLen) (hs : s < 4294967296) (hb : ∀ z ∈ l, isByte z) :
    Calls Try.prog 14 #[.int .u32 (s : Int), .slice A n c] w fun e w' => e = .returned (.int .u32 (more s l : Nat)) ∧ w = w' := by
  have hv : isW (trn s) := trn_w hs
  have hx2 := u32_trn_max s hs
  have hse : more s l = trn (takAll (trn s) l) := by rw [more]
  rw [hse]
  obtain ⟨v, hve⟩ : ∃ v, v = trn s := ⟨_, rfl⟩
  rw [← hve] at hv hx2 ⊢
  have T := takeAll_any v A n c l w B h hl hn hv hb
  have hy : isW (takAll v l) := takAll_w hv hb
  obtain ⟨y, hye⟩ : ∃ y, y = takAll v l := ⟨_, rfl⟩
  rw [← hye] at T hy ⊢
  have hx := u32_trn_max y hy
  obtain ⟨u, hu⟩ : ∃ u, u = trn y := ⟨_, rfl⟩
  rw [← hu] at hx ⊢
  have T := Lib.hid T
  clear hye hse h hve hu
  go_enter Try.func14, Try.ntmps14
  go_wp2_with fail
  refine T.out.mono ?_
  rintro e w' ⟨rfl, rfl⟩
  go_wp2
  go_ret
  exact ⟨rfl, rfl⟩

end Go.Proofs.Ytccmmbknbchmdaa
