/- Layer 3, package bits: the small functions: numbers of tracks, pages, a track's bit; Check and a track's error. -/
import Derived.Test.YtiibmlbenamgcaaBase3
import Derived.Test.YtiibmlbenamgcaaBitsMath
import Derived.Laws.BitsAllLaws
import Derived.Laws.ShiftsVarLaws
import Derived.WalkMore
import Derived.ScopeJumps
import Derived.Deep.LoopGhost
import Derived.Deep.RegionWith
import Derived.StillTailTactics
import Derived.Lib.QuoteBits
namespace Go.Proofs.Ytiibmlbenamgcaa
open Go.RowKit
set_option linter.unusedVariables false
set_option maxRecDepth 100000

theorem many_yes (n : Int) (w : World) (h1 : 1 ≤ n) (h2 : n ≤ 16) : Calls Try.prog 47 #[.int .i64 n] w fun e w' => e = .returned (.bool true) ∧ w = w' := by
  go_enter Try.func47, Try.ntmps47
  go_wp2
  go_ret
  exact ⟨rfl, rfl⟩
theorem many_no (n : Int) (w : World) (h : ¬ (1 ≤ n ∧ n ≤ 16)) : Calls Try.prog 47 #[.int .i64 n] w fun e w' => e = .returned (.bool false) ∧ w = w' := by
  by_cases h1 : n < 1
  · clear h
    go_enter Try.func47, Try.ntmps47
    go_wp2
    go_ret
    exact ⟨rfl, rfl⟩
  · have h2 : 16 < n := by omega
    have h3 : 1 ≤ n := by omega
    clear h h1
    go_enter Try.func47, Try.ntmps47
    go_wp2
    go_ret
    exact ⟨by simp; omega, rfl⟩
theorem pages_any (m : Nat) (w : World) (h1 : 1 ≤ m) (h2 : m ≤ 16) : Calls Try.prog 48 #[.int .i64 (m : Int)] w fun e w' => e = .returned (.int .i64 (pgs m : Nat)) ∧ w = w' := by
  go_enter Try.func48, Try.ntmps48
  go_wp2
  go_ret
  exact ⟨by unfold pgs; go_num, rfl⟩
theorem bit_any (t : Nat) (w : World) (h : t < 16) : Calls Try.prog 71 #[.int .i64 (t : Int)] w fun e w' => e = .returned (.int .u8 ((2 ^ (t % 8) : Nat) : Int)) ∧ w = w' := by
  go_enter Try.func71, Try.ntmps71
  go_wp2
  go_ret
  have hp := pow_lt t
  have e : ((2 : Int) ^ (t % 8)) = ((2 ^ (t % 8) : Nat) : Int) := by simp
  rw [e]
  obtain ⟨y, hy⟩ : ∃ y, y = 2 ^ (t % 8) := ⟨_, rfl⟩
  rw [← hy] at hp ⊢
  exact ⟨by go_num, rfl⟩

theorem and_bit {x i : Nat} : (x &&& 2 ^ i != 0) = x.testBit i := by
  cases hx : x.testBit i
  · have : x &&& 2 ^ i = 0 := Nat.eq_of_testBit_eq fun j => by
      rw [Nat.testBit_and, Nat.testBit_two_pow, Nat.zero_testBit]
      by_cases e : i = j
      · subst e; simp [hx]
      · simp [e]
    simp [this]
  · have : x &&& 2 ^ i ≠ 0 := fun e => by
      have := congrArg (fun y => y.testBit i) e
      simp [hx] at this
    simp [this]
theorem u8_and_bit {x i : Nat} (hx : x < 256) (hp : 2 ^ i < 256) : (bits .and .u8 (x : Int) ((2 ^ i : Nat) : Int) != 0) = x.testBit i := by
  rw [u8_and_nat x _ hx hp, ← and_bit]
  generalize x &&& 2 ^ i = y
  cases y <;> rfl

theorem mark_any (base : Nat) (A : Option Addr) (n c : Nat) (l : List Int) (t : Nat) (w : World) (h : w.ownsRow base 5 1 (.slice A n c) n (ints .u8 l)) (hb : ∀ z ∈ l, isByte z) (ht : t < 16) (htn : t / 8 < n) :
    Calls Try.prog 49 #[.slice A n c, .int .i64 (t : Int)] w fun e w' => e = .returned (.tuple #[]) ∧ w'.ownsRow base 5 1 (.slice A n c) n (ints .u8 (markL l t)) ∧ w.grownBy w' (Value.slice A n c).ownBlock := by
  obtain ⟨g, rfl, hbg, hc, hf, hset⟩ := owns_int_at h htn
  rw [pg_cast hb] at hc
  have hp := pow_lt t
  have hx := pg_lt hb (t / 8)
  have hv := u8_or_nat _ _ hx hp
  have hE : markL l t = l.set (t / 8) ((pg l (t / 8) ||| 2 ^ (t % 8) : Nat) : Int) := rfl
  rw [hE]
  have T := bit_any t w.drew ht
  have hset := hset ((pg l (t / 8) ||| 2 ^ (t % 8) : Nat) : Int)
  obtain ⟨x, hxe⟩ : ∃ x, x = pg l (t / 8) := ⟨_, rfl⟩
  obtain ⟨y, hye⟩ : ∃ y, y = 2 ^ (t % 8) := ⟨_, rfl⟩
  rw [← hxe, ← hye] at hv hset ⊢
  rw [← hxe] at hc hx
  rw [← hye] at hp T
  obtain ⟨r, hre⟩ : ∃ r, r = x ||| y := ⟨_, rfl⟩
  rw [← hre] at hv hset ⊢
  have hset2 : (w.drew.setCell ⟨g, t / 8, none⟩ (.int .u8 (r : Int))).ownsRow base 5 1 (.slice (some ⟨g, 0, none⟩) n c) n (ints .u8 (l.set (t / 8) (r : Int))) := hset
  obtain ⟨k, hk⟩ : ∃ k : Nat, k = t / 8 := ⟨_, rfl⟩
  rw [← hk] at hc htn hf hset2 ⊢
  have hk2 : (t : Int) / 8 = (k : Int) := by omega
  have T := Lib.hid (T.mono fun e w'' (h : e = .returned (.int .u8 (y : Int)) ∧ w.drew = w'') => (⟨h.1, h.2.symm⟩ : e = .returned (.int .u8 (y : Int)) ∧ w'' = w.drew))
  have SET := Lib.hid hset2
  have hwr : IntKind.i64.wrap (k : Int) = k := Lib.wrap_i64_small k (by omega)
  have hkn : (k : Int) < (n : Int) := by omega
  clear hxe hye hre h hb hE hk hset hset2
  go_enter Try.func49, Try.ntmps49
  go_wp2
  refine wp_region_still_tail 9 (by kernel_rfl) (by kernel_rfl) ?_
  simp only [List.take_succ_cons, List.take_zero, List.drop_succ_cons, List.drop_zero]
  repeat still_step
  still_call T.out
  repeat still_step
  try refine wpStill_nil ?_
  change wpList _ _ _ _ _ w.drew
  go_wp2
  go_end0
  exact ⟨rfl, SET.out, grownBy_trans (grownBy_drew (grownBy_refl w _)) (grownBy_set _ _ _ _)⟩

theorem check_many (n : Int) (A : Option Addr) (k c : Nat) (w : World) (h : ¬ (1 ≤ n ∧ n ≤ 16)) :
    Calls Try.prog 24 #[.int .i64 n, .slice A k c] w fun e w' => e = .returned (.int .i64 2) ∧ w = w' := by
  have M := Lib.hid (many_no n w h)
  clear h
  go_enter Try.func24, Try.ntmps24
  go_wp2_with fail
  refine M.out.mono ?_
  rintro e w' ⟨rfl, rfl⟩
  go_wp2
  go_ret
  exact ⟨rfl, rfl⟩
theorem check_len (m : Nat) (A : Option Addr) (k c : Nat) (w : World) (h1 : 1 ≤ m) (h2 : m ≤ 16) (hk : k ≠ pgs m) :
    Calls Try.prog 24 #[.int .i64 (m : Int), .slice A k c] w fun e w' => e = .returned (.int .i64 8) ∧ w = w' := by
  have M := Lib.hid (many_yes m w (by omega) (by omega))
  have P := pages_any m w h1 h2
  obtain ⟨p, hp⟩ : ∃ p, p = pgs m := ⟨_, rfl⟩
  rw [← hp] at P hk
  have P := Lib.hid P
  have hne : ¬ (k : Int) = p := by omega
  clear hp
  go_enter Try.func24, Try.ntmps24
  go_wp2_with fail
  refine M.out.mono ?_
  rintro e w' ⟨rfl, rfl⟩
  go_wp2_with fail
  refine P.out.mono ?_
  rintro e w' ⟨rfl, rfl⟩
  go_wp2
  go_ret
  exact ⟨rfl, rfl⟩
set_option maxRecDepth 20000 in
set_option maxHeartbeats 800000 in
theorem check_last (m : Nat) (A : Option Addr) (k c : Nat) (l : List Int) (w : World) (B : Nat) (h : Seq w B A (ints .u8 l)) (hl : l.length = k) (hb : ∀ z ∈ l, isByte z) (h1 : 1 ≤ m) (h2 : m ≤ 16) (hk : k = pgs m) :
    Calls Try.prog 24 #[.int .i64 (m : Int), .slice A k c] w fun e w' => e = .returned (.int .i64 (if may m l then 0 else 8)) ∧ w = w' := by
  have M := Lib.hid (many_yes m w (by omega) (by omega))
  have P := pages_any m w h1 h2
  have hp0 : 1 ≤ pgs m ∧ 8 * (pgs m - 1) < m ∧ m ≤ 8 * pgs m := by unfold pgs; omega
  have hmay : may m l ↔ pg l (pgs m - 1) / 2 ^ (m - 8 * (pgs m - 1)) = 0 := by
    unfold may; exact ⟨fun h => h.2, fun h => ⟨hl.trans hk, h⟩⟩
  obtain ⟨b, o, rfl, hlt, hc⟩ := h.int (j := pgs m - 1) (by omega)
  rw [pg_cast hb] at hc
  have hx := pg_lt hb (pgs m - 1)
  obtain ⟨p, hp⟩ : ∃ p, pgs m = p + 1 := ⟨pgs m - 1, by omega⟩
  rw [hp] at P hk hp0 hmay hc hx
  rw [Nat.add_sub_cancel] at hmay hc hx hp0
  rw [← hp] at hp0
  obtain ⟨x, hxe⟩ : ∃ x, x = pg l p := ⟨_, rfl⟩
  rw [← hxe] at hmay hc hx
  subst hk
  obtain ⟨d, hd⟩ : ∃ d, m = 8 * p + d := ⟨m - 8 * p, by omega⟩
  rw [show m - 8 * p = d from by omega] at hmay
  have P := Lib.hid P
  have HM := Lib.hid hmay
  have hl0 : (0 : Int) ≤ x := by omega
  have hx2 : (x : Int) < 256 := by omega
  have hp16 : p < 2 := by omega
  have hd2 : (m : Int) - (p : Int) * 8 = (d : Int) := by omega
  have hd8 : d ≤ 8 := by omega
  have hd1 : 1 ≤ d := by omega
  clear hmay h hb hl hxe hx hp0 hp hd
  obtain ⟨y, hy⟩ : ∃ y : Nat, x / 2 ^ d = y := ⟨_, rfl⟩
  rw [hy] at HM
  have hsh : (x : Int) / 2 ^ (d : Int).toNat = (y : Int) := by rw [← hy]; simp
  have hsh2 : (x : Int) / 2 ^ d = (y : Int) := by rw [← hy]; simp
  clear hy
  by_cases hy0 : y = 0
  · rw [if_pos (HM.out.2 hy0)]
    subst hy0
    clear HM
    go_enter Try.func24, Try.ntmps24
    go_wp2_with fail
    refine M.out.mono ?_
    rintro e w' ⟨rfl, rfl⟩
    go_wp2_with fail
    refine P.out.mono ?_
    rintro e w' ⟨rfl, rfl⟩
    go_wp2
    go_ret
    exact ⟨rfl, rfl⟩
  · rw [if_neg (fun h => hy0 (HM.out.1 h))]
    have hyn : ((y : Int) != 0) = true := by rw [bne_iff_ne]; omega
    clear HM hy0
    go_enter Try.func24, Try.ntmps24
    go_wp2_with fail
    refine M.out.mono ?_
    rintro e w' ⟨rfl, rfl⟩
    go_wp2_with fail
    refine P.out.mono ?_
    rintro e w' ⟨rfl, rfl⟩
    go_wp2
    go_ret
    exact ⟨rfl, rfl⟩

/-- Check, at all arguments. -/
theorem b_check_any (n : Int) (A : Option Addr) (k c : Nat) (l : List Int) (w : World) (h : Arg w .u8 A k c l) (hb : ∀ z ∈ l, isByte z) :
    Calls Try.prog 24 #[.int .i64 n, .slice A k c] w fun e w' => e = .returned (.int .i64 (chk n l)) ∧ w = w' := by
  unfold chk
  by_cases h1 : 1 ≤ n ∧ n ≤ 16
  · rw [if_pos h1]
    obtain ⟨m, rfl⟩ : ∃ m : Nat, n = m := ⟨n.toNat, by omega⟩
    rw [Int.toNat_natCast]
    by_cases hk : k = pgs m
    · exact check_last m A k c l w _ h.seq h.len hb (by omega) (by omega) hk
    · rw [if_neg (fun hm => hk (h.len.symm.trans hm.1))]
      exact check_len m A k c w (by omega) (by omega) hk
  · rw [if_neg h1]
    exact check_many n A k c w h1

end Go.Proofs.Ytiibmlbenamgcaa
