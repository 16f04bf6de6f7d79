/- Layer 1 in plain lists and numbers: a number's digits, a row, its size. Nothing of the program. -/
/- Layer 1, package num: what each function returns, in the words of NumMath. -/
/- Layer 1, package num: what Write returns. -/
import Derived.Test.YtdgfofemogmmkaaByteMath
import Derived.Test.YtdgfofemogmmkaaBase3
import Derived.StillTailTactics
import Derived.Deep.RegionHeld3
namespace Go.Proofs.Ytdgfofemogmmkaa

theorem snoc_ind {α : Type} {P : List α → Prop} (h0 : P []) (h1 : ∀ l a, P l → P (l ++ [a])) : ∀ l, P l := by
  intro l
  rw [← l.reverse_reverse]
  induction l.reverse with
  | nil => exact h0
  | cons a t ih => rw [List.reverse_cons]; exact h1 _ _ ih

/-- The number of bytes, the highest first. -/
def val (zs : List Int) : Int := zs.foldl (fun v z => v * 256 + z) 0
/-- The last k digits of v. -/
def digs : Nat → Int → List Int
  | 0, _ => []
  | k + 1, v => digs k (v / 256) ++ [v % 256]

theorem val_snoc (zs : List Int) (z : Int) : val (zs ++ [z]) = val zs * 256 + z := by simp [val, List.foldl_append]
theorem val_nil : val [] = 0 := rfl
theorem digs_length (k : Nat) (v : Int) : (digs k v).length = k := by
  induction k generalizing v with
  | zero => rfl
  | succ k ih => simp [digs, ih]
theorem digs_byte (k : Nat) (v : Int) : ∀ z ∈ digs k v, isByte z := by
  induction k generalizing v with
  | zero => simp [digs]
  | succ k ih =>
    intro z hz
    simp only [digs, List.mem_append, List.mem_singleton] at hz
    rcases hz with hz | rfl
    · exact ih _ z hz
    · exact ⟨Int.emod_nonneg _ (by omega), Int.emod_lt_of_pos _ (by omega)⟩
theorem div_pow (v : Int) (k : Nat) : v / 256 / 256 ^ k = v / 256 ^ (k + 1) := by
  rw [Int.ediv_ediv_of_nonneg (by omega), Int.pow_succ, Int.mul_comm]
/-- One digit more in front. -/
theorem digs_cons (k : Nat) (v : Int) : digs (k + 1) v = v / 256 ^ k % 256 :: digs k v := by
  induction k generalizing v with
  | zero => simp [digs]
  | succ k ih =>
    rw [digs, ih (v / 256), div_pow]
    rfl

theorem val_bounds (zs : List Int) (h : ∀ z ∈ zs, isByte z) : 0 ≤ val zs ∧ val zs < 256 ^ zs.length := by
  revert h
  refine snoc_ind (P := fun zs => (∀ z ∈ zs, isByte z) → 0 ≤ val zs ∧ val zs < 256 ^ zs.length) ?_ ?_ zs
  · intro _; simp [val]
  · intro l a ih h
    have h1 := ih fun z hz => h z (by simp [hz])
    have h2 : isByte a := h a (by simp)
    unfold isByte at h2
    rw [val_snoc, List.length_append, List.length_singleton, Int.pow_succ]
    omega
theorem val_digs (k : Nat) (v : Int) (h0 : 0 ≤ v) (h : v / 256 ^ k = 0) : val (digs k v) = v := by
  induction k generalizing v with
  | zero => simp at h; simp [digs, val, h]
  | succ k ih =>
    rw [digs, val_snoc, ih (v / 256) (by omega) (by rw [div_pow]; exact h)]
    omega
theorem digs_val (zs : List Int) (h : ∀ z ∈ zs, isByte z) : digs zs.length (val zs) = zs := by
  revert h
  refine snoc_ind (P := fun zs => (∀ z ∈ zs, isByte z) → digs zs.length (val zs) = zs) ?_ ?_ zs
  · intro _; rfl
  · intro l a ih h
    have h1 := ih fun z hz => h z (by simp [hz])
    have h2 : isByte a := h a (by simp)
    unfold isByte at h2
    rw [val_snoc, List.length_append, List.length_singleton, digs]
    rw [show (val l * 256 + a) / 256 = val l from by omega, h1, show (val l * 256 + a) % 256 = a from by omega]
theorem div_zero_iff (v : Int) (k : Nat) (h0 : 0 ≤ v) : v / 256 ^ k = 0 ↔ v < 256 ^ k := by
  have hp : (0 : Int) < 256 ^ k := Int.pow_pos (by omega)
  constructor
  · intro h
    have := Int.lt_mul_of_ediv_lt hp (show v / 256 ^ k < 1 by omega)
    omega
  · intro h; exact Int.ediv_eq_zero_of_lt h0 h

/-! ### Sizes, rows -/
def szOf (s : List Int) (k : Nat) : Nat := (s.getD k 0).toNat
def atTo (s : List Int) : Nat → Nat
  | 0 => 0
  | k + 1 => atTo s k + szOf s k
def okTo (s : List Int) : Nat → Bool
  | 0 => true
  | k + 1 => okTo s k && (decide (1 ≤ s.getD k 0) && decide (s.getD k 0 ≤ 8))
def okB (s : List Int) : Bool := decide (s.length ≤ 16) && okTo s s.length
def rowTo (l s : List Int) : Nat → List Int
  | 0 => []
  | k + 1 => rowTo l s k ++ digs (szOf s k) (l.getD k 0)
def fitsTo (l s : List Int) : Nat → Bool
  | 0 => true
  | k + 1 => fitsTo l s k && decide (l.getD k 0 / 256 ^ szOf s k = 0)
def numsTo (b s : List Int) : Nat → List Int
  | 0 => []
  | k + 1 => numsTo b s k ++ [val ((b.drop (atTo s k)).take (szOf s k))]

theorem okTo_le {s : List Int} {n k : Nat} (h : okTo s n = true) (hk : k ≤ n) : okTo s k = true := by
  induction n with
  | zero => simp [show k = 0 from by omega, okTo]
  | succ n ih =>
    rcases Nat.lt_or_ge k (n + 1) with h1 | h1
    · exact ih (by simp [okTo] at h; exact h.1) (by omega)
    · rw [show k = n + 1 from by omega]; exact h
theorem okTo_at {s : List Int} {n k : Nat} (h : okTo s n = true) (hk : k < n) : 1 ≤ s.getD k 0 ∧ s.getD k 0 ≤ 8 := by
  have := okTo_le (k := k + 1) h (by omega)
  simp only [okTo, Bool.and_eq_true, decide_eq_true_eq] at this
  exact this.2
theorem okTo_sz {s : List Int} {n k : Nat} (h : okTo s n = true) (hk : k < n) : 1 ≤ szOf s k ∧ szOf s k ≤ 8 ∧ (szOf s k : Int) = s.getD k 0 := by
  have := okTo_at h hk
  unfold szOf
  omega
theorem atTo_le {s : List Int} {n k : Nat} (h : okTo s n = true) (hk : k ≤ n) : atTo s k ≤ 8 * k := by
  induction k with
  | zero => simp [atTo]
  | succ k ih =>
    have := ih (by omega)
    have := okTo_sz h (show k < n by omega)
    rw [atTo]
    omega
theorem atTo_mono (s : List Int) {k n : Nat} (hk : k ≤ n) : atTo s k ≤ atTo s n := by
  induction n with
  | zero => simp [show k = 0 from by omega]
  | succ n ih =>
    rcases Nat.lt_or_ge k (n + 1) with h1 | h1
    · have := ih (by omega); rw [atTo]; omega
    · rw [show k = n + 1 from by omega]; omega
theorem rowTo_length (l s : List Int) (k : Nat) : (rowTo l s k).length = atTo s k := by
  induction k with
  | zero => rfl
  | succ k ih => simp [rowTo, atTo, ih, digs_length]
theorem rowTo_byte (l s : List Int) (k : Nat) : ∀ z ∈ rowTo l s k, isByte z := by
  induction k with
  | zero => simp [rowTo]
  | succ k ih =>
    intro z hz
    simp only [rowTo, List.mem_append] at hz
    rcases hz with hz | hz
    · exact ih z hz
    · exact digs_byte _ _ z hz
theorem numsTo_length (b s : List Int) (k : Nat) : (numsTo b s k).length = k := by
  induction k with
  | zero => rfl
  | succ k ih => simp [numsTo, ih]
theorem fitsTo_le {l s : List Int} {n k : Nat} (h : fitsTo l s n = true) (hk : k ≤ n) : fitsTo l s k = true := by
  induction n with
  | zero => simp [show k = 0 from by omega, fitsTo]
  | succ n ih =>
    rcases Nat.lt_or_ge k (n + 1) with h1 | h1
    · exact ih (by simp [fitsTo] at h; exact h.1) (by omega)
    · rw [show k = n + 1 from by omega]; exact h
theorem fitsTo_at {l s : List Int} {n k : Nat} (h : fitsTo l s n = true) (hk : k < n) : l.getD k 0 / 256 ^ szOf s k = 0 := by
  have := fitsTo_le (k := k + 1) h (by omega)
  simp only [fitsTo, Bool.and_eq_true, decide_eq_true_eq] at this
  exact this.2
theorem pow_le (k n : Nat) (h : k ≤ n) : (256 : Int) ^ k ≤ 256 ^ n := by
  have e : ∀ m : Nat, (256 : Int) ^ m = ((256 ^ m : Nat) : Int) := fun m => (Int.natCast_pow 256 m).symm
  rw [e k, e n]
  exact Int.ofNat_le.2 (Nat.pow_le_pow_right (by omega) h)
theorem numsTo_word (b s : List Int) (k : Nat) (hb : ∀ z ∈ b, isByte z) (h : okTo s k = true) : ∀ z ∈ numsTo b s k, isWord z := by
  induction k with
  | zero => simp [numsTo]
  | succ k ih =>
    intro z hz
    simp only [numsTo, List.mem_append, List.mem_singleton] at hz
    rcases hz with hz | rfl
    · exact ih (okTo_le h (by omega)) z hz
    · have hv := val_bounds ((b.drop (atTo s k)).take (szOf s k)) fun z hz => hb z (List.mem_of_mem_drop (List.mem_of_mem_take hz))
      have hs := okTo_sz h (show k < k + 1 by omega)
      have hp := pow_le ((b.drop (atTo s k)).take (szOf s k)).length 8 (by simp; omega)
      have h8 : (256 : Int) ^ 8 = 18446744073709551616 := by decide
      exact ⟨hv.1, by omega⟩

/-! ### What follows -/
theorem numsTo_rowTo (l s : List Int) (n : Nat) (hl : ∀ z ∈ l, isWord z) (h : fitsTo l s n = true) (hn : n ≤ l.length) (rest : List Int) :
    ∀ k, k ≤ n → numsTo (rowTo l s n ++ rest) s k = l.take k := by
  intro k
  have hpre : ∀ k, k ≤ n → ∃ r, rowTo l s n = rowTo l s k ++ r := by
    intro k hk
    induction n with
    | zero => exact ⟨[], by simp [show k = 0 from by omega]⟩
    | succ n ih =>
      rcases Nat.lt_or_ge k (n + 1) with h1 | h1
      · obtain ⟨r, hr⟩ := ih (fitsTo_le h (by omega)) (by omega) (by omega)
        exact ⟨r ++ digs (szOf s n) (l.getD n 0), by rw [rowTo, hr, List.append_assoc]⟩
      · exact ⟨[], by simp [show k = n + 1 from by omega]⟩
  induction k with
  | zero => intro _; simp [numsTo]
  | succ k ih =>
    intro hk
    rw [numsTo, ih (by omega)]
    obtain ⟨r, hr⟩ := hpre (k + 1) hk
    rw [hr, rowTo]
    have e1 : (rowTo l s k ++ digs (szOf s k) (l.getD k 0) ++ r ++ rest).drop (atTo s k) = digs (szOf s k) (l.getD k 0) ++ (r ++ rest) := by
      rw [List.append_assoc, List.append_assoc, List.drop_append_of_le_length (by rw [rowTo_length]; omega), List.drop_eq_nil_of_le (by rw [rowTo_length]; omega)]
      simp
    have e2 : (digs (szOf s k) (l.getD k 0) ++ (r ++ rest)).take (szOf s k) = digs (szOf s k) (l.getD k 0) := by
      rw [List.take_append_of_le_length (by rw [digs_length]; omega), List.take_of_length_le (by rw [digs_length]; omega)]
    rw [e1, e2]
    have hkl : k < l.length := by omega
    have hg : l.getD k 0 = l[k] := by simp [hkl]
    rw [val_digs _ _ (by rw [hg]; exact (hl _ (List.getElem_mem hkl)).1) (fitsTo_at h hk), hg]
    exact List.take_append_getElem hkl
theorem read_write (l s : List Int) (hl : ∀ z ∈ l, isWord z) (he : l.length = s.length) (h : fitsTo l s s.length = true) : numsTo (rowTo l s s.length) s s.length = l := by
  have := numsTo_rowTo l s s.length hl h (by omega) [] s.length (Nat.le_refl _)
  rw [List.append_nil] at this
  rw [this, ← he, List.take_length]

theorem take_take_drop (b : List Int) (m n : Nat) : b.take m ++ (b.drop m).take n = b.take (m + n) := by
  rw [List.take_add]
theorem numsTo_getD (b s : List Int) : ∀ n k, k < n → (numsTo b s n).getD k 0 = val ((b.drop (atTo s k)).take (szOf s k)) := by
  intro n
  induction n with
  | zero => intro k hk; omega
  | succ n ih =>
    intro k hk
    rw [numsTo, List.getD_eq_getElem?_getD, List.getElem?_append]
    rcases Nat.lt_or_ge k n with h1 | h1
    · rw [if_pos (by rw [numsTo_length]; exact h1), ← List.getD_eq_getElem?_getD, ih k h1]
    · rw [if_neg (by rw [numsTo_length]; omega), numsTo_length, show k = n from by omega]
      simp
theorem rowTo_numsTo (b s : List Int) (n : Nat) (hb : ∀ z ∈ b, isByte z) (hlen : atTo s n = b.length) :
    ∀ k, k ≤ n → rowTo (numsTo b s n) s k = b.take (atTo s k) := by
  intro k
  induction k with
  | zero => intro _; simp [rowTo, atTo]
  | succ k ih =>
    intro hk
    rw [rowTo, ih (by omega), numsTo_getD b s n k (by omega)]
    have hm := atTo_mono s hk
    rw [atTo] at hm
    have hl : ((b.drop (atTo s k)).take (szOf s k)).length = szOf s k := by simp; omega
    have := digs_val ((b.drop (atTo s k)).take (szOf s k)) fun z hz => hb z (List.mem_of_mem_drop (List.mem_of_mem_take hz))
    rw [hl] at this
    rw [this, take_take_drop, atTo]
theorem write_read (b s : List Int) (hb : ∀ z ∈ b, isByte z) (hlen : atTo s s.length = b.length) : rowTo (numsTo b s s.length) s s.length = b := by
  rw [rowTo_numsTo b s s.length hb hlen s.length (Nat.le_refl _), hlen, List.take_length]
theorem fits_numsTo (b s : List Int) (n : Nat) (hb : ∀ z ∈ b, isByte z) : ∀ k, k ≤ n → fitsTo (numsTo b s n) s k = true := by
  intro k
  induction k with
  | zero => intro _; rfl
  | succ k ih =>
    intro hk
    rw [fitsTo, ih (by omega), numsTo_getD b s n k (by omega)]
    have hv := val_bounds ((b.drop (atTo s k)).take (szOf s k)) fun z hz => hb z (List.mem_of_mem_drop (List.mem_of_mem_take hz))
    have hp := pow_le ((b.drop (atTo s k)).take (szOf s k)).length (szOf s k) (by simp; omega)
    have := (div_zero_iff _ (szOf s k) hv.1).2 (by omega)
    simp [this]

end Go.Proofs.Ytdgfofemogmmkaa

namespace Go.Proofs.Ytdgfofemogmmkaa
open Go.RowKit
set_option linter.unusedVariables false

theorem or_byte (m z : Int) (h0 : 0 ≤ m) (h1 : m * 256 < 18446744073709551616) (h2 : 0 ≤ z) (h3 : z < 256) :
    bits .or .u64 (m * 256) z = m * 256 + z := by
  obtain ⟨a, rfl⟩ := Int.eq_ofNat_of_zero_le h0
  obtain ⟨b, rfl⟩ := Int.eq_ofNat_of_zero_le h2
  have e := bits_or_u64_nat (a * 256) b (by omega) (by omega)
  have e2 := Nat.shiftLeft_add_eq_or_of_lt (i := 8) (b := b) (by omega) a
  rw [Nat.shiftLeft_eq] at e2
  have e3 : ((a : Int) * 256) = ((a * 256 : Nat) : Int) := by omega
  rw [e3, e, ← e2]
  omega

set_option maxHeartbeats 400000 in
theorem get_any (A : Option Addr) (n c : Nat) (zs : List Int) (w : World) (B : Nat) (h : Seq w B A (ints .u8 zs)) (hz : zs.length = n) (hn : n ≤ 8) (hb : ∀ z ∈ zs, isByte z) :
    Calls Try.prog 41 #[.slice A n c] w fun e w' => e = .returned (.int .u64 (val zs)) ∧ w = w' := by
  subst hz
  go_enter Try.func41, Try.ntmps41
  go_wp2
  go_loop [3, 7] (fun v i => ∃ k : Nat, k ≤ zs.length ∧ i = .int .i64 k ∧ v = .int .u64 (val (zs.take k))) (fun _ i => zs.length - (intOf i).toNat)
  case atStart => exact ⟨0, Nat.zero_le _, rfl, rfl⟩
  case round =>
    obtain ⟨k, hk, rfl, rfl⟩ := hrel
    by_cases hkn : k < zs.length
    · obtain ⟨b, o, rfl, hlt, hc⟩ := h.int hkn
      have hv := val_bounds (zs.take k) fun z hz => hb z (List.mem_of_mem_take hz)
      have hp := pow_le (zs.take k).length 7 (by simp; omega)
      have h7 : (256 : Int) ^ 7 = 72057594037927936 := by decide
      rw [h7] at hp
      have hzb := hb _ (List.getElem_mem hkn)
      obtain ⟨z, hz⟩ : ∃ z, z = zs.getD k 0 := ⟨_, rfl⟩
      have hzz : zs[k] = z := by rw [hz]; simp [hkn]
      obtain ⟨m, hm⟩ : ∃ m, m = val (zs.take k) := ⟨_, rfl⟩
      have hs : val (zs.take (k + 1)) = m * 256 + z := by rw [← List.take_append_getElem hkn, val_snoc, hzz, ← hm]
      rw [hzz] at hzb
      rw [← hm] at hv
      have hm0 := hv.1
      have hm1 : m < 72057594037927936 := by omega
      have hz0 := hzb.1
      have hz1 := hzb.2
      rw [← hz] at hc
      rw [← hm]
      have ho := or_byte m z hm0 (by omega) hz0 hz1
      have HS := Lib.hid hs
      have HO := Lib.hid ho
      clear hz hzz hm hs ho hzb hv hp h7 h hb
      go_wp2
      go_round
      case rel => exact ⟨k + 1, by omega, by go_num, by rw [HS.out]; simp [← HO.out]⟩
      case measure => simp [intOf]; omega
    · obtain rfl : k = zs.length := by omega
      go_wp2
      go_ret
      exact ⟨by simp, rfl⟩

theorem size_no (A : Option Addr) (n c : Nat) (s : List Int) (w : World) (B : Nat) (h : Seq w B A (ints .i64 s)) (hs : s.length = n) (hn : n ≤ 1000) (hno : okB s = false) :
    Calls Try.prog 38 #[.slice A n c] w fun e w' => e = .returned (.tuple #[.int .i64 0, .int .i64 2]) ∧ w = w' := by
  subst hs
  by_cases h16 : 16 < s.length
  · go_enter Try.func38, Try.ntmps38
    go_wp2
    go_ret2
    exact ⟨rfl, rfl⟩
  · have hno' := Lib.hid (show okTo s s.length = false by simpa [okB, show s.length ≤ 16 from by omega] using hno)
    clear hno
    go_enter Try.func38, Try.ntmps38
    go_wp2
    go_loop [4, 11] (fun v i => ∃ k : Nat, k ≤ s.length ∧ Hid (okTo s k = true) ∧ i = .int .i64 k ∧ v = .int .i64 (atTo s k)) (fun _ i => s.length - (intOf i).toNat)
    case atStart => exact ⟨0, Nat.zero_le _, rfl, rfl, rfl⟩
    case round =>
      obtain ⟨k, hk, hok, rfl, rfl⟩ := hrel
      by_cases hkn : k < s.length
      · obtain ⟨b, o, rfl, hlt, hc⟩ := h.int hkn
        obtain ⟨z, hz⟩ : ∃ z, z = s.getD k 0 := ⟨_, rfl⟩
        rw [← hz] at hc
        have HZ := Lib.hid hz
        clear hz h
        by_cases h1 : z < 1
        · go_wp2
          go_ret2
          exact ⟨rfl, rfl⟩
        · by_cases h2 : 8 < z
          · go_wp2
            go_ret2
            exact ⟨rfl, rfl⟩
          · have hle := atTo_le hok.out (Nat.le_refl k)
            go_wp2
            go_round
            case rel => exact ⟨k + 1, by omega, by show okTo s (k + 1) = true; rw [okTo, hok.out, ← HZ.out]; simp; omega, by go_num, by rw [atTo, szOf, ← HZ.out]; congr 1; omega⟩
            case measure => simp [intOf]; omega
      · obtain rfl : k = s.length := by omega
        have := hno'.out
        rw [hok.out] at this
        cases this

theorem size_ok (A : Option Addr) (n c : Nat) (s : List Int) (w : World) (B : Nat) (h : Seq w B A (ints .i64 s)) (hs : s.length = n) (hok : okB s = true) :
    Calls Try.prog 38 #[.slice A n c] w fun e w' => e = .returned (.tuple #[.int .i64 (atTo s n), .int .i64 0]) ∧ w = w' := by
  subst hs
  have h16 : s.length ≤ 16 := by simp [okB] at hok; exact hok.1
  have hoo := Lib.hid (show okTo s s.length = true by simp [okB] at hok; exact hok.2)
  clear hok
  go_enter Try.func38, Try.ntmps38
  go_wp2
  go_loop [4, 11] (fun v i => ∃ k : Nat, k ≤ s.length ∧ i = .int .i64 k ∧ v = .int .i64 (atTo s k)) (fun _ i => s.length - (intOf i).toNat)
  case atStart => exact ⟨0, Nat.zero_le _, rfl, rfl⟩
  case round =>
    obtain ⟨k, hk, rfl, rfl⟩ := hrel
    by_cases hkn : k < s.length
    · obtain ⟨b, o, rfl, hlt, hc⟩ := h.int hkn
      have hat := okTo_at hoo.out hkn
      have hle := atTo_le hoo.out hk
      obtain ⟨z, hz⟩ : ∃ z, z = s.getD k 0 := ⟨_, rfl⟩
      rw [← hz] at hc hat
      have HZ := Lib.hid hz
      obtain ⟨h1, h2⟩ := hat
      clear hz h
      go_wp2
      go_round
      case rel => exact ⟨k + 1, by omega, by go_num, by rw [atTo, szOf, ← HZ.out]; congr 1; omega⟩
      case measure => simp [intOf]; omega
    · obtain rfl : k = s.length := by omega
      go_wp2
      go_ret2
      exact ⟨rfl, rfl⟩

theorem set_mid (P M D : List Int) (j : Nat) (x : Int) (h : j < M.length) (rest : List Int) :
    (P ++ M.take (j + 1) ++ D ++ rest).set (P.length + j) x = P ++ M.take j ++ (x :: D) ++ rest := by
  have e : M.take (j + 1) = M.take j ++ [M[j]] := (List.take_append_getElem h).symm
  rw [e, List.append_assoc, List.append_assoc, List.append_assoc, List.set_append, if_neg (by omega), show P.length + j - P.length = j from by omega,
    List.append_assoc, List.set_append, if_neg (by rw [List.length_take]; omega), show j - (M.take j).length = 0 from by rw [List.length_take]; omega]
  simp

set_option maxHeartbeats 400000 in
theorem put_any (g o n c : Nat) (P M R : List Int) (v : Int) (w : World) (hb : Blk w g 5 (ints .u8 (P ++ M ++ R))) (hP : P.length = o) (hM : M.length = n) (hn : 1 ≤ n) (hn8 : n ≤ 100) (h0 : 0 ≤ v) :
    Calls Try.prog 40 #[.slice (some ⟨g, o, none⟩) n c, .int .u64 v] w fun e w' => e = .returned (.bool (decide (v / 256 ^ n = 0))) ∧ Blk w' g 5 (ints .u8 (P ++ digs n v ++ R)) ∧ w.grownBy w' (some g) := by
  go_enter Try.func40, Try.ntmps40
  go_wp2
  go_loopw [1, 8] (fun u i wr => ∃ k : Nat, k ≤ n ∧ i = .int .i64 k ∧ u = .int .u64 (v / 256 ^ k) ∧ Blk wr g 5 (ints .u8 (P ++ M.take (n - k) ++ digs k v ++ R)) ∧ w.grownBy wr (some g)) (fun _ i _ => n - (intOf i).toNat)
  case atStart => exact ⟨0, Nat.zero_le _, rfl, by simp, by simpa [digs, ← hM] using hb, grownBy_refl _ _⟩
  case round =>
    obtain ⟨k, hk, rfl, rfl, hbk, hg⟩ := hrel
    have hq : 0 ≤ v / 256 ^ k := Int.ediv_nonneg h0 (Int.le_of_lt (Int.pow_pos (by omega)))
    by_cases hkn : k < n
    · have hlen : o + (n - 1 - k) < (ints .u8 (P ++ M.take (n - k) ++ digs k v ++ R)).length := by simp [ints, digs_length]; omega
      have hc := hbk.cell (o + (n - 1 - k))
      rw [List.getElem?_eq_getElem hlen] at hc
      obtain ⟨x, hx⟩ : ∃ x, x = (ints .u8 (P ++ M.take (n - k) ++ digs k v ++ R))[o + (n - 1 - k)] := ⟨_, rfl⟩
      rw [← hx] at hc
      have hf := hbk.free (o + (n - 1 - k))
      obtain ⟨q, hqe⟩ : ∃ q, q = v / 256 ^ k := ⟨_, rfl⟩
      rw [← hqe] at hq ⊢
      have HB := Lib.hid hbk
      have HQ := Lib.hid hqe
      have HM := Lib.hid hM
      have HP := Lib.hid hP
      have HG := Lib.hid hg
      clear hx hqe hbk hlen hb hM hP hg
      go_wp2
      go_roundw
      case rel =>
        refine ⟨k + 1, by omega, by go_num, by rw [HQ.out, Int.pow_succ, ← Int.ediv_ediv_of_nonneg (Int.le_of_lt (Int.pow_pos (by omega)))], ?_, grownBy_trans HG.out (grownBy_set _ _ _ _)⟩
        have hs := HB.out.set (o + (n - 1 - k)) (.int .u8 (q % 256))
        rw [set_ints] at hs
        have hm := set_mid P M (digs k v) (n - 1 - k) (q % 256) (by have := HM.out; omega) R
        rw [show n - 1 - k + 1 = n - k from by omega, HP.out] at hm
        rw [hm] at hs
        rw [digs_cons, ← HQ.out, show n - (k + 1) = n - 1 - k from by omega]
        exact hs
      case measure => simp [intOf]; omega
    · obtain rfl : k = n := by omega
      obtain ⟨q, hqe⟩ : ∃ q, q = v / 256 ^ k := ⟨_, rfl⟩
      rw [← hqe] at hq ⊢
      have HB := Lib.hid hbk
      have HQ := Lib.hid hqe
      have HG := Lib.hid hg
      clear hqe hbk hb hM hP hg
      go_wp2
      go_ret
      have hb := HB.out
      rw [show k - k = 0 from by omega] at hb
      exact ⟨by rw [← HQ.out]; rfl, by simpa using hb, HG.out⟩

/-- What parts puts together: of each size the piece of the row. -/
def partsTo (g o : Nat) (s : List Int) : Nat → List Value
  | 0 => []
  | k + 1 => partsTo g o s k ++ [.slice (some ⟨g, o + atTo s k, none⟩) (szOf s k) (szOf s k)]
theorem partsTo_length (g o : Nat) (s : List Int) (k : Nat) : (partsTo g o s k).length = k := by
  induction k with
  | zero => rfl
  | succ k ih => simp [partsTo, ih]

theorem slices_info : (Try.prog.info? 23).map (fun i => (i.zero, i.size, i.bytes)) = some (some (.slice none 0 0), 1, 24) := by kernel_rfl

set_option maxHeartbeats 400000 in
theorem parts_any (A S : Option Addr) (g o n c cs : Nat) (s : List Int) (w : World) (B : Nat) (h : Seq w B S (ints .i64 s)) (hok : okB s = true) (hn : n = atTo s s.length) (hnc : n ≤ c) (hc : c ≤ maxLen) (hA : 0 < s.length → A = some ⟨g, o, none⟩) (hB : B ≤ w.heap.size) :
    Calls Try.prog 39 #[.slice A n c, .slice S s.length cs] w fun e w' => e = .returned (.slice (some ⟨w.heap.size, 0, none⟩) s.length s.length) ∧ Blk w' w.heap.size 23 (partsTo g o s s.length) ∧ w.grownBy w' none := by
  have h16 : s.length ≤ 16 := by simp [okB] at hok; exact hok.1
  have hoo := Lib.hid (show okTo s s.length = true by simp [okB] at hok; exact hok.2)
  obtain ⟨i0, hi0, hz0, hz1, hz2⟩ := info_parts slices_info
  have hmk := fun wx => run_make1 (P := Try.prog) 74 23 i0 _ Try.underlying74 hi0 hz0 hz1 rfl s.length (by rw [hz2]; omega) (by simp only [maxLen]; omega) wx
  have HA := Lib.hid hA
  have HN := Lib.hid hn
  clear hok hA hn hi0 hz0 hz1 hz2
  go_enter Try.func39, Try.ntmps39
  go_wp2
  clear hmk
  go_loopw [6, 14] (fun v i wr => ∃ k : Nat, k ≤ s.length ∧ i = .int .i64 k ∧ v = .int .i64 (atTo s k) ∧ Blk wr w.heap.size 23 (partsTo g o s k ++ List.replicate (s.length - k) (.slice none 0 0)) ∧ w.grownBy wr none) (fun _ i _ => s.length - (intOf i).toNat)
  case atStart => exact ⟨0, Nat.zero_le _, rfl, rfl, Blk.new _ _ _, World.grownBy_alloc _ _ _⟩
  case round =>
    obtain ⟨k, hk, rfl, rfl, hb, hg⟩ := hrel
    by_cases hkn : k < s.length
    · obtain ⟨b, os, rfl, hlt, hcs⟩ := (h.grown hg hB (fun _ h => by cases h)).int hkn
      obtain rfl := HA.out (by omega)
      have hz := okTo_sz hoo.out hkn
      have hm := atTo_mono s (show k + 1 ≤ s.length by omega)
      rw [← HN.out, atTo] at hm
      have hle := atTo_le hoo.out (show k ≤ s.length by omega)
      rw [← hz.2.2] at hcs
      obtain ⟨hz1, hz2, _⟩ := hz
      have hcell := hb.cell k
      rw [List.getElem?_append_right (by rw [partsTo_length]; omega), partsTo_length, Nat.sub_self] at hcell
      have hcell2 : wr.cell? ⟨w.heap.size, k, none⟩ = some (.slice none 0 0) := by rw [hcell]; simp [List.getElem?_replicate]; omega
      have hfr := hb.free k
      have HB := Lib.hid hb
      have HG := Lib.hid hg
      obtain ⟨z, hzz⟩ : ∃ z, z = szOf s k := ⟨_, rfl⟩
      obtain ⟨a, ha⟩ : ∃ a, a = atTo s k := ⟨_, rfl⟩
      rw [← hzz] at hcs hm hz1 hz2
      rw [← ha] at hm hle ⊢
      have HZ := Lib.hid hzz
      have HAT := Lib.hid ha
      clear hcell hb hg hzz ha h
      unfold maxLen at hc
      go_wp2
      go_roundw
      case rel =>
        refine ⟨k + 1, by omega, by go_num, by rw [atTo, ← HZ.out, ← HAT.out]; go_num, ?_, grownBy_set_new HG.out (Nat.le_refl _) _ _⟩
        have hs := HB.out.set k (.slice (some ⟨g, o + a, none⟩) z z)
        rw [List.set_append, if_neg (by rw [partsTo_length]; omega), partsTo_length, Nat.sub_self, show s.length - k = (s.length - (k + 1)) + 1 from by omega, List.replicate_succ, List.set_cons_zero] at hs
        rw [partsTo, ← HZ.out, ← HAT.out, List.append_assoc]
        exact hs
      case measure => simp [intOf]; omega
    · obtain rfl : k = s.length := by omega
      have HB := Lib.hid hb
      have HG := Lib.hid hg
      clear hb hg h
      go_wp2
      go_ret
      have hb := HB.out
      rw [Nat.sub_self, List.replicate_zero, List.append_nil] at hb
      exact ⟨rfl, hb, HG.out⟩

theorem word_info : (Try.prog.info? 56).map (fun i => (i.zero, i.size, i.bytes)) = some (some (.int .u64 0), 1, 8) := by kernel_rfl

theorem partsTo_get (g o : Nat) (s : List Int) (n k : Nat) (h : k < n) : (partsTo g o s n)[k]? = some (.slice (some ⟨g, o + atTo s k, none⟩) (szOf s k) (szOf s k)) := by
  induction n with
  | zero => omega
  | succ n ih =>
    rw [partsTo, List.getElem?_append, partsTo_length]
    rcases Nat.lt_or_ge k n with h1 | h1
    · rw [if_pos h1]; exact ih h1
    · rw [if_neg (by omega), show k = n from by omega]; simp

/-- Read where sizes may not be: ErrArg. -/
theorem read_arg (A S : Option Addr) (n c m cs : Nat) (b s : List Int) (w : World) (B : Nat) (h : Seq w B S (ints .i64 s)) (hs : s.length = m) (hm : m ≤ 1000) (hno : okB s = false) :
    Calls Try.prog 34 #[.slice A n c, .slice S m cs] w fun e w' => e = .returned (.tuple #[.slice none 0 0, .int .i64 2]) ∧ w = w' := by
  go_enter Try.func34, Try.ntmps34
  go_wp2_with fail
  refine (size_no S m cs s _ B h hs hm hno).mono ?_
  rintro e w' ⟨rfl, rfl⟩
  go_wp2
  go_ret2
  exact ⟨rfl, rfl⟩

/-- Read of too few bytes, or too many: ErrShort. -/
theorem read_short (A S : Option Addr) (n c m cs : Nat) (s : List Int) (w : World) (B : Nat) (h : Seq w B S (ints .i64 s)) (hs : s.length = m) (hok : okB s = true) (hne : n ≠ atTo s m) (hn : n ≤ 1000) :
    Calls Try.prog 34 #[.slice A n c, .slice S m cs] w fun e w' => e = .returned (.tuple #[.slice none 0 0, .int .i64 10]) ∧ w = w' := by
  have hoo : okTo s s.length = true := by simp [okB] at hok; exact hok.2
  have hle := atTo_le hoo (Nat.le_refl _)
  have h16 : s.length ≤ 16 := by simp [okB] at hok; exact hok.1
  rw [hs] at hle
  go_enter Try.func34, Try.ntmps34
  go_wp2_with fail
  refine (size_ok S m cs s _ B h hs hok).mono ?_
  rintro e w' ⟨rfl, rfl⟩
  obtain ⟨t, ht⟩ : ∃ t, t = atTo s m := ⟨_, rfl⟩
  rw [← ht] at hne hle ⊢
  have hb : ((n : Int) != (t : Int)) = true := by rw [bne_iff_ne]; omega
  clear ht
  go_wp2
  go_ret2
  exact ⟨rfl, rfl⟩

set_option maxHeartbeats 400000 in
/-- Read of just as many bytes as a row has: its numbers. -/
theorem read_ok (A S : Option Addr) (n c m cs : Nat) (b s : List Int) (w : World) (h : Seq w w.heap.size S (ints .i64 s)) (hs : s.length = m) (hok : okB s = true) (hb : Seq w w.heap.size A (ints .u8 b)) (hbl : b.length = n) (hn : n = atTo s m) (hnc : n ≤ c) (hc : c ≤ maxLen) (hby : ∀ z ∈ b, isByte z) :
    Calls Try.prog 34 #[.slice A n c, .slice S m cs] w (RowOut .u64 56 w (numsTo b s m) 0) := by
  subst hs
  have hoo : okTo s s.length = true := by simp [okB] at hok; exact hok.2
  have hle := atTo_le hoo (Nat.le_refl _)
  have h16 : s.length ≤ 16 := by simp [okB] at hok; exact hok.1
  have HN := Lib.hid hn
  have hn0 : ((n : Int) != (atTo s s.length : Int)) = false := by rw [hn]; simp
  obtain ⟨i0, hi0, hz0, hz1, hz2⟩ := info_parts word_info
  have hmk := fun wx => run_make1 (P := Try.prog) 60 56 i0 _ Try.underlying60 hi0 hz0 hz1 rfl s.length (by rw [hz2]; omega) (by simp only [maxLen]; omega) wx
  obtain ⟨g, o, hA⟩ : ∃ g o, 0 < s.length → A = some ⟨g, o, none⟩ := by
    by_cases h0 : 0 < s.length
    · have h1 := okTo_sz hoo h0
      have h2 := atTo_mono s (show 1 ≤ s.length by omega)
      rw [atTo, atTo] at h2
      obtain ⟨g, o, e, _, _⟩ := hb.int (j := 0) (by omega)
      exact ⟨g, o, fun _ => e⟩
    · exact ⟨0, 0, fun h => absurd h h0⟩
  have HA := Lib.hid hA
  have HOO := Lib.hid hoo
  have HBL := Lib.hid hbl
  have HBY := Lib.hid hby
  clear hi0 hz0 hz1 hz2 hn hoo hA hbl hby
  go_enter Try.func34, Try.ntmps34
  go_wp2_with fail
  refine (size_ok S s.length cs s _ _ h rfl hok).mono ?_
  rintro e w' ⟨rfl, rfl⟩
  go_wp2_with fail
  refine (parts_any A S g o n c cs s _ _ h hok HN.out hnc hc HA.out (Nat.le_refl _)).mono ?_
  rintro e w1 ⟨rfl, hp, hg1⟩
  have HP := Lib.hid hp
  have HG := Lib.hid hg1
  have hsz1 := hg1.size
  clear hp hg1 hn0
  go_wp2
  clear hmk
  go_loopw [31] (fun i wr => ∃ k : Nat, k ≤ s.length ∧ i = .int .i64 k ∧ Blk wr w1.heap.size 56 (ints .u64 (numsTo b s k) ++ List.replicate (s.length - k) (.int .u64 0)) ∧ Blk wr w.heap.size 23 (partsTo g o s s.length) ∧ w.grownBy wr none) (fun i _ => s.length - (intOf i).toNat)
  case atStart => exact ⟨0, Nat.zero_le _, rfl, Blk.new _ _ _, HP.out.grown (World.grownBy_alloc _ _ none) (by simp), grownBy_trans HG.out (World.grownBy_alloc _ _ none)⟩
  case round =>
    obtain ⟨k, hk, rfl, hbk, hpk, hgk⟩ := hrel
    by_cases hkn : k < s.length
    · obtain rfl := HA.out (by omega)
      have hz := okTo_sz HOO.out hkn
      have hm := atTo_mono s (show k + 1 ≤ s.length by omega)
      rw [← HN.out, atTo] at hm
      have hpc := hpk.cell k
      rw [partsTo_get _ _ _ _ _ hkn] at hpc
      have hcell := hbk.cell k
      rw [List.getElem?_append_right (by rw [ints_length, numsTo_length]; omega), ints_length, numsTo_length, Nat.sub_self] at hcell
      have hcell2 : wr.cell? ⟨w1.heap.size, k, none⟩ = some (.int .u64 0) := by rw [hcell]; simp [List.getElem?_replicate]; omega
      have hfr := hbk.free k
      have hpiece := (hb.drop (atTo s k)).take (szOf s k)
      have hbr := hpiece.grown hgk (Nat.le_refl _) (fun _ h => by cases h)
      have hbr2 : Seq wr w.heap.size (some ⟨g, o + atTo s k, none⟩) (ints .u8 ((b.drop (atTo s k)).take (szOf s k))) := by
        have e : ints .u8 ((b.drop (atTo s k)).take (szOf s k)) = ((ints .u8 b).drop (atTo s k)).take (szOf s k) := by simp [ints, List.map_take, List.map_drop]
        rw [e]; exact hbr
      have hpl : ((b.drop (atTo s k)).take (szOf s k)).length = szOf s k := by have := HBL.out; simp; omega
      have hpb : ∀ z ∈ (b.drop (atTo s k)).take (szOf s k), isByte z := fun z hz => HBY.out z (List.mem_of_mem_drop (List.mem_of_mem_take hz))
      have HBR := Lib.hid hbr2
      have HPL := Lib.hid hpl
      have HPB := Lib.hid hpb
      have HB := Lib.hid hbk
      have HP2 := Lib.hid hpk
      have HG2 := Lib.hid hgk
      obtain ⟨zs, hzs⟩ : ∃ zs, zs = (b.drop (atTo s k)).take (szOf s k) := ⟨_, rfl⟩
      have hvs : numsTo b s (k + 1) = numsTo b s k ++ [val zs] := by rw [numsTo, hzs]
      rw [← hzs] at HBR HPL HPB
      have HV := Lib.hid hvs
      obtain ⟨hs1, hs2, _⟩ := hz
      clear hcell hbk hpk hgk hpiece hbr hbr2 hpl hpb hzs hvs hb h
      go_wp2_with fail
      refine (get_any _ _ _ zs _ _ HBR.out HPL.out hs2 HPB.out).mono ?_
      rintro e w' ⟨rfl, rfl⟩
      go_wp2
      go_roundw
      case rel =>
        refine ⟨k + 1, by omega, by go_num, ?_, ?_, grownBy_set_new HG2.out hsz1 _ _⟩
        · have hs := HB.out.set k (.int .u64 (val zs))
          rw [List.set_append, if_neg (by rw [ints_length, numsTo_length]; omega), ints_length, numsTo_length, Nat.sub_self, show s.length - k = (s.length - (k + 1)) + 1 from by omega, List.replicate_succ, List.set_cons_zero] at hs
          rw [HV.out, ints_app, List.append_assoc]
          exact hs
        · exact HP2.out.grown (grownBy_set _ _ _ _) (by simp; intro e; exact absurd (Blk.ty HB.out (e ▸ HP2.out)) (by decide))
      case measure => simp [intOf]; omega
    · obtain rfl : k = s.length := by omega
      have HB := Lib.hid hbk
      have HG2 := Lib.hid hgk
      clear hbk hpk hgk h hb
      go_wp2
      have hb2 := HB.out
      rw [Nat.sub_self, List.replicate_zero, List.append_nil] at hb2
      have hl : (numsTo b s s.length).length = s.length := numsTo_length _ _ _
      go_ret2
      refine ⟨some ⟨w1.heap.size, 0, none⟩, s.length, by rw [hl]; rfl, ?_, below_of_grown HG2.out⟩
      rw [hl]
      exact hb2.owns hsz1 (by rw [ints_length, hl]) (by simp only [maxLen]; omega)

end Go.Proofs.Ytdgfofemogmmkaa

namespace Go.Proofs.Ytdgfofemogmmkaa
open Go.RowKit
set_option linter.unusedVariables false

/-- Write where sizes may not be: ErrArg. -/
theorem write_arg (A S : Option Addr) (n c m cs : Nat) (s : List Int) (w : World) (B : Nat) (h : Seq w B S (ints .i64 s)) (hs : s.length = m) (hm : m ≤ 1000) (hno : okB s = false) :
    Calls Try.prog 31 #[.slice A n c, .slice S m cs] w fun e w' => e = .returned (.tuple #[.slice none 0 0, .int .i64 2]) ∧ w = w' := by
  go_enter Try.func31, Try.ntmps31
  go_wp2_with fail
  refine (size_no S m cs s _ B h hs hm hno).mono ?_
  rintro e w' ⟨rfl, rfl⟩
  go_wp2
  go_ret2
  exact ⟨rfl, rfl⟩

/-- Write of more or fewer numbers than sizes: ErrArg. -/
theorem write_many (A S : Option Addr) (n c m cs : Nat) (s : List Int) (w : World) (B : Nat) (h : Seq w B S (ints .i64 s)) (hs : s.length = m) (hok : okB s = true) (hne : n ≠ m) (hn : n ≤ 1000) :
    Calls Try.prog 31 #[.slice A n c, .slice S m cs] w fun e w' => e = .returned (.tuple #[.slice none 0 0, .int .i64 2]) ∧ w = w' := by
  have h16 : s.length ≤ 16 := by simp [okB] at hok; exact hok.1
  have hb : ((n : Int) != (m : Int)) = true := by rw [bne_iff_ne]; omega
  go_enter Try.func31, Try.ntmps31
  go_wp2_with fail
  refine (size_ok S m cs s _ B h hs hok).mono ?_
  rintro e w' ⟨rfl, rfl⟩
  go_wp2
  go_ret2
  exact ⟨rfl, rfl⟩

/-- Write of as many numbers: the row, if each fits; else ErrMany. -/
def WroteOut (w : World) (l s : List Int) (e : Ending) (w' : World) : Prop :=
  (fitsTo l s s.length = true ∧ RowOut .u8 5 w (rowTo l s s.length) 0 e w') ∨ (fitsTo l s s.length = false ∧ e = .returned (.tuple #[.slice none 0 0, .int .i64 4]) ∧ Below w.heap.size w w')

theorem WroteOut.yes {w : World} {l s : List Int} {e : Ending} {w' : World} (h : WroteOut w l s e w') (hf : fitsTo l s s.length = true) : RowOut .u8 5 w (rowTo l s s.length) 0 e w' := by
  rcases h with ⟨_, h⟩ | ⟨h, _⟩
  · exact h
  · rw [hf] at h; cases h
theorem WroteOut.no {w : World} {l s : List Int} {e : Ending} {w' : World} (h : WroteOut w l s e w') (hf : fitsTo l s s.length = false) : e = .returned (.tuple #[.slice none 0 0, .int .i64 4]) ∧ Below w.heap.size w w' := by
  rcases h with ⟨h, _⟩ | ⟨_, h⟩
  · rw [hf] at h; cases h
  · exact h

set_option maxRecDepth 100000 in
set_option maxHeartbeats 1600000 in
theorem write_ok (A S : Option Addr) (n c m cs : Nat) (l s : List Int) (w : World) (h : Seq w w.heap.size S (ints .i64 s)) (hs : s.length = m) (hok : okB s = true) (hl : Seq w w.heap.size A (ints .u64 l)) (hln : l.length = n) (hnm : n = m) (hw : ∀ z ∈ l, isWord z) :
    Calls Try.prog 31 #[.slice A n c, .slice S m cs] w (WroteOut w l s) := by
  subst hs
  subst hnm
  have hoo : okTo s s.length = true := by simp [okB] at hok; exact hok.2
  have hle := atTo_le hoo (Nat.le_refl _)
  have h16 : s.length ≤ 16 := by simp [okB] at hok; exact hok.1
  obtain ⟨i0, hi0, hz0, hz1, hz2⟩ := info_parts byte_info
  obtain ⟨t, ht⟩ : ∃ t, t = atTo s s.length := ⟨_, rfl⟩
  have hmk := fun wx => run_make1 (P := Try.prog) 23 5 i0 _ Try.underlying23 hi0 hz0 hz1 rfl t (by rw [hz2]; omega) (by simp only [maxLen]; omega) wx
  have HOO := Lib.hid hoo
  have HLN := Lib.hid hln
  have HW := Lib.hid hw
  have HT := Lib.hid ht
  rw [← ht] at hle
  clear hi0 hz0 hz1 hz2 hoo hln hw ht
  go_enter Try.func31, Try.ntmps31
  go_wp2_with fail
  refine (size_ok S s.length cs s _ _ h rfl hok).mono ?_
  rintro e w' ⟨rfl, rfl⟩
  rw [← HT.out]
  go_wp2_with fail
  refine (parts_any _ S w.heap.size 0 t t cs s _ _ (h.alloc (Nat.le_refl _) _) hok HT.out (Nat.le_refl _) (by simp only [maxLen]; omega) (fun _ => rfl) (by simp)).mono ?_
  rintro e w1 ⟨rfl, hp, hg1⟩
  have hp2 : Blk w1 (w.heap.size + 1) 23 (partsTo w.heap.size 0 s s.length) := by simpa using hp
  have hb1 : Blk w1 w.heap.size 5 (ints .u8 (List.replicate t 0)) := by
    have e : rep t (.int .u8 0) = (ints .u8 (List.replicate t 0)).toArray := by simp [rep, ints]
    rw [e] at hg1
    exact (Blk.new w 5 (ints .u8 (List.replicate t 0))).grown hg1 (by simp)
  have HP := Lib.hid hp2
  have HB1 := Lib.hid hb1
  have HG := Lib.hid (grownBy_trans (World.grownBy_alloc w _ none) (hg1.weak (by simp)))
  clear hp hg1 hmk hp2 hb1
  go_wp2
  go_loopw [31] (fun i wr => ∃ k : Nat, k ≤ s.length ∧ i = .int .i64 k ∧ Hid (fitsTo l s k = true) ∧ Blk wr w.heap.size 5 (ints .u8 (rowTo l s k ++ List.replicate (t - atTo s k) 0)) ∧ Blk wr (w.heap.size + 1) 23 (partsTo w.heap.size 0 s s.length) ∧ w.grownBy wr none) (fun i _ => s.length - (intOf i).toNat)
  case atStart => exact ⟨0, Nat.zero_le _, rfl, rfl, by simpa [rowTo, atTo] using HB1.out, HP.out, HG.out⟩
  case round =>
    obtain ⟨k, hk, rfl, hfk, hbk, hpk, hgk⟩ := hrel
    by_cases hkn : k < s.length
    · obtain ⟨ba, oa, rfl, hba, hac⟩ := (hl.grown hgk (Nat.le_refl _) (fun _ h => by cases h)).int (j := k) (by have := HLN.out; omega)
      have hz := okTo_sz HOO.out hkn
      have hm := atTo_mono s (show k + 1 ≤ s.length by omega)
      rw [← HT.out, atTo] at hm
      have hpc := hpk.cell k
      rw [partsTo_get _ _ _ _ _ hkn, Nat.zero_add] at hpc
      have hput := put_any w.heap.size (atTo s k) (szOf s k) (szOf s k) (rowTo l s k) (List.replicate (szOf s k) 0) (List.replicate (t - atTo s (k + 1)) 0) (l.getD k 0) wr.drew
        (by rw [List.append_assoc, List.replicate_append_replicate, atTo, show szOf s k + (t - (atTo s k + szOf s k)) = t - atTo s k from by omega]; exact hbk) (rowTo_length _ _ _) (by simp) hz.1 (by omega)
        (by rw [show l.getD k 0 = l[k]'(by have := HLN.out; omega) from by simp [List.getD, show k < l.length from by have := HLN.out; omega]]; exact (HW.out _ (List.getElem_mem _)).1)
      rw [List.append_assoc] at hput
      have hrow : rowTo l s (k + 1) = rowTo l s k ++ digs (szOf s k) (l.getD k 0) := rfl
      have hft : fitsTo l s (k + 1) = (fitsTo l s k && decide (l.getD k 0 / 256 ^ szOf s k = 0)) := rfl
      obtain ⟨v, hv⟩ : ∃ v, v = l.getD k 0 := ⟨_, rfl⟩
      rw [← hv] at hput hac hrow hft
      have HROW := Lib.hid hrow
      have HFT := Lib.hid hft
      have HPK := Lib.hid hpk
      have HGK := Lib.hid hgk
      clear hv hrow hft
      by_cases hfit : v / 256 ^ szOf s k = 0
      · rw [decide_eq_true hfit] at hput HFT
        have HPUT := Lib.hid hput
        clear hput h hl hbk hpk hgk hfit
        go_wp2
        go_still_tail 8, (by kernel_rfl)
        change wpList _ _ _ _ _ wr.drew
        go_wp2_with fail
        refine HPUT.out.mono ?_
        rintro e w2 ⟨rfl, hb2, hg2⟩
        have HB2 := Lib.hid hb2
        have HG2 := Lib.hid hg2
        clear hb2 hg2
        go_wp2
        go_roundw
        case rel =>
          refine ⟨k + 1, by omega, by go_num, ?_, ?_, ?_, ?_⟩
          · show fitsTo l s (k + 1) = true
            rw [HFT.out, hfk.out]; rfl
          · rw [HROW.out, List.append_assoc]; exact HB2.out
          · exact Blk.grown (w := wr.drew) HPK.out HG2.out (by simp)
          · exact grownBy_then (grownBy_drew HGK.out) HG2.out (fun g e => by injection e with e; omega)
        case measure => simp [intOf]; omega
      · rw [decide_eq_false hfit] at hput HFT
        have HPUT := Lib.hid hput
        clear hput h hl hbk hpk hgk hfit
        go_wp2
        go_still_tail 8, (by kernel_rfl)
        change wpList _ _ _ _ _ wr.drew
        go_wp2_with fail
        refine HPUT.out.mono ?_
        rintro e w2 ⟨rfl, hb2, hg2⟩
        have HB2 := Lib.hid hb2
        have HG2 := Lib.hid hg2
        clear hb2 hg2
        go_wp2
        go_ret2
        refine .inr ⟨?_, rfl, ?_⟩
        · have hno : fitsTo l s (k + 1) = false := by rw [HFT.out]; simp
          rcases hft : fitsTo l s s.length with _ | _
          · rfl
          · rw [fitsTo_le hft hkn] at hno; cases hno
        · exact below_of_grown (grownBy_then (grownBy_drew HGK.out) HG2.out (fun g e => by injection e with e; omega))
    · obtain rfl : k = s.length := by omega
      have HB := Lib.hid hbk
      have HGK := Lib.hid hgk
      clear hbk hpk hgk h hl
      go_wp2
      have hl : (rowTo l s s.length).length = t := by rw [rowTo_length, HT.out]
      have hb2 := HB.out
      rw [← HT.out, Nat.sub_self, List.replicate_zero, List.append_nil] at hb2
      go_ret2
      refine .inl ⟨hfk.out, some ⟨w.heap.size, 0, none⟩, t, by rw [hl]; rfl, ?_, below_of_grown HGK.out⟩
      rw [hl]
      exact hb2.owns (Nat.le_refl _) (by rw [ints_length, hl]) (by simp only [maxLen]; omega)

end Go.Proofs.Ytdgfofemogmmkaa
