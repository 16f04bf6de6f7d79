/- Layer 2 in plain numbers: a word that takes bits and bytes in, sums, sealed texts, and what turned bits do. Nothing of the program. -/
/- Layer 2, package crc: what take, takeAll, Sum and More return, in the words of CrcMath. -/
import Derived.Test.YtdgfofemogmmkaaByteMath
import Derived.Test.YtdgfofemogmmkaaBase3
import Derived.Laws.BitsAllLaws
import Derived.WalkMore
import Derived.ScopeJumps
import Derived.Deep.LoopGhost
namespace Go.Proofs.Ytdgfofemogmmkaa

/-! ### Exclusive or -/
theorem xor_self_left (a b : Nat) : a ^^^ (a ^^^ b) = b := by rw [← Nat.xor_assoc, Nat.xor_self, Nat.zero_xor]
theorem xor_swap (a b c : Nat) : a ^^^ b ^^^ c = a ^^^ c ^^^ b := by rw [Nat.xor_assoc, Nat.xor_comm b c, ← Nat.xor_assoc]
theorem xor_four (a b c d : Nat) : (a ^^^ b) ^^^ (c ^^^ d) = (a ^^^ c) ^^^ (b ^^^ d) := by
  rw [Nat.xor_assoc, ← Nat.xor_assoc b c d, Nat.xor_comm b c, Nat.xor_assoc c b d, ← Nat.xor_assoc]
theorem xor_zero_eq {a b : Nat} (h : a ^^^ b = 0) : a = b := by
  have := xor_self_left a b
  rw [h, Nat.xor_zero] at this
  exact this
theorem xor_inj {a b c : Nat} (h : a ^^^ b = a ^^^ c) : b = c := by rw [← xor_self_left a b, h, xor_self_left]
theorem xor_odd (a b : Nat) : (a ^^^ b) % 2 = (a % 2 + b % 2) % 2 := by
  have h := @Nat.xor_mod_two_pow a b 1
  rw [Nat.pow_one] at h
  rw [h]
  rcases Nat.mod_two_eq_zero_or_one a with h1 | h1 <;> rcases Nat.mod_two_eq_zero_or_one b with h2 | h2 <;> simp [h1, h2]
/-- Parts that don't overlap. -/
theorem xor_add {m i : Nat} (h : m < 2 ^ i) : m ^^^ 2 ^ i = m + 2 ^ i := by
  apply Nat.eq_of_testBit_eq
  intro j
  rw [Nat.testBit_xor, Nat.add_comm]
  by_cases hj : j = i
  · subst hj
    rw [Nat.testBit_two_pow_add_eq, Nat.testBit_two_pow_self, Nat.testBit_lt_two_pow h]; rfl
  · rw [Nat.testBit_two_pow_of_ne (Ne.symm hj), Bool.xor_false]
    rcases Nat.lt_or_gt_of_ne hj with hj | hj
    · exact (Nat.testBit_two_pow_add_gt hj m).symm
    · rw [Nat.testBit_lt_two_pow (Nat.lt_of_lt_of_le h (Nat.pow_le_pow_right (by omega) (Nat.le_of_lt hj)))]
      symm
      apply Nat.testBit_lt_two_pow
      have h1 : 2 ^ (i + 1) ≤ 2 ^ j := Nat.pow_le_pow_right (by omega) hj
      rw [Nat.pow_succ] at h1
      omega

/-! ### Steps -/
/-- One step: divided by 2, with the pattern if the lowest bit was 1. -/
def stp (w : Nat) : Nat := if w % 2 = 1 then w / 2 ^^^ 3988292384 else w / 2
def stps : Nat → Nat → Nat
  | 0, w => w
  | k + 1, w => stp (stps k w)
def isW (w : Nat) : Prop := w < 4294967296

theorem isW_xor {a b : Nat} (ha : isW a) (hb : isW b) : isW (a ^^^ b) := @Nat.xor_lt_two_pow a b 32 ha hb
theorem stp_w {w : Nat} (h : isW w) : isW (stp w) := by
  have h : w < 4294967296 := h
  unfold stp
  split
  · exact isW_xor (show _ < 4294967296 by omega) (show (3988292384 : Nat) < 4294967296 by decide)
  · show _ < 4294967296
    omega
theorem stps_w (k : Nat) {w : Nat} (h : isW w) : isW (stps k w) := by
  induction k with
  | zero => exact h
  | succ k ih => exact stp_w ih
theorem stp_xor (a b : Nat) : stp (a ^^^ b) = stp a ^^^ stp b := by
  unfold stp
  rw [xor_odd, Nat.xor_div_two]
  rcases Nat.mod_two_eq_zero_or_one a with h1 | h1 <;> rcases Nat.mod_two_eq_zero_or_one b with h2 | h2 <;> simp [h1, h2]
  · rw [Nat.xor_assoc]
  · rw [xor_swap]
  · rw [xor_four, Nat.xor_self, Nat.xor_zero]
theorem stps_xor (k a b : Nat) : stps k (a ^^^ b) = stps k a ^^^ stps k b := by
  induction k with
  | zero => rfl
  | succ k ih => rw [stps, ih, stp_xor]; rfl
theorem stps_zero (k : Nat) : stps k 0 = 0 := by
  induction k with
  | zero => rfl
  | succ k ih => rw [stps, ih]; rfl
theorem stps_add (k m w : Nat) : stps (k + m) w = stps k (stps m w) := by
  induction k with
  | zero => rw [Nat.zero_add]; rfl
  | succ k ih => rw [Nat.succ_add, stps, ih]; rfl
theorem stps_even (k x : Nat) : stps k (x * 2 ^ k) = x := by
  induction k generalizing x with
  | zero => simp [stps]
  | succ k ih =>
    rw [Nat.add_comm, stps_add, Nat.add_comm 1 k, Nat.pow_succ, ← Nat.mul_assoc, Nat.mul_right_comm]
    rw [ih (x * 2)]
    show stp (x * 2) = x
    unfold stp
    rw [if_neg (by omega)]
    omega
theorem stps_pow {k j : Nat} (h : j ≤ k) : stps k (2 ^ j) = stps (k - j) 1 := by
  have e : k = (k - j) + j := by omega
  conv => lhs; rw [e, stps_add]
  have := stps_even j 1
  rw [Nat.one_mul] at this
  rw [this]
theorem stp_eq_zero {w : Nat} (h : isW w) (h0 : stp w = 0) : w = 0 := by
  have h : w < 4294967296 := h
  unfold stp at h0
  split at h0
  · have := xor_zero_eq h0
    omega
  · omega
theorem stps_eq_zero (k : Nat) {w : Nat} (h : isW w) (h0 : stps k w = 0) : w = 0 := by
  induction k with
  | zero => exact h0
  | succ k ih => exact ih (stp_eq_zero (stps_w k h) h0)
theorem stps_inj (k : Nat) {a b : Nat} (ha : isW a) (hb : isW b) (h : stps k a = stps k b) : a = b :=
  xor_zero_eq (stps_eq_zero k (isW_xor ha hb) (by rw [stps_xor, h, Nat.xor_self]))

/-! ### Bytes -/
def byt (l : List Int) (k : Nat) : Nat := (l.getD k 0).toNat
/-- A byte is taken in. -/
def tak (w c : Nat) : Nat := stps 8 (w ^^^ c)
/-- The first k bytes are taken in. -/
def takTo (w : Nat) (l : List Int) : Nat → Nat
  | 0 => w
  | k + 1 => tak (takTo w l k) (byt l k)
def takAll (w : Nat) (l : List Int) : Nat := takTo w l l.length
def ones : Nat := 4294967295
/-- All bits turned. -/
def trn (w : Nat) : Nat := ones ^^^ w
def sum (l : List Int) : Nat := trn (takAll ones l)
def more (s : Nat) (l : List Int) : Nat := trn (takAll (trn s) l)

theorem byt_lt {l : List Int} (h : ∀ z ∈ l, isByte z) (k : Nat) : byt l k < 256 := by
  unfold byt
  by_cases hk : k < l.length
  · have := h _ (List.getElem_mem hk)
    rw [List.getD_eq_getElem?_getD, List.getElem?_eq_getElem hk]
    unfold isByte at this
    simp only [Option.getD_some]
    omega
  · rw [List.getD_eq_getElem?_getD, List.getElem?_eq_none (by omega)]; decide
theorem byt_cast {l : List Int} (h : ∀ z ∈ l, isByte z) {k : Nat} (hk : k < l.length) : l.getD k 0 = (byt l k : Int) := by
  have := h _ (List.getElem_mem hk)
  unfold byt
  rw [List.getD_eq_getElem?_getD, List.getElem?_eq_getElem hk]
  unfold isByte at this
  simp only [Option.getD_some]
  omega
theorem tak_w {w c : Nat} (h : isW w) (hc : c < 256) : isW (tak w c) := stps_w 8 (isW_xor h (show c < 4294967296 by omega))
theorem takTo_w {w : Nat} {l : List Int} (h : isW w) (hl : ∀ z ∈ l, isByte z) (k : Nat) : isW (takTo w l k) := by
  induction k with
  | zero => exact h
  | succ k ih => exact tak_w ih (byt_lt hl k)
theorem takAll_w {w : Nat} {l : List Int} (h : isW w) (hl : ∀ z ∈ l, isByte z) : isW (takAll w l) := takTo_w h hl _
theorem ones_w : isW ones := by unfold isW ones; omega
theorem trn_w {w : Nat} (h : isW w) : isW (trn w) := isW_xor ones_w h
theorem trn_trn (w : Nat) : trn (trn w) = w := by rw [trn, trn, xor_self_left]
theorem sum_w {l : List Int} (hl : ∀ z ∈ l, isByte z) : isW (sum l) := trn_w (takAll_w ones_w hl)
theorem more_w {s : Nat} {l : List Int} (hs : isW s) (hl : ∀ z ∈ l, isByte z) : isW (more s l) := trn_w (takAll_w (trn_w hs) hl)

theorem byt_left (a b : List Int) {k : Nat} (h : k < a.length) : byt (a ++ b) k = byt a k := by
  unfold byt; rw [List.getD_eq_getElem?_getD, List.getElem?_append_left h, ← List.getD_eq_getElem?_getD]
theorem byt_right (a b : List Int) (k : Nat) : byt (a ++ b) (a.length + k) = byt b k := by
  unfold byt; rw [List.getD_eq_getElem?_getD, List.getElem?_append_right (by omega), Nat.add_sub_cancel_left, ← List.getD_eq_getElem?_getD]
theorem takTo_left (w : Nat) (a b : List Int) {k : Nat} (h : k ≤ a.length) : takTo w (a ++ b) k = takTo w a k := by
  induction k with
  | zero => rfl
  | succ k ih => rw [takTo, ih (by omega), byt_left a b (by omega)]; rfl
theorem takTo_right (w : Nat) (a b : List Int) (k : Nat) : takTo w (a ++ b) (a.length + k) = takTo (takAll w a) b k := by
  induction k with
  | zero => exact takTo_left w a b (Nat.le_refl _)
  | succ k ih => rw [← Nat.add_assoc, takTo, ih, byt_right]; rfl
theorem takAll_app (w : Nat) (a b : List Int) : takAll w (a ++ b) = takAll (takAll w a) b := by
  unfold takAll
  rw [List.length_append, takTo_right]; rfl
/-- Sums go on. -/
theorem more_sum (a b : List Int) : more (sum a) b = sum (a ++ b) := by
  unfold more sum
  rw [trn_trn, takAll_app]

/-! ### A sum's four bytes -/
def le4 (s : Nat) : List Int := [((s % 256 : Nat) : Int), ((s / 256 % 256 : Nat) : Int), ((s / 65536 % 256 : Nat) : Int), ((s / 16777216 % 256 : Nat) : Int)]
def leTo (l : List Int) : Nat → Nat
  | 0 => 0
  | k + 1 => leTo l k + byt l k * 2 ^ (8 * k)
theorem leTo_lt {l : List Int} (h : ∀ z ∈ l, isByte z) (k : Nat) : leTo l k < 2 ^ (8 * k) := by
  induction k with
  | zero => simp [leTo]
  | succ k ih =>
    rw [leTo, Nat.mul_succ, Nat.pow_add]
    have := byt_lt h k
    have h2 : byt l k * 2 ^ (8 * k) ≤ 255 * 2 ^ (8 * k) := Nat.mul_le_mul_right _ (by omega)
    omega
theorem le4_length (s : Nat) : (le4 s).length = 4 := rfl
theorem le4_byte (s : Nat) : ∀ z ∈ le4 s, isByte z := by
  intro z hz
  simp only [le4, List.mem_cons, List.not_mem_nil, or_false] at hz
  unfold isByte
  rcases hz with rfl | rfl | rfl | rfl <;> omega
theorem leTo_le4 {s : Nat} (h : isW s) : leTo (le4 s) 4 = s := by
  have h : s < 4294967296 := h
  simp [leTo, le4, byt]
  omega
theorem le4_leTo {l : List Int} (h : ∀ z ∈ l, isByte z) (hl : l.length = 4) : le4 (leTo l 4) = l := by
  match l, hl with
  | [a, b, c, d], _ =>
    have ha := h a (by simp)
    have hb := h b (by simp)
    have hc := h c (by simp)
    have hd := h d (by simp)
    unfold isByte at ha hb hc hd
    simp [leTo, le4, byt]
    omega
/-- Four bytes taken in: their number put to the word, and 32 steps. -/
theorem takTo_four (w : Nat) {l : List Int} (h : ∀ z ∈ l, isByte z) : takTo w l 4 = stps 32 (w ^^^ leTo l 4) := by
  have e : ∀ k, k ≤ 4 → takTo w l k = stps (8 * k) (w ^^^ leTo l k) := by
    intro k hk
    induction k with
    | zero => simp [takTo, leTo, stps]
    | succ k ih =>
      have hx : leTo l (k + 1) = leTo l k ^^^ byt l k * 2 ^ (8 * k) := by
        have h1 := leTo_lt h k
        have h2 := Nat.two_pow_add_eq_or_of_lt h1 (byt l k)
        rw [leTo, Nat.add_comm, Nat.mul_comm, h2]
        apply Nat.eq_of_testBit_eq
        intro j
        rw [Nat.testBit_or, Nat.testBit_xor]
        by_cases hj : j < 8 * k
        · rw [Nat.testBit_two_pow_mul, decide_eq_false (by omega)]; simp
        · rw [Nat.testBit_lt_two_pow (Nat.lt_of_lt_of_le h1 (Nat.pow_le_pow_right (by omega) (by omega)))]; simp
      rw [takTo, ih (by omega), tak, hx, ← Nat.xor_assoc, Nat.mul_succ, Nat.add_comm (8 * k) 8, stps_add, stps_xor (8 * k) (w ^^^ leTo l k), stps_even]
  exact e 4 (Nat.le_refl _)

/-! ### Sealed texts -/
def sealed (b : List Int) : List Int := b ++ le4 (sum b)
/-- What Open answers: its error. -/
def opE (t : List Int) : Int := if t.length < 4 then 10 else if 4100 < t.length then 4 else if leTo (t.drop (t.length - 4)) 4 = sum (t.take (t.length - 4)) then 0 else 20
def opB (t : List Int) : List Int := if opE t = 0 then t.take (t.length - 4) else []
def seE (b : List Int) : Int := if 4096 < b.length then 4 else 0
def seB (b : List Int) : List Int := if 4096 < b.length then [] else sealed b

theorem sealed_length (b : List Int) : (sealed b).length = b.length + 4 := by simp [sealed, le4_length]
theorem sealed_byte {b : List Int} (h : ∀ z ∈ b, isByte z) : ∀ z ∈ sealed b, isByte z := by
  intro z hz
  rcases List.mem_append.1 hz with h1 | h1
  · exact h z h1
  · exact le4_byte _ z h1
theorem take_byte {l : List Int} (h : ∀ z ∈ l, isByte z) (k : Nat) : ∀ z ∈ l.take k, isByte z := fun z hz => h z (List.mem_of_mem_take hz)
theorem drop_byte {l : List Int} (h : ∀ z ∈ l, isByte z) (k : Nat) : ∀ z ∈ l.drop k, isByte z := fun z hz => h z (List.mem_of_mem_drop hz)
theorem sealed_take (b : List Int) : (sealed b).take ((sealed b).length - 4) = b := by
  rw [sealed_length, Nat.add_sub_cancel]; simp [sealed]
theorem sealed_drop (b : List Int) : (sealed b).drop ((sealed b).length - 4) = le4 (sum b) := by
  rw [sealed_length, Nat.add_sub_cancel]; simp [sealed]
theorem opE_sealed {b : List Int} (h : ∀ z ∈ b, isByte z) (hl : b.length ≤ 4096) : opE (sealed b) = 0 := by
  have h2 := sealed_length b
  unfold opE
  rw [if_neg (by omega), if_neg (by omega), sealed_drop, sealed_take, leTo_le4 (sum_w h), if_pos rfl]
theorem opB_sealed {b : List Int} (h : ∀ z ∈ b, isByte z) (hl : b.length ≤ 4096) : opB (sealed b) = b := by
  unfold opB
  rw [if_pos (opE_sealed h hl), sealed_take]
theorem opE_zero {t : List Int} (h : opE t = 0) : 4 ≤ t.length ∧ t.length ≤ 4100 ∧ leTo (t.drop (t.length - 4)) 4 = sum (t.take (t.length - 4)) := by
  unfold opE at h
  split at h
  · cases h
  · split at h
    · cases h
    · split at h
      · exact ⟨by omega, by omega, by assumption⟩
      · cases h
/-- What is opened, sealed, is what it was. -/
theorem sealed_opB {t : List Int} (hb : ∀ z ∈ t, isByte z) (h : opE t = 0) : sealed (opB t) = t := by
  obtain ⟨h1, h2, h3⟩ := opE_zero h
  unfold opB sealed
  rw [if_pos h, ← h3, le4_leTo (drop_byte hb _) (by rw [List.length_drop]; omega), List.take_append_drop]
theorem opB_byte {t : List Int} (hb : ∀ z ∈ t, isByte z) : ∀ z ∈ opB t, isByte z := by
  unfold opB
  split
  · exact take_byte hb _
  · simp
theorem opB_length {t : List Int} (h : opE t = 0) : (opB t).length = t.length - 4 := by
  unfold opB; rw [if_pos h, List.length_take]; omega
theorem opB_not {t : List Int} (h : opE t ≠ 0) : opB t = [] := by unfold opB; rw [if_neg h]
/-- Sealed texts, told by the word behind all of their bytes. -/
theorem takAll_sealed {t : List Int} (hb : ∀ z ∈ t, isByte z) (h : 4 ≤ t.length) : takAll ones t = stps 32 (takAll ones (t.take (t.length - 4)) ^^^ leTo (t.drop (t.length - 4)) 4) := by
  have e : takAll ones t = takAll ones (t.take (t.length - 4) ++ t.drop (t.length - 4)) := by rw [List.take_append_drop]
  rw [e, takAll_app]
  have hl : (t.drop (t.length - 4)).length = 4 := by rw [List.length_drop]; omega
  rw [← takTo_four _ (drop_byte hb _)]
  show takTo _ _ (t.drop (t.length - 4)).length = _
  rw [hl]
theorem opE_res {t : List Int} (hb : ∀ z ∈ t, isByte z) (h : 4 ≤ t.length) (h2 : t.length ≤ 4100) : opE t = if takAll ones t = stps 32 ones then 0 else 20 := by
  unfold opE
  rw [if_neg (by omega), if_neg (by omega), takAll_sealed hb h]
  have hw1 : isW (takAll ones (t.take (t.length - 4))) := takAll_w ones_w (take_byte hb _)
  have hw2 : isW (leTo (t.drop (t.length - 4)) 4) := leTo_lt (drop_byte hb _) 4
  by_cases hc : leTo (t.drop (t.length - 4)) 4 = sum (t.take (t.length - 4))
  · rw [if_pos hc, if_pos]
    rw [hc]
    unfold sum trn
    rw [← Nat.xor_assoc, Nat.xor_comm _ ones, Nat.xor_assoc, Nat.xor_self, Nat.xor_zero]
  · rw [if_neg hc, if_neg]
    intro he
    apply hc
    have := stps_inj 32 (isW_xor hw1 hw2) ones_w he
    unfold sum trn
    obtain ⟨a, ha⟩ : ∃ a, a = takAll ones (t.take (t.length - 4)) := ⟨_, rfl⟩
    rw [← ha] at this ⊢
    rw [← this, Nat.xor_comm, xor_self_left]

/-! ### Bits that are turned -/
theorem byt_set_ne (l : List Int) {j k : Nat} (v : Int) (h : k ≠ j) : byt (l.set j v) k = byt l k := by
  unfold byt; rw [List.getD_eq_getElem?_getD, List.getElem?_set_ne (Ne.symm h), ← List.getD_eq_getElem?_getD]
theorem byt_set_eq (l : List Int) {j : Nat} (v : Int) (h : j < l.length) : byt (l.set j v) j = v.toNat := by
  unfold byt; rw [List.getD_eq_getElem?_getD, List.getElem?_set_self h]; rfl
theorem takTo_set_le (w : Nat) (l : List Int) {j : Nat} (v : Int) {k : Nat} (h : k ≤ j) : takTo w (l.set j v) k = takTo w l k := by
  induction k with
  | zero => rfl
  | succ k ih => rw [takTo, ih (by omega), byt_set_ne _ _ (by omega)]; rfl
theorem takTo_set_gt (w : Nat) (l : List Int) {j : Nat} (d : Nat) (h : j < l.length) (m : Nat) :
    takTo w (l.set j ((byt l j ^^^ d : Nat) : Int)) (j + 1 + m) = takTo w l (j + 1 + m) ^^^ stps (8 * m + 8) d := by
  induction m with
  | zero =>
    rw [Nat.add_zero, takTo, takTo_set_le w l _ (Nat.le_refl j), byt_set_eq l _ h, Int.toNat_natCast, tak, ← Nat.xor_assoc, stps_xor]; rfl
  | succ m ih =>
    rw [← Nat.add_assoc, takTo, ih, byt_set_ne _ _ (by omega), tak, xor_swap, stps_xor, ← stps_add]
    rw [show 8 * (m + 1) + 8 = 8 + (8 * m + 8) from by omega]
    rfl
/-- One bit is turned. -/
theorem takAll_turn (w : Nat) (l : List Int) {n : Nat} (h : n < 8 * l.length) :
    takAll w (l.set (n / 8) ((byt l (n / 8) ^^^ 2 ^ (n % 8) : Nat) : Int)) = takAll w l ^^^ stps (8 * l.length - n) 1 := by
  have hj : n / 8 < l.length := by omega
  have e := takTo_set_gt w l (2 ^ (n % 8)) hj (l.length - (n / 8 + 1))
  rw [show n / 8 + 1 + (l.length - (n / 8 + 1)) = l.length from by omega] at e
  unfold takAll
  rw [List.length_set, e, stps_pow (by omega)]
  rw [show 8 * (l.length - (n / 8 + 1)) + 8 - n % 8 = 8 * l.length - n from by omega]
/-- A text of which the bits of m were turned, from at on. -/
def Turned (t0 t : List Int) (at' m : Nat) : Prop := t.length = t0.length ∧ (∀ z ∈ t, isByte z) ∧ takAll ones t = takAll ones t0 ^^^ stps (8 * t0.length - at') m
theorem Turned.start {t : List Int} (h : ∀ z ∈ t, isByte z) (at' : Nat) : Turned t t at' 0 := ⟨rfl, h, by rw [stps_zero, Nat.xor_zero]⟩
theorem Turned.turn {t0 t : List Int} {at' m i : Nat} (h : Turned t0 t at' m) (hm : m < 2 ^ i) (hi : at' + i < 8 * t0.length) :
    Turned t0 (t.set ((at' + i) / 8) ((byt t ((at' + i) / 8) ^^^ 2 ^ ((at' + i) % 8) : Nat) : Int)) at' (m + 2 ^ i) := by
  obtain ⟨h1, h2, h3⟩ := h
  refine ⟨by rw [List.length_set, h1], ?_, ?_⟩
  · intro z hz
    rcases List.mem_or_eq_of_mem_set hz with hz | rfl
    · exact h2 z hz
    · have hb := byt_lt h2 ((at' + i) / 8)
      have hp : 2 ^ ((at' + i) % 8) < 2 ^ 8 := Nat.pow_lt_pow_right (by omega) (by omega)
      have := @Nat.xor_lt_two_pow (byt t ((at' + i) / 8)) (2 ^ ((at' + i) % 8)) 8 hb hp
      unfold isByte
      omega
  · rw [takAll_turn ones t (by omega), h3, h1, Nat.xor_assoc, ← xor_add hm, stps_xor, stps_pow (k := 8 * t0.length - at') (j := i) (by omega)]
    rw [show 8 * t0.length - (at' + i) = 8 * t0.length - at' - i from by omega]
theorem Turned.tells {b t : List Int} {at' m : Nat} (hb : ∀ z ∈ b, isByte z) (hl : b.length ≤ 4096) (h : Turned (sealed b) t at' m) (hm : isW m) : opE t = if m = 0 then 0 else 20 := by
  obtain ⟨h1, h2, h3⟩ := h
  have hs := sealed_length b
  have h0 := opE_sealed hb hl
  rw [opE_res (sealed_byte hb) (by omega) (by omega)] at h0
  have hres : takAll ones (sealed b) = stps 32 ones := by
    split at h0
    · assumption
    · cases h0
  rw [opE_res h2 (by omega) (by omega), h3, hres]
  by_cases h0 : m = 0
  · rw [h0, stps_zero, Nat.xor_zero, if_pos rfl, if_pos rfl]
  · rw [if_neg h0, if_neg]
    intro he
    have : stps 32 ones ^^^ stps (8 * (sealed b).length - at') m = stps 32 ones ^^^ 0 := by rw [he, Nat.xor_zero]
    exact h0 (stps_eq_zero _ hm (xor_inj this))

end Go.Proofs.Ytdgfofemogmmkaa

namespace Go.Proofs.Ytdgfofemogmmkaa
open Go.RowKit
set_option linter.unusedVariables false

theorem u32_and_one (x : Nat) (h : x < 4294967296) : bits .and .u32 (x : Int) 1 = ((x % 2 : Nat) : Int) := by
  have := u32_and_nat x 1 h (by omega)
  rw [nat_mask1] at this
  exact this
theorem u32_xor_pat (x : Nat) (h : x < 4294967296) : bits .xor .u32 (x : Int) 3988292384 = ((x ^^^ 3988292384 : Nat) : Int) := u32_xor_nat x 3988292384 h (by omega)

set_option maxHeartbeats 400000 in
theorem take_any (s c : Nat) (w : World) (hs : s < 4294967296) (hc : c < 256) :
    Calls Try.prog 42 #[.int .u32 (s : Int), .int .u8 (c : Int)] w fun e w' => e = .returned (.int .u32 (tak s c : Nat)) ∧ w = w' := by
  have hx := u32_xor_nat s c hs (by omega)
  obtain ⟨x, hxe⟩ : ∃ x, x = s ^^^ c := ⟨_, rfl⟩
  have hxw : isW x := by rw [hxe]; exact isW_xor hs (show c < 4294967296 by omega)
  have HX := Lib.hid hxe
  rw [← hxe] at hx
  clear hxe
  go_enter Try.func42, Try.ntmps42
  go_wp2
  go_step3
  go_wp2
  go_step3
  go_wp2
  go_loop [0, 10] (fun u i => ∃ k : Nat, k ≤ 8 ∧ i = .int .i64 k ∧ u = .int .u32 (stps k x : Nat)) (fun _ i => 8 - (intOf i).toNat)
  case atStart => exact ⟨0, Nat.zero_le _, rfl, rfl⟩
  case round =>
    obtain ⟨k, hk, rfl, rfl⟩ := hrel
    by_cases hk8 : k < 8
    · have hy := stps_w k hxw
      have hst : stps (k + 1) x = stp (stps k x) := rfl
      have HS := Lib.hid hst
      clear hst
      obtain ⟨y, hye⟩ : ∃ y, y = stps k x := ⟨_, rfl⟩
      rw [← hye] at hy HS ⊢
      have hy2 : y / 2 < 4294967296 := by have : y < 4294967296 := hy; omega
      have h1 := u32_and_one y hy
      have h2 := u32_xor_pat (y / 2) hy2
      rw [show ((y / 2 : Nat) : Int) = (y : Int) / 2 from by omega] at h2
      clear hye
      rcases Nat.mod_two_eq_zero_or_one y with hp | hp
      · have hb : (bits .and .u32 (y : Int) 1 == 0) = true := by rw [h1, hp]; rfl
        have HP := Lib.hid hp
        clear h1 hp h2
        go_wp2
        go_round
        case rel => exact ⟨k + 1, by omega, by go_num, by rw [HS.out, stp, if_neg (by have := HP.out; omega)]; go_num⟩
        case measure => simp [intOf]; omega
      · have hb : (bits .and .u32 (y : Int) 1 == 0) = false := by rw [h1, hp]; rfl
        have HP := Lib.hid hp
        have H2 := Lib.hid h2
        clear h1 hp h2
        go_wp2
        go_round
        case rel => exact ⟨k + 1, by omega, by go_num, by rw [HS.out, stp, if_pos HP.out, H2.out]⟩
        case measure => simp [intOf]; omega
    · obtain rfl : k = 8 := by omega
      obtain ⟨y, hye⟩ : ∃ y, y = stps 8 x := ⟨_, rfl⟩
      have HY := Lib.hid hye
      rw [← hye]
      clear hye
      go_wp2
      try rw [Exit.noGoto_ret]
      go_ret
      exact ⟨by rw [HY.out, HX.out]; rfl, rfl⟩

set_option maxHeartbeats 400000 in
theorem takeAll_any (s : Nat) (A : Option Addr) (n c : Nat) (l : List Int) (w : World) (B : Nat) (h : Seq w B A (ints .u8 l)) (hl : l.length = n) (hn : n ≤ maxLen) (hs : s < 4294967296) (hb : ∀ z ∈ l, isByte z) :
    Calls Try.prog 35 #[.int .u32 (s : Int), .slice A n c] w fun e w' => e = .returned (.int .u32 (takAll s l : Nat)) ∧ w = w' := by
  subst hl
  unfold maxLen at hn
  have HB := Lib.hid hb
  clear hb
  go_enter Try.func35, Try.ntmps35
  go_wp2
  go_loop [0, 9] (fun u i => ∃ k : Nat, k ≤ l.length ∧ i = .int .i64 k ∧ u = .int .u32 (takTo s l k : Nat)) (fun _ i => l.length - (intOf i).toNat)
  case atStart => exact ⟨0, Nat.zero_le _, rfl, rfl⟩
  case round =>
    obtain ⟨k, hk, rfl, rfl⟩ := hrel
    have hy := takTo_w (w := s) (l := l) hs HB.out k
    by_cases hkn : k < l.length
    · obtain ⟨b, o, rfl, hlt, hc⟩ := h.int hkn
      rw [byt_cast HB.out hkn] at hc
      have hbl := byt_lt HB.out k
      have hst : takTo s l (k + 1) = tak (takTo s l k) (byt l k) := rfl
      have HS := Lib.hid hst
      clear hst h
      obtain ⟨y, hye⟩ : ∃ y, y = takTo s l k := ⟨_, rfl⟩
      obtain ⟨v, hve⟩ : ∃ v, v = byt l k := ⟨_, rfl⟩
      rw [← hye] at hy HS ⊢
      rw [← hve] at hbl HS hc
      clear hye hve
      have T := Lib.hid (take_any y v w hy hbl)
      go_wp2_with fail
      refine T.out.mono ?_
      rintro e w' ⟨rfl, rfl⟩
      go_wp2
      go_round
      case rel => exact ⟨k + 1, by omega, by go_num, by rw [HS.out]⟩
      case measure => simp [intOf]; omega
    · obtain rfl : k = l.length := by omega
      obtain ⟨y, hye⟩ : ∃ y, y = takTo s l l.length := ⟨_, rfl⟩
      have HY := Lib.hid hye
      rw [← hye]
      clear hye
      go_wp2
      go_ret
      exact ⟨by rw [HY.out]; rfl, rfl⟩

theorem trn_eq (x : Nat) : trn x = ones ^^^ x := by rw [trn]
theorem ones_eq : ones = 4294967295 := by rw [ones]
theorem u32_trn (x : Nat) (h : x < 4294967296) : bits .xor .u32 4294967295 (x : Int) = ((trn x : Nat) : Int) := by
  rw [trn_eq, ones_eq]
  exact u32_xor_nat 4294967295 x (by omega) h
theorem u32_max : IntKind.u32.max = 4294967295 := by decide
theorem u32_trn_max (x : Nat) (h : x < 4294967296) : bits .xor .u32 IntKind.u32.max (x : Int) = ((trn x : Nat) : Int) := by rw [u32_max]; exact u32_trn x h

theorem sum_any (A : Option Addr) (n c : Nat) (l : List Int) (w : World) (B : Nat) (h : Seq w B A (ints .u8 l)) (hl : l.length = n) (hn : n ≤ maxLen) (hb : ∀ z ∈ l, isByte z) :
    Calls Try.prog 24 #[.slice A n c] w fun e w' => e = .returned (.int .u32 (sum l : Nat)) ∧ w = w' := by
  have hy : isW (takAll ones l) := takAll_w ones_w hb
  have hs : sum l = trn (takAll ones l) := by rw [sum]
  have T := takeAll_any ones A n c l w B h hl hn ones_w hb
  obtain ⟨y, hye⟩ : ∃ y, y = takAll ones l := ⟨_, rfl⟩
  rw [hs]
  rw [← hye] at T hy ⊢
  rw [ones_eq] at T
  have hx := u32_trn_max y hy
  obtain ⟨u, hu⟩ : ∃ u, u = trn y := ⟨_, rfl⟩
  rw [← hu] at hx ⊢
  have T := Lib.hid T
  clear hye hs h hu
  go_enter Try.func24, Try.ntmps24
  go_wp2_with fail
  refine T.out.mono ?_
  rintro e w' ⟨rfl, rfl⟩
  go_wp2
  go_ret
  exact ⟨rfl, rfl⟩

end Go.Proofs.Ytdgfofemogmmkaa
