/- Layer 1 in plain lists and numbers: a number's digits, a row, its size. Nothing of the program. -/
/- Layer 1, package num: what each function returns, in the words of NumMath. -/
/- Layer 1, package num: what Write returns. -/
import Derived.Test.YtiibmlbenamgcaaByteMath
import Derived.Test.YtiibmlbenamgcaaBase3
import Derived.StillTailTactics
import Derived.Deep.RegionHeld3
namespace Go.Proofs.Ytiibmlbenamgcaa

theorem snoc_ind {α : Type} {P : List α → Prop} (h0 : P []) (h1 : ∀ l a, P l → P (l ++ [a])) : ∀ l, P l := by
  intro l
  rw [← l.reverse_reverse]
  induction l.reverse with
  | nil => exact h0
  | cons a t ih => rw [List.reverse_cons]; exact h1 _ _ ih

/-- The number of bytes, the highest first. -/
def val (zs : List Int) : Int := zs.foldl (fun v z => v * 256 + z) 0
/-- The last k digits of v. -/
def digs : Nat → Int → List Int
  | 0, _ => []
  | k + 1, v => digs k (v / 256) ++ [v % 256]

theorem val_snoc (zs : List Int) (z : Int) : val (zs ++ [z]) = val zs * 256 + z := by simp [val, List.foldl_append]
theorem val_nil : val [] = 0 := rfl
theorem digs_length (k : Nat) (v : Int) : (digs k v).length = k := by
  induction k generalizing v with
  | zero => rfl
  | succ k ih => simp [digs, ih]
theorem digs_byte (k : Nat) (v : Int) : ∀ z ∈ digs k v, isByte z := by
  induction k generalizing v with
  | zero => simp [digs]
  | succ k ih =>
    intro z hz
    simp only [digs, List.mem_append, List.mem_singleton] at hz
    rcases hz with hz | rfl
    · exact ih _ z hz
    · exact ⟨Int.emod_nonneg _ (by omega), Int.emod_lt_of_pos _ (by omega)⟩
theorem div_pow (v : Int) (k : Nat) : v / 256 / 256 ^ k = v / 256 ^ (k + 1) := by
  rw [Int.ediv_ediv_of_nonneg (by omega), Int.pow_succ, Int.mul_comm]
/-- One digit more in front. -/
theorem digs_cons (k : Nat) (v : Int) : digs (k + 1) v = v / 256 ^ k % 256 :: digs k v := by
  induction k generalizing v with
  | zero => simp [digs]
  | succ k ih =>
    rw [digs, ih (v / 256), div_pow]
    rfl

theorem val_bounds (zs : List Int) (h : ∀ z ∈ zs, isByte z) : 0 ≤ val zs ∧ val zs < 256 ^ zs.length := by
  revert h
  refine snoc_ind (P := fun zs => (∀ z ∈ zs, isByte z) → 0 ≤ val zs ∧ val zs < 256 ^ zs.length) ?_ ?_ zs
  · intro _; simp [val]
  · intro l a ih h
    have h1 := ih fun z hz => h z (by simp [hz])
    have h2 : isByte a := h a (by simp)
    unfold isByte at h2
    rw [val_snoc, List.length_append, List.length_singleton, Int.pow_succ]
    omega
theorem val_digs (k : Nat) (v : Int) (h0 : 0 ≤ v) (h : v / 256 ^ k = 0) : val (digs k v) = v := by
  induction k generalizing v with
  | zero => simp at h; simp [digs, val, h]
  | succ k ih =>
    rw [digs, val_snoc, ih (v / 256) (by omega) (by rw [div_pow]; exact h)]
    omega
theorem digs_val (zs : List Int) (h : ∀ z ∈ zs, isByte z) : digs zs.length (val zs) = zs := by
  revert h
  refine snoc_ind (P := fun zs => (∀ z ∈ zs, isByte z) → digs zs.length (val zs) = zs) ?_ ?_ zs
  · intro _; rfl
  · intro l a ih h
    have h1 := ih fun z hz => h z (by simp [hz])
    have h2 : isByte a := h a (by simp)
    unfold isByte at h2
    rw [val_snoc, List.length_append, List.length_singleton, digs]
    rw [show (val l * 256 + a) / 256 = val l from by omega, h1, show (val l * 256 + a) % 256 = a from by omega]
theorem div_zero_iff (v : Int) (k : Nat) (h0 : 0 ≤ v) : v / 256 ^ k = 0 ↔ v < 256 ^ k := by
  have hp : (0 : Int) < 256 ^ k := Int.pow_pos (by omega)
  constructor
  · intro h
    have := Int.lt_mul_of_ediv_lt hp (show v / 256 ^ k < 1 by omega)
    omega
  · intro h; exact Int.ediv_eq_zero_of_lt h0 h

/-! ### Sizes, rows -/
def szOf (s : List Int) (k : Nat) : Nat := (s.getD k 0).toNat
def atTo (s : List Int) : Nat → Nat
  | 0 => 0
  | k + 1 => atTo s k + szOf s k
def okTo (s : List Int) : Nat → Bool
  | 0 => true
  | k + 1 => okTo s k && (decide (1 ≤ s.getD k 0) && decide (s.getD k 0 ≤ 8))
def okB (s : List Int) : Bool := decide (s.length ≤ 16) && okTo s s.length
def rowTo (l s : List Int) : Nat → List Int
  | 0 => []
  | k + 1 => rowTo l s k ++ digs (szOf s k) (l.getD k 0)
def fitsTo (l s : List Int) : Nat → Bool
  | 0 => true
  | k + 1 => fitsTo l s k && decide (l.getD k 0 / 256 ^ szOf s k = 0)
def numsTo (b s : List Int) : Nat → List Int
  | 0 => []
  | k + 1 => numsTo b s k ++ [val ((b.drop (atTo s k)).take (szOf s k))]

theorem okTo_le {s : List Int} {n k : Nat} (h : okTo s n = true) (hk : k ≤ n) : okTo s k = true := by
  induction n with
  | zero => simp [show k = 0 from by omega, okTo]
  | succ n ih =>
    rcases Nat.lt_or_ge k (n + 1) with h1 | h1
    · exact ih (by simp [okTo] at h; exact h.1) (by omega)
    · rw [show k = n + 1 from by omega]; exact h
theorem okTo_at {s : List Int} {n k : Nat} (h : okTo s n = true) (hk : k < n) : 1 ≤ s.getD k 0 ∧ s.getD k 0 ≤ 8 := by
  have := okTo_le (k := k + 1) h (by omega)
  simp only [okTo, Bool.and_eq_true, decide_eq_true_eq] at this
  exact this.2
theorem okTo_sz {s : List Int} {n k : Nat} (h : okTo s n = true) (hk : k < n) : 1 ≤ szOf s k ∧ szOf s k ≤ 8 ∧ (szOf s k : Int) = s.getD k 0 := by
  have := okTo_at h hk
  unfold szOf
  omega
theorem atTo_le {s : List Int} {n k : Nat} (h : okTo s n = true) (hk : k ≤ n) : atTo s k ≤ 8 * k := by
  induction k with
  | zero => simp [atTo]
  | succ k ih =>
    have := ih (by omega)
    have := okTo_sz h (show k < n by omega)
    rw [atTo]
    omega
theorem atTo_mono (s : List Int) {k n : Nat} (hk : k ≤ n) : atTo s k ≤ atTo s n := by
  induction n with
  | zero => simp [show k = 0 from by omega]
  | succ n ih =>
    rcases Nat.lt_or_ge k (n + 1) with h1 | h1
    · have := ih (by omega); rw [atTo]; omega
    · rw [show k = n + 1 from by omega]; omega
theorem rowTo_length (l s : List Int) (k : Nat) : (rowTo l s k).length = atTo s k := by
  induction k with
  | zero => rfl
  | succ k ih => simp [rowTo, atTo, ih, digs_length]
theorem rowTo_byte (l s : List Int) (k : Nat) : ∀ z ∈ rowTo l s k, isByte z := by
  induction k with
  | zero => simp [rowTo]
  | succ k ih =>
    intro z hz
    simp only [rowTo, List.mem_append] at hz
    rcases hz with hz | hz
    · exact ih z hz
    · exact digs_byte _ _ z hz
theorem numsTo_length (b s : List Int) (k : Nat) : (numsTo b s k).length = k := by
  induction k with
  | zero => rfl
  | succ k ih => simp [numsTo, ih]
theorem fitsTo_le {l s : List Int} {n k : Nat} (h : fitsTo l s n = true) (hk : k ≤ n) : fitsTo l s k = true := by
  induction n with
  | zero => simp [show k = 0 from by omega, fitsTo]
  | succ n ih =>
    rcases Nat.lt_or_ge k (n + 1) with h1 | h1
    · exact ih (by simp [fitsTo] at h; exact h.1) (by omega)
    · rw [show k = n + 1 from by omega]; exact h
theorem fitsTo_at {l s : List Int} {n k : Nat} (h : fitsTo l s n = true) (hk : k < n) : l.getD k 0 / 256 ^ szOf s k = 0 := by
  have := fitsTo_le (k := k + 1) h (by omega)
  simp only [fitsTo, Bool.and_eq_true, decide_eq_true_eq] at this
  exact this.2
theorem pow_le (k n : Nat) (h : k ≤ n) : (256 : Int) ^ k ≤ 256 ^ n := by
  have e : ∀ m : Nat, (256 : Int) ^ m = ((256 ^ m : Nat) : Int) := fun m => (Int.natCast_pow 256 m).symm
  rw [e k, e n]
  exact Int.ofNat_le.2 (Nat.pow_le_pow_right (by omega) h)
theorem numsTo_word (b s : List Int) (k : Nat) (hb : ∀ z ∈ b, isByte z) (h : okTo s k = true) : ∀ z ∈ numsTo b s k, isWord z := by
  induction k with
  | zero => simp [numsTo]
  | succ k ih =>
    intro z hz
    simp only [numsTo, List.mem_append, List.mem_singleton] at hz
    rcases hz with hz | rfl
    · exact ih (okTo_le h (by omega)) z hz
    · have hv := val_bounds ((b.drop (atTo s k)).take (szOf s k)) fun z hz => hb z (List.mem_of_mem_drop (List.mem_of_mem_take hz))
      have hs := okTo_sz h (show k < k + 1 by omega)
      have hp := pow_le ((b.drop (atTo s k)).take (szOf s k)).length 8 (by simp; omega)
      have h8 : (256 : Int) ^ 8 = 18446744073709551616 := by decide
      exact ⟨hv.1, by omega⟩

/-! ### What follows -/
theorem numsTo_rowTo (l s : List Int) (n : Nat) (hl : ∀ z ∈ l, isWord z) (h : fitsTo l s n = true) (hn : n ≤ l.length) (rest : List Int) :
    ∀ k, k ≤ n → numsTo (rowTo l s n ++ rest) s k = l.take k := by
  intro k
  have hpre : ∀ k, k ≤ n → ∃ r, rowTo l s n = rowTo l s k ++ r := by
    intro k hk
    induction n with
    | zero => exact ⟨[], by simp [show k = 0 from by omega]⟩
    | succ n ih =>
      rcases Nat.lt_or_ge k (n + 1) with h1 | h1
      · obtain ⟨r, hr⟩ := ih (fitsTo_le h (by omega)) (by omega) (by omega)
        exact ⟨r ++ digs (szOf s n) (l.getD n 0), by rw [rowTo, hr, List.append_assoc]⟩
      · exact ⟨[], by simp [show k = n + 1 from by omega]⟩
  induction k with
  | zero => intro _; simp [numsTo]
  | succ k ih =>
    intro hk
    rw [numsTo, ih (by omega)]
    obtain ⟨r, hr⟩ := hpre (k + 1) hk
    rw [hr, rowTo]
    have e1 : (rowTo l s k ++ digs (szOf s k) (l.getD k 0) ++ r ++ rest).drop (atTo s k) = digs (szOf s k) (l.getD k 0) ++ (r ++ rest) := by
      rw [List.append_assoc, List.append_assoc, List.drop_append_of_le_length (by rw [rowTo_length]; omega), List.drop_eq_nil_of_le (by rw [rowTo_length]; omega)]
      simp
    have e2 : (digs (szOf s k) (l.getD k 0) ++ (r ++ rest)).take (szOf s k) = digs (szOf s k) (l.getD k 0) := by
      rw [List.take_append_of_le_length (by rw [digs_length]; omega), List.take_of_length_le (by rw [digs_length]; omega)]
    rw [e1, e2]
    have hkl : k < l.length := by omega
    have hg : l.getD k 0 = l[k] := by simp [hkl]
    rw [val_digs _ _ (by rw [hg]; exact (hl _ (List.getElem_mem hkl)).1) (fitsTo_at h hk), hg]
    exact List.take_append_getElem hkl
theorem read_write (l s : List Int) (hl : ∀ z ∈ l, isWord z) (he : l.length = s.length) (h : fitsTo l s s.length = true) : numsTo (rowTo l s s.length) s s.length = l := by
  have := numsTo_rowTo l s s.length hl h (by omega) [] s.length (Nat.le_refl _)
  rw [List.append_nil] at this
  rw [this, ← he, List.take_length]

theorem take_take_drop (b : List Int) (m n : Nat) : b.take m ++ (b.drop m).take n = b.take (m + n) := by
  rw [List.take_add]
theorem numsTo_getD (b s : List Int) : ∀ n k, k < n → (numsTo b s n).getD k 0 = val ((b.drop (atTo s k)).take (szOf s k)) := by
  intro n
  induction n with
  | zero => intro k hk; omega
  | succ n ih =>
    intro k hk
    rw [numsTo, List.getD_eq_getElem?_getD, List.getElem?_append]
    rcases Nat.lt_or_ge k n with h1 | h1
    · rw [if_pos (by rw [numsTo_length]; exact h1), ← List.getD_eq_getElem?_getD, ih k h1]
    · rw [if_neg (by rw [numsTo_length]; omega), numsTo_length, show k = n from by omega]
      simp
theorem rowTo_numsTo (b s : List Int) (n : Nat) (hb : ∀ z ∈ b, isByte z) (hlen : atTo s n = b.length) :
    ∀ k, k ≤ n → rowTo (numsTo b s n) s k = b.take (atTo s k) := by
  intro k
  induction k with
  | zero => intro _; simp [rowTo, atTo]
  | succ k ih =>
    intro hk
    rw [rowTo, ih (by omega), numsTo_getD b s n k (by omega)]
    have hm := atTo_mono s hk
    rw [atTo] at hm
    have hl : ((b.drop (atTo s k)).take (szOf s k)).length = szOf s k := by simp; omega
    have := digs_val ((b.drop (atTo s k)).take (szOf s k)) fun z hz => hb z (List.mem_of_mem_drop (List.mem_of_mem_take hz))
    rw [hl] at this
    rw [this, take_take_drop, atTo]
theorem write_read (b s : List Int) (hb : ∀ z ∈ b, isByte z) (hlen : atTo s s.length = b.length) : rowTo (numsTo b s s.length) s s.length = b := by
  rw [rowTo_numsTo b s s.length hb hlen s.length (Nat.le_refl _), hlen, List.take_length]
theorem fits_numsTo (b s : List Int) (n : Nat) (hb : ∀ z ∈ b, isByte z) : ∀ k, k ≤ n → fitsTo (numsTo b s n) s k = true := by
  intro k
  induction k with
  | zero => intro _; rfl
  | succ k ih =>
    intro hk
    rw [fitsTo, ih (by omega), numsTo_getD b s n k (by omega)]
    have hv := val_bounds ((b.drop (atTo s k)).take (szOf s k)) fun z hz => hb z (List.mem_of_mem_drop (List.mem_of_mem_take hz))
    have hp := pow_le ((b.drop (atTo s k)).take (szOf s k)).length (szOf s k) (by simp; omega)
    have := (div_zero_iff _ (szOf s k) hv.1).2 (by omega)
    simp [this]

end Go.Proofs.Ytiibmlbenamgcaa

namespace Go.Proofs.Ytiibmlbenamgcaa
open Go.RowKit
set_option linter.unusedVariables false

theorem or_byte (m z : Int) (h0 : 0 ≤ m) (h1 : m * 256 < 18446744073709551616) (h2 : 0 ≤ z) (h3 : z < 256) :
    bits .or .u64 (m * 256) z = m * 256 + z := by
  obtain ⟨a, rfl⟩ := Int.eq_ofNat_of_zero_le h0
  obtain ⟨b, rfl⟩ := Int.eq_ofNat_of_zero_le h2
  have e := bits_or_u64_nat (a * 256) b (by omega) (by omega)
  have e2 := Nat.shiftLeft_add_eq_or_of_lt (i := 8) (b := b) (by omega) a
  rw [Nat.shiftLeft_eq] at e2
  have e3 : ((a : Int) * 256) = ((a * 256 : Nat) : Int) := by omega
  rw [e3, e, ← e2]
  omega

theorem set_mid (P M D : List Int) (j : Nat) (x : Int) (h : j < M.length) (rest : List Int) :
    (P ++ M.take (j + 1) ++ D ++ rest).set (P.length + j) x = P ++ M.take j ++ (x :: D) ++ rest := by
  have e : M.take (j + 1) = M.take j ++ [M[j]] := (List.take_append_getElem h).symm
  rw [e, List.append_assoc, List.append_assoc, List.append_assoc, List.set_append, if_neg (by omega), show P.length + j - P.length = j from by omega,
    List.append_assoc, List.set_append, if_neg (by rw [List.length_take]; omega), show j - (M.take j).length = 0 from by rw [List.length_take]; omega]
  simp

/-- What parts puts together: of each size the piece of the row. -/
def partsTo (g o : Nat) (s : List Int) : Nat → List Value
  | 0 => []
  | k + 1 => partsTo g o s k ++ [.slice (some ⟨g, o + atTo s k, none⟩) (szOf s k) (szOf s k)]
theorem partsTo_length (g o : Nat) (s : List Int) (k : Nat) : (partsTo g o s k).length = k := by
  induction k with
  | zero => rfl
  | succ k ih => simp [partsTo, ih]

theorem slices_info : (Try.prog.info? 22).map (fun i => (i.zero, i.size, i.bytes)) = some (some (.slice none 0 0), 1, 24) := by kernel_rfl

theorem word_info : (Try.prog.info? 131).map (fun i => (i.zero, i.size, i.bytes)) = some (some (.int .u64 0), 1, 8) := by kernel_rfl

theorem partsTo_get (g o : Nat) (s : List Int) (n k : Nat) (h : k < n) : (partsTo g o s n)[k]? = some (.slice (some ⟨g, o + atTo s k, none⟩) (szOf s k) (szOf s k)) := by
  induction n with
  | zero => omega
  | succ n ih =>
    rw [partsTo, List.getElem?_append, partsTo_length]
    rcases Nat.lt_or_ge k n with h1 | h1
    · rw [if_pos h1]; exact ih h1
    · rw [if_neg (by omega), show k = n from by omega]; simp

end Go.Proofs.Ytiibmlbenamgcaa

namespace Go.Proofs.Ytiibmlbenamgcaa
open Go.RowKit
set_option linter.unusedVariables false

/-- Write of as many numbers: the row, if each fits; else ErrMany. -/
def WroteOut (w : World) (l s : List Int) (e : Ending) (w' : World) : Prop :=
  (fitsTo l s s.length = true ∧ RowOut .u8 5 w (rowTo l s s.length) 0 e w') ∨ (fitsTo l s s.length = false ∧ e = .returned (.tuple #[.slice none 0 0, .int .i64 4]) ∧ Below w.heap.size w w')

theorem WroteOut.yes {w : World} {l s : List Int} {e : Ending} {w' : World} (h : WroteOut w l s e w') (hf : fitsTo l s s.length = true) : RowOut .u8 5 w (rowTo l s s.length) 0 e w' := by
  rcases h with ⟨_, h⟩ | ⟨h, _⟩
  · exact h
  · rw [hf] at h; cases h
theorem WroteOut.no {w : World} {l s : List Int} {e : Ending} {w' : World} (h : WroteOut w l s e w') (hf : fitsTo l s s.length = false) : e = .returned (.tuple #[.slice none 0 0, .int .i64 4]) ∧ Below w.heap.size w w' := by
  rcases h with ⟨h, _⟩ | ⟨_, h⟩
  · rw [hf] at h; cases h
  · exact h

end Go.Proofs.Ytiibmlbenamgcaa
