/- Layer 6: a part's text, in plain lists. Nothing of the program. -/
import Derived.Test.YteinfkjlcpfeiaaDiskMath
import Derived.Test.YteinfkjlcpfeiaaNumMath
namespace Go.Proofs.Yteinfkjlcpfeiaa
set_option linter.unusedVariables false

def sz4 : List Int := [4, 1, 1, 2]
/-- The row ahead of a part's bytes. -/
def rowT (v n m : Int) : Txt := rowTo [v, n, m, 0] sz4 4
/-- A part's text. -/
def partT (v n : Int) (b : Txt) : Txt := rowT v n b.length ++ b ++ List.replicate (24 - b.length) 0
def nums4 (t : Txt) : List Int := numsTo (t.take 8) sz4 4
def verOf (t : Txt) : Int := val (t.take 4)
def manyOf (t : Txt) : Int := t.getD 5 0

theorem okB_sz4 : okB sz4 = true := by decide
theorem at_sz4 : atTo sz4 4 = 8 := by decide
theorem rowT_length (v n m : Int) : (rowT v n m).length = 8 := by unfold rowT; rw [rowTo_length]; rfl
theorem rowT_byte (v n m : Int) : ∀ z ∈ rowT v n m, isByte z := rowTo_byte _ _ _
theorem partT_length (v n : Int) {b : Txt} (hb : b.length ≤ 24) : (partT v n b).length = 32 := by
  unfold partT
  simp only [List.length_append, rowT_length, List.length_replicate]
  omega
theorem partT_byte (v n : Int) {b : Txt} (hb : ∀ z ∈ b, isByte z) : ∀ z ∈ partT v n b, isByte z := by
  intro z hz
  unfold partT at hz
  simp only [List.mem_append] at hz
  rcases hz with (hz | hz) | hz
  · exact rowT_byte _ _ _ z hz
  · exact hb z hz
  · rw [List.eq_of_mem_replicate hz]; exact ⟨by decide, by decide⟩
theorem rowT_eq (v n m : Int) : rowT v n m = digs 4 v ++ [n % 256, m % 256, 0, 0] := by
  have h : rowT v n m = ((([] ++ digs 4 v) ++ digs 1 n) ++ digs 1 m) ++ digs 2 0 := rfl
  rw [h]
  simp [digs]
theorem fits4 {v n m : Int} (hv : 0 ≤ v ∧ v < 4294967296) (hn : 0 ≤ n ∧ n < 256) (hm : 0 ≤ m ∧ m < 256) : fitsTo [v, n, m, 0] sz4 4 = true := by
  have h1 : v / 256 ^ 4 = 0 := Int.ediv_eq_zero_of_lt hv.1 (by rw [show (256 : Int) ^ 4 = 4294967296 by decide]; exact hv.2)
  have h2 : n / 256 ^ 1 = 0 := Int.ediv_eq_zero_of_lt hn.1 (by omega)
  have h3 : m / 256 ^ 1 = 0 := Int.ediv_eq_zero_of_lt hm.1 (by omega)
  show (((true && decide (v / 256 ^ 4 = 0)) && decide (n / 256 ^ 1 = 0)) && decide (m / 256 ^ 1 = 0)) && decide ((0 : Int) / 256 ^ 2 = 0) = true
  rw [h1, h2, h3]
  decide
theorem nums4_eq (t : Txt) (ht : 8 ≤ t.length) : nums4 t = [verOf t, val ((t.drop 4).take 1), val ((t.drop 5).take 1), val ((t.drop 6).take 2)] := by
  have h : nums4 t = ((([] ++ [val (((t.take 8).drop 0).take 4)]) ++ [val (((t.take 8).drop 4).take 1)]) ++ [val (((t.take 8).drop 5).take 1)]) ++ [val (((t.take 8).drop 6).take 2)] := rfl
  rw [h]
  simp only [List.drop_take, List.take_take, List.drop_zero, List.nil_append, List.cons_append]
  rfl
theorem val_one {t : Txt} {k : Nat} (hk : k < t.length) : val ((t.drop k).take 1) = t.getD k 0 := by
  rw [List.getD_eq_getElem?_getD, List.getElem?_eq_getElem hk, List.drop_eq_getElem_cons hk, List.take_succ_cons, List.take_zero]
  show 0 * 256 + t[k] = t[k]
  rw [Int.zero_mul, Int.zero_add]
theorem ver_bounds {t : Txt} (ht : 4 ≤ t.length) (hb : ∀ z ∈ t, isByte z) : 0 ≤ verOf t ∧ verOf t < 4294967296 := by
  have h := val_bounds (t.take 4) fun z hz => hb z (List.mem_of_mem_take hz)
  rw [List.length_take, Nat.min_eq_left ht] at h
  have h4 : (256 : Int) ^ 4 = 4294967296 := by decide
  unfold verOf
  omega
theorem byte_getD {t : Txt} (hb : ∀ z ∈ t, isByte z) (k : Nat) : isByte (t.getD k 0) := by
  rcases Nat.lt_or_ge k t.length with h | h
  · rw [List.getD_eq_getElem?_getD, List.getElem?_eq_getElem h]
    exact hb _ (List.getElem_mem h)
  · rw [List.getD_eq_getElem?_getD, List.getElem?_eq_none h]
    exact ⟨by decide, by decide⟩
/-- The bytes of the part of which T may be the text. -/
def partB (T : Txt) : Txt := (T.drop 8).take (manyOf T).toNat
def partOk (n : Int) (T : Txt) : Bool := decide (verOf T ≠ 0) && decide (manyOf T ≤ 24) && decide (T = partT (verOf T) n (partB T))
theorem partB_length {T : Txt} (h : T.length = 32) (hb : ∀ z ∈ T, isByte z) (hm : manyOf T ≤ 24) : ((partB T).length : Int) = manyOf T := by
  have := byte_getD hb 5
  unfold isByte at this
  have e : manyOf T = T.getD 5 0 := rfl
  unfold partB
  rw [List.length_take, List.length_drop]
  omega
theorem partB_byte {T : Txt} (hb : ∀ z ∈ T, isByte z) : ∀ z ∈ partB T, isByte z := fun z hz => hb z (List.mem_of_mem_drop (List.mem_of_mem_take hz))

end Go.Proofs.Yteinfkjlcpfeiaa
