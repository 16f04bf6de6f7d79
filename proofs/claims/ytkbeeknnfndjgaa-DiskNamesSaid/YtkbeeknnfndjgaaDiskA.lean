/- Layer 5: the law's own: a sector of one byte. -/
import Derived.Test.YtkbeeknnfndjgaaDiskNew
namespace Go.Proofs.Ytkbeeknnfndjgaa
open Go.RowKit
set_option linter.unusedVariables false

theorem whole_of {l : List Int} {z : Int} {n : Nat} (hl : l.length = n) (h : ∀ u, u < n → l.getD u 0 = z) : l = List.replicate n z := by
  apply List.ext_getElem (by rw [hl, List.length_replicate])
  intro i h1 h2
  have := h i (by omega)
  rw [List.getD_eq_getElem?_getD, List.getElem?_eq_getElem h1, Option.getD_some] at this
  rw [this, List.getElem_replicate]
theorem set_getI (l : List Int) (k u : Nat) (x : Int) (hk : k < l.length) : (l.set k x).getD u 0 = if u = k then x else l.getD u 0 := by
  rw [List.getD_eq_getElem?_getD, List.getElem?_set, List.getD_eq_getElem?_getD]
  by_cases h : k = u
  · subst h; simp [hk]
  · rw [if_neg h, if_neg (fun e => h e.symm)]

/-- A sector of one byte, new. -/
theorem of_any (z : Int) (w : World) :
    Calls Try.prog 17 #[.int .u8 z] w fun e w' => ∃ A, e = .returned (.slice A 32 32) ∧ w'.ownsRow w.heap.size 5 1 (.slice A 32 32) 32 (ints .u8 (List.replicate 32 z)) ∧ Below w.heap.size w w' := by
  have hmk := make_bytes 32 (by decide) w
  have hown := noughts_own w
  have hbel : Below w.heap.size w (w.alloc (.cells (List.replicate 32 (.int .u8 0)).toArray 5)) := (Below.refl _ _).alloc (Nat.le_refl _) _
  obtain ⟨w1, hw1⟩ : ∃ w1, w1 = w.alloc (.cells (List.replicate 32 (.int .u8 0)).toArray 5) := ⟨_, rfl⟩
  rw [← hw1] at hmk hown hbel
  rw [show ((32 : Nat) : Int) = 32 from rfl] at hmk
  have OWN := Lib.hid hown
  have BEL := Lib.hid hbel
  clear hw1 hown hbel
  go_enter Try.func17, Try.ntmps17
  go_wp2
  go_loopw [4] (fun i wr => ∃ k : Nat, k ≤ 32 ∧ i = .int .i64 k ∧ (∃ bs : List Int, bs.length = 32 ∧ (∀ u, u < k → bs.getD u 0 = z) ∧ wr.ownsRow w.heap.size 5 1 (.slice (some ⟨w.heap.size, 0, none⟩) 32 32) 32 (ints .u8 bs)) ∧ Below w.heap.size w wr) (fun i _ => 32 - (intOf i).toNat)
  case atStart => exact ⟨0, Nat.zero_le _, rfl, ⟨_, by decide, fun u h => absurd h (Nat.not_lt_zero _), OWN.out⟩, BEL.out⟩
  case round =>
    obtain ⟨k, hk, rfl, ⟨bs, hbl, hbs, hown⟩, hbel⟩ := hrel
    have B := Lib.hid hbel
    have HBS := Lib.hid hbs
    by_cases hkm : k < 32
    · have hki : (k : Int) < 32 := by omega
      obtain ⟨g, hg, hbg, hc, hf, hset⟩ := owns_int_at hown hkm
      cases hg
      have SET := Lib.hid (hset z)
      clear hown hbel hset hbs
      go_wp2
      go_roundw
      case rel =>
        refine ⟨k + 1, by omega, by go_num, ⟨_, ?_, fun u hu => ?_, SET.out⟩, B.out.setCell (p := ⟨w.heap.size, k, none⟩) (Nat.le_refl _) _⟩
        · rw [List.length_set]; exact hbl
        · rw [set_getI _ _ _ _ (by omega)]
          by_cases e : u = k
          · rw [if_pos e]
          · rw [if_neg e]; exact HBS.out u (by omega)
      case measure => simp [intOf]; omega
    · obtain rfl : k = 32 := by omega
      have hwh := whole_of hbl hbs
      subst hwh
      have O := Lib.hid hown
      clear hown hbel hbs hbl HBS
      go_wp2
      go_ret
      exact ⟨_, rfl, O.out, B.out⟩

end Go.Proofs.Ytkbeeknnfndjgaa
