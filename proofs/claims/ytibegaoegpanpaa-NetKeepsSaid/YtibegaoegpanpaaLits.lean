/- Literals of texts. No statement is proved here. -/
import Derived.Test.YtibegaoegpanpaaTexts
import Derived.Test.YtibegaoegpanpaaRingMath
import Derived.Lib.SlBytesConst
namespace Go.Proofs.Ytibegaoegpanpaa
open Go.RowKit
set_option linter.unusedVariables false

theorem lit_text (w : World) (b : Nat) (mk : Nat × Nat) (zs : List Int) (n : Nat) (hb : b = w.heap.size) (hn : zs.length = n) (hm : n ≤ maxLen) : Arg (w.alloc (.cells (ints .u8 zs).toArray 5 mk)) .u8 (some ⟨b, 0, none⟩) n n zs := by
  subst hb
  refine ⟨?_, hn, Nat.le_refl _, hm⟩
  refine Seq.of (by simp) fun j v hv => ?_
  have h1 : (w.alloc (.cells (ints .u8 zs).toArray 5 mk)).heap[w.heap.size]? = some (.cells (ints .u8 zs).toArray 5 mk) := heap_alloc_new w _
  rw [cell_of_row _ _ _ _ _ _ h1, Nat.zero_add]
  simpa using hv
/-- A literal's text, its own row. -/
theorem conv_lit (w : World) (b : Nat) (C : Array Value) (n m c : Nat) (hb : b = w.heap.size) (hm : C.size = m) : (convert 26 26 (.slice (some ⟨b, 0, none⟩) n c)).run Try.prog (w.alloc (.cells C 5)) = .ok (.slice (some ⟨b, 0, none⟩) n c) (w.alloc (.cells C 5 (m, m + 1))) := by
  subst hb; subst hm
  exact Lib.run_convert_bytes_const (P := Try.prog) w 26 5 C n c Try.underlying26 Try.underlying5
theorem few_bytes (l : List Int) (h : l.all (fun z => decide (0 ≤ z ∧ z < 256)) = true) : ∀ z ∈ l, isByte z := by
  intro z hz
  have h1 := List.all_eq_true.1 h z hz
  exact (of_decide_eq_true h1 : 0 ≤ z ∧ z < 256)
theorem few_texts (q : List Text) (h : q.all (fun l => l.all (fun z => decide (0 ≤ z ∧ z < 256))) = true) : ∀ l ∈ q, ∀ z ∈ l, isByte z := fun l hl => few_bytes l (List.all_eq_true.1 h l hl)
theorem few_small (q : List Text) (h : (decide (q.length ≤ 100) && q.all (fun l => decide (l.length ≤ 200))) = true) : Small q := by
  rw [Bool.and_eq_true, decide_eq_true_iff, List.all_eq_true] at h
  exact ⟨h.1, fun t ht => of_decide_eq_true (h.2 t ht)⟩
theorem str_arg0 {w : World} {A : Option Addr} {n c : Nat} {zs : List Int} (h : Arg w .u8 A n c zs) : (convert 26 9 (.slice A n c)).run Try.prog w = .ok (.string (strOfNums zs)) w :=
  run_str (P := Try.prog) w 26 9 5 Try.underlying26 Try.underlying5 Try.underlying9 (c := c) h.seq h.len
/-- A literal of two texts that lie in memory. -/
theorem lit_two {w : World} {b : Nat} (hb0 : b = w.heap.size) {A A' : Option Addr} {n c n' c' : Nat} {x y : Text} (hx : Arg w .u8 A n c x) (hy : Arg w .u8 A' n' c' y) (bx : ∀ z ∈ x, isByte z) (by' : ∀ z ∈ y, isByte z) :
    Texts (w.alloc (.cells #[.slice A n c, .slice A' n' c'] 26)) (some ⟨b, 0, none⟩) 2 2 [x, y] := by
  subst hb0
  have hb : Below w.heap.size w (w.alloc (.cells #[.slice A n c, .slice A' n' c'] 26)) := (Below.refl _ _).alloc (Nat.le_refl _) _
  have x1 := Blk.new w 26 [.slice A n c, .slice A' n' c']
  refine ⟨rfl, Nat.le_refl _, by decide, fun zs hzs => ?_, fun i hi => ?_⟩
  · rcases List.mem_cons.1 hzs with rfl | hzs
    · exact bx
    · rcases List.mem_cons.1 hzs with rfl | hzs
      · exact by'
      · cases hzs
  · match i, hi with
    | 0, _ => exact ⟨_, 0, A, n, c, rfl, x1.lt, x1.cell 0, hx.below hb⟩
    | 1, _ => exact ⟨_, 0, A', n', c', rfl, x1.lt, x1.cell 1, hy.below hb⟩

end Go.Proofs.Ytibegaoegpanpaa
