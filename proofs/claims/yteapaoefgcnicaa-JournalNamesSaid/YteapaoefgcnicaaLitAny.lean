/- A literal of bytes and its conversion to its own type, in any world: the conversion turns the block's mark and nothing else. -/
import Derived.Test.YteapaoefgcnicaaCellAp0
import Derived.Lib.SlBytesConst
namespace Go.Proofs.Yteapaoefgcnicaa
open Go.RowKit

/-- The world behind the conversion of a literal of m bytes, which lies in block g. -/
def marked (w : World) (g m : Nat) : World := w.freeze ⟨g, m, none⟩ 1
theorem frz_eq (w : World) (g m : Nat) : marked w g m = { w with heap := w.heap.modify g fun
      | .cells c elem (lo, hi) => .cells c elem (if lo == hi then (m, m + 1) else (min lo m, max hi (m + 1)))
      | o => o } := by
  unfold marked World.freeze
  rw [if_neg (by decide)]
  rfl
theorem frz_size (w : World) (g m : Nat) : (marked w g m).heap.size = w.heap.size := by
  rw [frz_eq]
  simp
theorem frz_drew (w : World) (g m : Nat) : marked w.drew g m = (marked w g m).drew := by
  rw [frz_eq, frz_eq]
  rfl
theorem frz_drewN (w : World) (g m q : Nat) : marked (w.drewN q) g m = (marked w g m).drewN q := by
  rw [frz_eq, frz_eq]
  rfl
theorem frz_away (w : World) {g k : Nat} (m : Nat) (h : k ≠ g) : (marked w g m).heap[k]? = w.heap[k]? := by
  rw [frz_eq]
  simp only [Array.getElem?_modify]
  rw [if_neg (fun e => h e.symm)]
theorem below_frz {B : Nat} {a w : World} (h : Below B a w) {g : Nat} (hg : B ≤ g) (m : Nat) : Below B a (marked w g m) :=
  h.trans ⟨by rw [frz_eq], by rw [frz_eq], by rw [frz_eq], Nat.le_of_eq (frz_size w g m).symm, fun k hk => frz_away w m (by omega)⟩
theorem Blk.frz {w : World} {g g' : Nat} {t : TypeId} {cs : List Value} (h : Blk w g t cs) (hg : g ≠ g') (m : Nat) : Blk (marked w g' m) g t cs := (frz_away w m hg).trans h

/-- A literal of bytes, marked or not. -/
def Lit (w : World) (g : Nat) (zs : List Int) : Prop := ∃ mk, w.heap[g]? = some (.cells (ints .u8 zs).toArray 5 mk)
section
variable {w w' : World} {g : Nat} {zs : List Int}
theorem Lit.lt (h : Lit w g zs) : g < w.heap.size := by
  obtain ⟨mk, h⟩ := h
  exact (Array.getElem?_eq_some_iff.1 h).1
theorem Lit.new (w : World) (zs : List Int) (mk : Nat × Nat) (hg : g = w.heap.size) : Lit (w.alloc (.cells (ints .u8 zs).toArray 5 mk)) g zs := by
  subst hg
  exact ⟨mk, heap_alloc_new w _⟩
theorem Lit.below (h : Lit w g zs) (hb : Below w.heap.size w w') : Lit w' g zs := by
  have hl := h.lt
  obtain ⟨mk, h⟩ := h
  exact ⟨mk, (hb.block g hl).trans h⟩
theorem Lit.alloc (h : Lit w g zs) (o : Obj) : Lit (w.alloc o) g zs := h.below ((Below.refl _ _).alloc (Nat.le_refl _) o)
theorem Lit.drew (h : Lit w g zs) : Lit w.drew g zs := h
theorem Lit.frz (h : Lit w g zs) (g' m : Nat) : Lit (marked w g' m) g zs := by
  obtain ⟨mk, h⟩ := h
  by_cases e : g = g'
  · subst e
    obtain ⟨lo, hi⟩ := mk
    refine ⟨if lo == hi then (m, m + 1) else (min lo m, max hi (m + 1)), ?_⟩
    rw [frz_eq]
    simp only [Array.getElem?_modify, h]
    rfl
  · exact ⟨mk, (frz_away w m e).trans h⟩
theorem Lit.arg {n : Nat} (h : Lit w g zs) (hn : zs.length = n) (hm : n ≤ maxLen) : Arg w .u8 (some ⟨g, 0, none⟩) n n zs := by
  have hl := h.lt
  obtain ⟨mk, h⟩ := h
  refine ⟨Seq.of hl fun j v hv => ?_, hn, Nat.le_refl _, hm⟩
  rw [cell_of_row _ _ _ _ _ _ h, Nat.zero_add]
  simpa using hv
theorem Lit.conv {n : Nat} (h : Lit w g zs) (hn : zs.length = n) : (convert 36 36 (.slice (some ⟨g, 0, none⟩) n n)).run Try.prog w = .ok (.slice (some ⟨g, 0, none⟩) n n) (marked w g n) := by
  obtain ⟨mk, h⟩ := h
  have hs : w.shape? g = some (5, n) := by
    unfold World.shape?
    rw [h]
    simp [ints, hn]
  have h1 : Try.prog.underlying 36 = some (.slice 5) := Try.underlying36
  have h2 : Try.prog.underlying 5 = some (.int .u8) := Try.underlying5
  simp [convert, run_underlying h1, run_underlying h2, markStringish, hs, marked]
end
end Go.Proofs.Yteapaoefgcnicaa
