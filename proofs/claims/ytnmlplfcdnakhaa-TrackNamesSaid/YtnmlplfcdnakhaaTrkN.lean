/- Layer 8: the chapter's further examples, in numbers. -/
import Derived.Test.YtnmlplfcdnakhaaTrkA
import Derived.Test.YtnmlplfcdnakhaaTrkV
namespace Go.Proofs.Ytnmlplfcdnakhaa
open Go.RowKit
set_option linter.unusedVariables false

def hd8A : List Int := [0, 0, 0, 1, 0, 0, 0, 0]
theorem app_lastA (w : World) : ∃ G cg w', (Builtin.append_ #[22, 3] 22 #[.slice (some ⟨w.heap.size, 0, none⟩) 8 8, .int .i64 24]).run Try.prog (w.alloc (.cells #[.int .u8 0, .int .u8 0, .int .u8 0, .int .u8 1, .int .u8 0, .int .u8 0, .int .u8 0, .int .u8 0] 5)) = .ok (.slice (some ⟨G, 0, none⟩) 32 cg) w' ∧
    Arg w' .u8 (some ⟨G, 0, none⟩) 32 cg (hd8A ++ List.replicate 24 0) ∧ Below w.heap.size w w' := by
  obtain ⟨i, hi, hz, hsize, hby⟩ := info_parts byte_info
  have hml : (100000 : Nat) ≤ maxLen := by decide
  obtain ⟨w1, hw1⟩ : ∃ x, x = w.alloc (.cells #[.int .u8 0, .int .u8 0, .int .u8 0, .int .u8 1, .int .u8 0, .int .u8 0, .int .u8 0, .int .u8 0] 5) := ⟨_, rfl⟩
  have hblk : Blk w1 w.heap.size 5 (ints .u8 hd8A) := by rw [hw1]; exact Blk.new w 5 _
  have hbel : Below w.heap.size w w1 := by rw [hw1]; exact (Below.refl _ _).alloc (Nat.le_refl _) _
  rw [← hw1]
  have hnews : ∀ j u, (ints .u8 hd8A)[j]? = some u → w1.drew.cell? ((⟨w.heap.size, 0, none⟩ : Addr).add j) = some u := fun j u hu => by
    have e2 : (⟨w.heap.size, 0, none⟩ : Addr).add j = ⟨w.heap.size, 0 + j, none⟩ := by unfold Addr.add; split <;> simp_all
    rw [e2, Nat.zero_add]
    exact (hblk.cell j).trans hu
  have hold := run_firstCells_some (P := Try.prog) w1.drew i.size 8 ⟨w.heap.size, 0, none⟩ 8 8 (ints .u8 hd8A) (by rw [hsize]; rfl) hnews
  have hr := run_append_made (P := Try.prog) w1 22 3 22 5 i _ Try.underlying22 Try.underlying3 hi hz (some ⟨w.heap.size, 0, none⟩) 8 8 (ints .u8 hd8A) hold 24 (by decide) (by omega) (by decide) (by omega) (by decide) (by decide) (by rw [hby]; decide)
  have hge := grownCap_ge w1 (8 + 24) 8 5
  have hgm : grownCap w1 (8 + 24) 8 5 ≤ maxLen := grownCap_le_maxLen w1 (8 + 24) 8 5 (by omega)
  refine ⟨w1.heap.size, _, _, hr, ⟨?_, rfl, hge, hgm⟩, hbel.trans ((below_drewN ((Below.refl _ _).alloc (Nat.le_refl _) _) 1).mono hbel.size)⟩
  have hnew : (w1.drew.alloc (.cells ((ints .u8 hd8A).toArray ++ Builtin.zeroCells (Value.int .u8 0).cells 24 ++ Builtin.zeroCells (Value.int .u8 0).cells (grownCap w1 (8 + 24) 8 5 - (8 + 24))) 5)).heap[w1.heap.size]? = _ := heap_alloc_new w1.drew _
  refine Seq.of (by simp) fun j v hv => ?_
  rw [cell_of_row _ _ _ _ _ _ hnew, Nat.zero_add]
  have hz24 : (Builtin.zeroCells (Value.int .u8 0).cells 24).toList = ints .u8 (List.replicate 24 0) := by kernel_rfl
  have hj : j < (ints .u8 (hd8A ++ List.replicate 24 0)).length := (List.getElem?_eq_some_iff.1 hv).1
  have hj : j < 32 := hj
  have e : ((ints .u8 hd8A).toArray ++ Builtin.zeroCells (Value.int .u8 0).cells 24 ++ Builtin.zeroCells (Value.int .u8 0).cells (grownCap w1 (8 + 24) 8 5 - (8 + 24))).toList = ints .u8 (hd8A ++ List.replicate 24 0) ++ (Builtin.zeroCells (Value.int .u8 0).cells (grownCap w1 (8 + 24) 8 5 - (8 + 24))).toList := by
    simp only [Array.toList_append, hz24, ints, List.map_append]
  rw [← Array.getElem?_toList, e, List.getElem?_append_left (by exact hj)]
  exact hv


def hd8B : List Int := [0, 0, 0, 1, 1, 0, 0, 0]
theorem app_lastB (w : World) : ∃ G cg w', (Builtin.append_ #[22, 3] 22 #[.slice (some ⟨w.heap.size, 0, none⟩) 8 8, .int .i64 24]).run Try.prog (w.alloc (.cells #[.int .u8 0, .int .u8 0, .int .u8 0, .int .u8 1, .int .u8 1, .int .u8 0, .int .u8 0, .int .u8 0] 5)) = .ok (.slice (some ⟨G, 0, none⟩) 32 cg) w' ∧
    Arg w' .u8 (some ⟨G, 0, none⟩) 32 cg (hd8B ++ List.replicate 24 0) ∧ Below w.heap.size w w' := by
  obtain ⟨i, hi, hz, hsize, hby⟩ := info_parts byte_info
  have hml : (100000 : Nat) ≤ maxLen := by decide
  obtain ⟨w1, hw1⟩ : ∃ x, x = w.alloc (.cells #[.int .u8 0, .int .u8 0, .int .u8 0, .int .u8 1, .int .u8 1, .int .u8 0, .int .u8 0, .int .u8 0] 5) := ⟨_, rfl⟩
  have hblk : Blk w1 w.heap.size 5 (ints .u8 hd8B) := by rw [hw1]; exact Blk.new w 5 _
  have hbel : Below w.heap.size w w1 := by rw [hw1]; exact (Below.refl _ _).alloc (Nat.le_refl _) _
  rw [← hw1]
  have hnews : ∀ j u, (ints .u8 hd8B)[j]? = some u → w1.drew.cell? ((⟨w.heap.size, 0, none⟩ : Addr).add j) = some u := fun j u hu => by
    have e2 : (⟨w.heap.size, 0, none⟩ : Addr).add j = ⟨w.heap.size, 0 + j, none⟩ := by unfold Addr.add; split <;> simp_all
    rw [e2, Nat.zero_add]
    exact (hblk.cell j).trans hu
  have hold := run_firstCells_some (P := Try.prog) w1.drew i.size 8 ⟨w.heap.size, 0, none⟩ 8 8 (ints .u8 hd8B) (by rw [hsize]; rfl) hnews
  have hr := run_append_made (P := Try.prog) w1 22 3 22 5 i _ Try.underlying22 Try.underlying3 hi hz (some ⟨w.heap.size, 0, none⟩) 8 8 (ints .u8 hd8B) hold 24 (by decide) (by omega) (by decide) (by omega) (by decide) (by decide) (by rw [hby]; decide)
  have hge := grownCap_ge w1 (8 + 24) 8 5
  have hgm : grownCap w1 (8 + 24) 8 5 ≤ maxLen := grownCap_le_maxLen w1 (8 + 24) 8 5 (by omega)
  refine ⟨w1.heap.size, _, _, hr, ⟨?_, rfl, hge, hgm⟩, hbel.trans ((below_drewN ((Below.refl _ _).alloc (Nat.le_refl _) _) 1).mono hbel.size)⟩
  have hnew : (w1.drew.alloc (.cells ((ints .u8 hd8B).toArray ++ Builtin.zeroCells (Value.int .u8 0).cells 24 ++ Builtin.zeroCells (Value.int .u8 0).cells (grownCap w1 (8 + 24) 8 5 - (8 + 24))) 5)).heap[w1.heap.size]? = _ := heap_alloc_new w1.drew _
  refine Seq.of (by simp) fun j v hv => ?_
  rw [cell_of_row _ _ _ _ _ _ hnew, Nat.zero_add]
  have hz24 : (Builtin.zeroCells (Value.int .u8 0).cells 24).toList = ints .u8 (List.replicate 24 0) := by kernel_rfl
  have hj : j < (ints .u8 (hd8B ++ List.replicate 24 0)).length := (List.getElem?_eq_some_iff.1 hv).1
  have hj : j < 32 := hj
  have e : ((ints .u8 hd8B).toArray ++ Builtin.zeroCells (Value.int .u8 0).cells 24 ++ Builtin.zeroCells (Value.int .u8 0).cells (grownCap w1 (8 + 24) 8 5 - (8 + 24))).toList = ints .u8 (hd8B ++ List.replicate 24 0) ++ (Builtin.zeroCells (Value.int .u8 0).cells (grownCap w1 (8 + 24) 8 5 - (8 + 24))).toList := by
    simp only [Array.toList_append, hz24, ints, List.map_append]
  rw [← Array.getElem?_toList, e, List.getElem?_append_left (by exact hj)]
  exact hv


def wrA : Txt := hd8A ++ List.replicate 24 0
def wrB : Txt := hd8B ++ List.replicate 24 0
theorem few_byte (l : Txt) (h : l.all (fun z => decide (0 ≤ z) && decide (z < 256)) = true) : ∀ z ∈ l, isByte z := fun z hz => by
  have := List.all_eq_true.1 h z hz
  simp only [Bool.and_eq_true, decide_eq_true_eq] at this
  exact ⟨this.1, this.2⟩
theorem m_r19 : trE 2 9 4 2 2 8 nS [] 1 9 = 80 ∧ trB 2 9 4 2 2 8 nS [] 1 9 = [] := ⟨by kernel_rfl, by kernel_rfl⟩
theorem m_r20 : trE 2 9 4 2 2 8 nS [] 2 0 = 80 ∧ trB 2 9 4 2 2 8 nS [] 2 0 = [] := ⟨by kernel_rfl, by kernel_rfl⟩
theorem m_r00 : trE 2 9 4 2 2 8 [] [] 0 0 = 8 ∧ trB 2 9 4 2 2 8 [] [] 0 0 = [] := ⟨by kernel_rfl, by kernel_rfl⟩
theorem m_w27 : twE 2 9 4 2 2 8 nS [] 0 0 (List.replicate 27 120) = 2 ∧ twS 2 9 4 2 2 8 nS [] 0 0 (List.replicate 27 120) = [] ∧ twC 2 9 4 2 2 8 nS [] 0 0 (List.replicate 27 120) = [] := ⟨by kernel_rfl, by kernel_rfl, by kernel_rfl⟩
theorem m_w00 : twE 2 9 4 2 2 8 nS [] 0 0 x28 = 0 := by kernel_rfl
def n00C : List Pnd := [] ++ cpL nS [] (atT 2 9 4 0 0) 2 (sealed x28)
theorem m_x00 : twS 2 9 4 2 2 8 nS [] 0 0 x28 = nS ∧ twC 2 9 4 2 2 8 nS [] 0 0 x28 = n00C ∧ n00C.length = 2 := ⟨if_pos m_w00, if_pos m_w00, by kernel_rfl⟩
theorem n00_small : SmallD nS n00C := few_smallJ (by kernel_rfl)
theorem m_p00 : tpE 2 9 4 2 2 8 nS n00C 0 0 (List.replicate 28 121) = 60 ∧ tpL 2 9 4 2 2 8 nS n00C 0 0 (List.replicate 28 121) = [] := by
  have h : tpE 2 9 4 2 2 8 nS n00C 0 0 (List.replicate 28 121) = 60 := by kernel_rfl
  exact ⟨h, by unfold tpL; rw [h, if_neg (by decide)]⟩
theorem m_t01 : traN 2 9 4 2 2 8 0 1 = 18 ∧ traE 2 9 4 2 2 8 0 1 = 0 := ⟨by decide +kernel, by decide +kernel⟩
def yC : List Pnd := [(18, wrA)]
def zzC : List Pnd := [(18, wrA), (19, wrB)]
theorem m_y : wrE nS [] 18 wrA = 0 ∧ wrS nS [] 18 wrA = nS ∧ wrC nS [] 18 wrA = yC := ⟨by kernel_rfl, by kernel_rfl, by kernel_rfl⟩
theorem m_z : wrE nS yC 19 wrB = 0 ∧ wrS nS yC 19 wrB = nS ∧ wrC nS yC 19 wrB = zzC := ⟨by kernel_rfl, by kernel_rfl, by kernel_rfl⟩
theorem y_small : SmallD nS yC := few_smallJ (by kernel_rfl)
theorem z_small : SmallD nS zzC := few_smallJ (by kernel_rfl)
theorem m_r01 : trE 2 9 4 2 2 8 nS zzC 0 1 = 20 ∧ trB 2 9 4 2 2 8 nS zzC 0 1 = [] := ⟨by kernel_rfl, by kernel_rfl⟩
theorem m_vz : tvE 2 9 4 2 2 8 nS zzC 0 = 20 ∧ tvB 2 9 4 2 2 8 nS zzC 0 = [] := by
  have h : tvE 2 9 4 2 2 8 nS zzC 0 = 20 := by kernel_rfl
  exact ⟨h, by unfold tvB; rw [h, if_neg (by decide)]⟩
def v9 : List Txt := tvL 2 9 4 nS n00C 0 9
theorem m_vx : tvE 2 9 4 2 2 8 nS n00C 0 = 0 ∧ tvB 2 9 4 2 2 8 nS n00C 0 = v9 ∧ v9.length = 9 := by
  have h : tvE 2 9 4 2 2 8 nS n00C 0 = 0 := by kernel_rfl
  exact ⟨h, by unfold tvB; rw [if_pos h]; rfl, by kernel_rfl⟩
theorem m_v9 : v9.getD 0 [] = x28 := by kernel_rfl

end Go.Proofs.Ytnmlplfcdnakhaa
