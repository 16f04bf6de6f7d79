/- Layer 6: small things of the laws' own that name no function of a law. -/
import Derived.Test.YtiibmlbenamgcaaCellWr
import Derived.Deep.RegionHeld3
import Derived.Deep.RegionWith
import Derived.Deep.Cut
import Derived.Deep.CutRange
import Derived.Test.YtiibmlbenamgcaaHeldOne
import Derived.Lib.SlBytesConst
import Derived.Test.YtiibmlbenamgcaaDskSm
import Derived.Test.YtiibmlbenamgcaaDiskW
import Derived.Lib.QuoteBits
import Derived.Deep.AppendSrc
namespace Go.Proofs.Ytiibmlbenamgcaa
open Go.RowKit
set_option linter.unusedVariables false

theorem whole_len {bs : List Int} {n : Nat} {z : Int} (hl : bs.length = n) (h : ∀ u, u < n → bs.getD u 0 = z) : bs = List.replicate n z := by
  rw [List.eq_replicate_iff]
  refine ⟨hl, fun b hb => ?_⟩
  obtain ⟨i, hi, rfl⟩ := List.getElem_of_mem hb
  have := h i (by omega)
  rwa [List.getD_eq_getElem?_getD, List.getElem?_eq_getElem hi] at this

theorem set_getJ (l : List Int) (k u : Nat) (x : Int) (hk : k < l.length) : (l.set k x).getD u 0 = if u = k then x else l.getD u 0 := by
  rw [List.getD_eq_getElem?_getD, List.getElem?_set, List.getD_eq_getElem?_getD]
  by_cases h : k = u
  · subst h; simp [hk]
  · rw [if_neg h, if_neg (fun e => h e.symm)]
theorem few_smallJ {S : List Sec} {C : List Pnd} (h : (decide (S.length ≤ 100) && decide (C.length ≤ 100) && S.all (fun s => decide (s.2.length ≤ 100)) && C.all (fun s => decide (s.2.length ≤ 100))) = true) : SmallD S C := by
  rw [Bool.and_eq_true, Bool.and_eq_true, Bool.and_eq_true, decide_eq_true_iff, decide_eq_true_iff, List.all_eq_true, List.all_eq_true] at h
  exact ⟨Nat.le_trans h.1.1.1 (by decide), h.1.1.2, fun s hs => of_decide_eq_true (h.1.2 s hs), fun s hs => of_decide_eq_true (h.2 s hs)⟩
theorem full_byteJ {n : Nat} {z : Int} (h0 : 0 ≤ z) (h1 : z < 256) : ∀ x ∈ List.replicate n z, isByte x := fun x hx => by
  rw [List.eq_of_mem_replicate hx]
  exact ⟨h0, h1⟩

theorem lit_textJ (w : World) (b : Nat) (mk : Nat × Nat) (zs : List Int) (n : Nat) (hb : b = w.heap.size) (hn : zs.length = n) (hm : n ≤ maxLen) : Arg (w.alloc (.cells (ints .u8 zs).toArray 5 mk)) .u8 (some ⟨b, 0, none⟩) n n zs := by
  subst hb
  refine ⟨?_, hn, Nat.le_refl _, hm⟩
  refine Seq.of (by simp) fun j v hv => ?_
  have h1 : (w.alloc (.cells (ints .u8 zs).toArray 5 mk)).heap[w.heap.size]? = some (.cells (ints .u8 zs).toArray 5 mk) := heap_alloc_new w _
  rw [cell_of_row _ _ _ _ _ _ h1, Nat.zero_add]
  simpa using hv
theorem lit_oneJ (w : World) (z : Int) : Arg (w.alloc (.cells #[.int .u8 z] 5)) .u8 (some ⟨w.heap.size, 0, none⟩) 1 1 [z] := lit_textJ w _ _ [z] 1 rfl rfl (by decide)
theorem lit_convJ (w : World) (z : Int) : Arg (w.alloc (.cells #[.int .u8 z] 5 (1, 2))) .u8 (some ⟨w.heap.size, 0, none⟩) 1 1 [z] := lit_textJ w _ _ [z] 1 rfl rfl (by decide)
theorem conv_litJ (w : World) (z : Int) : (convert 22 22 (.slice (some ⟨w.heap.size, 0, none⟩) 1 1)).run Try.prog (w.alloc (.cells #[.int .u8 z] 5)) = .ok (.slice (some ⟨w.heap.size, 0, none⟩) 1 1) (w.alloc (.cells #[.int .u8 z] 5 (1, 2))) :=
  Lib.run_convert_bytes_const (P := Try.prog) w 22 5 #[.int .u8 z] 1 1 Try.underlying22 Try.underlying5
theorem one_byteJ {z : Int} (h : 0 ≤ z ∧ z < 256) : ∀ x ∈ [z], isByte x := fun x hx => by
  rw [List.mem_singleton] at hx
  subst hx
  exact h

theorem run_append_made {P : Program} (w : World) (t tx ty e : TypeId) (i : TypeInfo) (z : Value) (ht : P.underlying t = some (.slice e)) (htx : P.underlying tx = some (.int .i64)) (hi : P.info? e = some i) (hz : i.zero = some z) (base : Option Addr) (sLen sCap : Nat) (olds : List Value)
    (hold : (Builtin.firstCells i.size sLen (.slice base sLen sCap)).run P w.drew = .ok olds.toArray w.drew) (n : Nat) (hn0 : 0 < n) (hs0 : 0 < i.size) (hsz : n ≤ 1000) (hb : i.bytes ≤ 1000)
    (hg : sCap < sLen + n) (h63 : ((sLen + n : Nat) : Int) ≤ 9223372036854775807) (hfit : Builtin.nextslicecap (sLen + n) sCap * i.bytes ≤ 281474976710656) :
    (Builtin.append_ #[t, tx] ty #[.slice base sLen sCap, .int .i64 (n : Int)]).run P w =
      .ok (.slice (some ⟨w.heap.size, 0, none⟩) (sLen + n) (grownCap w (sLen + n) sCap e))
        (w.drew.alloc (.cells (olds.toArray ++ Builtin.zeroCells z.cells n ++ Builtin.zeroCells z.cells (grownCap w (sLen + n) sCap e - (sLen + n))) e)) := by
  have hn : ¬ (sLen + n ≤ sCap) := by omega
  have h63' : ¬ (9223372036854775807 < ((sLen : Int) + (n : Int))) := by omega
  have h48' : ¬ (281474976710656 < Builtin.nextslicecap (sLen + n) sCap * i.bytes) := by omega
  have hw : IntKind.i64.wrap (n : Int) = (n : Int) := Lib.wrap_i64_small n (by omega)
  have hnn : ¬ ((n : Int) < 0) := by omega
  have hmul : ¬ ((281474976710656 : Int) < (n : Int) * (i.bytes : Int)) := by
    have h1 : n * i.bytes ≤ 1000 * 1000 := Nat.mul_le_mul hsz hb
    have h2 : ((n * i.bytes : Nat) : Int) = (n : Int) * (i.bytes : Int) := Int.natCast_mul n i.bytes
    omega
  have hne : n ≠ 0 := by omega
  have hse : i.size ≠ 0 := by omega
  simp [Builtin.append_, run_underlying ht, run_underlying htx, sizeOf, typeInfo, zeroValue, hi, hz, hn, h63', h48', Question.forced, hold, newRow, grownCap, hw, hnn, hmul, asInt, asIntOf]
  intro h
  exact absurd h (Nat.mul_ne_zero hne hse)

def hd8 : List Int := [255, 255, 255, 255, 0, 0, 0, 0]
theorem app_last (w : World) : ∃ G cg w', (Builtin.append_ #[22, 3] 22 #[.slice (some ⟨w.heap.size, 0, none⟩) 8 8, .int .i64 24]).run Try.prog (w.alloc (.cells #[.int .u8 255, .int .u8 255, .int .u8 255, .int .u8 255, .int .u8 0, .int .u8 0, .int .u8 0, .int .u8 0] 5)) = .ok (.slice (some ⟨G, 0, none⟩) 32 cg) w' ∧
    Arg w' .u8 (some ⟨G, 0, none⟩) 32 cg (hd8 ++ List.replicate 24 0) ∧ Below w.heap.size w w' := by
  obtain ⟨i, hi, hz, hsize, hby⟩ := info_parts byte_info
  have hml : (100000 : Nat) ≤ maxLen := by decide
  obtain ⟨w1, hw1⟩ : ∃ x, x = w.alloc (.cells #[.int .u8 255, .int .u8 255, .int .u8 255, .int .u8 255, .int .u8 0, .int .u8 0, .int .u8 0, .int .u8 0] 5) := ⟨_, rfl⟩
  have hblk : Blk w1 w.heap.size 5 (ints .u8 hd8) := by rw [hw1]; exact Blk.new w 5 _
  have hbel : Below w.heap.size w w1 := by rw [hw1]; exact (Below.refl _ _).alloc (Nat.le_refl _) _
  rw [← hw1]
  have hnews : ∀ j u, (ints .u8 hd8)[j]? = some u → w1.drew.cell? ((⟨w.heap.size, 0, none⟩ : Addr).add j) = some u := fun j u hu => by
    have e2 : (⟨w.heap.size, 0, none⟩ : Addr).add j = ⟨w.heap.size, 0 + j, none⟩ := by unfold Addr.add; split <;> simp_all
    rw [e2, Nat.zero_add]
    exact (hblk.cell j).trans hu
  have hold := run_firstCells_some (P := Try.prog) w1.drew i.size 8 ⟨w.heap.size, 0, none⟩ 8 8 (ints .u8 hd8) (by rw [hsize]; rfl) hnews
  have hr := run_append_made (P := Try.prog) w1 22 3 22 5 i _ Try.underlying22 Try.underlying3 hi hz (some ⟨w.heap.size, 0, none⟩) 8 8 (ints .u8 hd8) hold 24 (by decide) (by omega) (by decide) (by omega) (by decide) (by decide) (by rw [hby]; decide)
  have hge := grownCap_ge w1 (8 + 24) 8 5
  have hgm : grownCap w1 (8 + 24) 8 5 ≤ maxLen := grownCap_le_maxLen w1 (8 + 24) 8 5 (by omega)
  refine ⟨w1.heap.size, _, _, hr, ⟨?_, rfl, hge, hgm⟩, hbel.trans ((below_drewN ((Below.refl _ _).alloc (Nat.le_refl _) _) 1).mono hbel.size)⟩
  have hnew : (w1.drew.alloc (.cells ((ints .u8 hd8).toArray ++ Builtin.zeroCells (Value.int .u8 0).cells 24 ++ Builtin.zeroCells (Value.int .u8 0).cells (grownCap w1 (8 + 24) 8 5 - (8 + 24))) 5)).heap[w1.heap.size]? = _ := heap_alloc_new w1.drew _
  refine Seq.of (by simp) fun j v hv => ?_
  rw [cell_of_row _ _ _ _ _ _ hnew, Nat.zero_add]
  have hz24 : (Builtin.zeroCells (Value.int .u8 0).cells 24).toList = ints .u8 (List.replicate 24 0) := by kernel_rfl
  have hj : j < (ints .u8 (hd8 ++ List.replicate 24 0)).length := (List.getElem?_eq_some_iff.1 hv).1
  have hj : j < 32 := hj
  have e : ((ints .u8 hd8).toArray ++ Builtin.zeroCells (Value.int .u8 0).cells 24 ++ Builtin.zeroCells (Value.int .u8 0).cells (grownCap w1 (8 + 24) 8 5 - (8 + 24))).toList = ints .u8 (hd8 ++ List.replicate 24 0) ++ (Builtin.zeroCells (Value.int .u8 0).cells (grownCap w1 (8 + 24) 8 5 - (8 + 24))).toList := by
    simp only [Array.toList_append, hz24, ints, List.map_append]
  rw [← Array.getElem?_toList, e, List.getElem?_append_left (by exact hj)]
  exact hv

end Go.Proofs.Ytiibmlbenamgcaa
