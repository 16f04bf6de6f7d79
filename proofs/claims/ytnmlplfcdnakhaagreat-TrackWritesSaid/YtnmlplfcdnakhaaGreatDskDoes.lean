/- Layer 5: the product of one and a small number, as math/bits has it; a byte repeated. -/
/- Layer 5: slices.Repeat of one byte. -/
/- Layer 5, package disk: Flush. -/
/- Layer 5: what the program's nine calls do. -/
import Derived.Test.YtnmlplfcdnakhaaGreatDskSm
import Derived.Laws.BitsAllLaws
import Derived.Laws.ShiftsVarLaws
import Derived.Lib.QuoteBits
import Derived.Laws.CopyRow
import Derived.StillTailTactics
import Derived.Test.YtnmlplfcdnakhaaGreatDskWr
import Derived.Deep.RegionWith
import Derived.Test.YtnmlplfcdnakhaaGreatDskRd
import Derived.Test.YtnmlplfcdnakhaaGreatDiskW
namespace Go.Proofs.YtnmlplfcdnakhaaGreat
open Go.RowKit
set_option linter.unusedVariables false

theorem and_low (m : Nat) (hm : m < 4294967296) : bits .and .u64 (m : Int) 4294967295 = (m : Int) := by
  have h := u64_and_nat m 4294967295 (by omega) (by omega)
  have e : m &&& 4294967295 = m := by
    have := Nat.and_two_pow_sub_one_eq_mod m 32
    rw [show (2 : Nat) ^ 32 - 1 = 4294967295 from rfl, show (2 : Nat) ^ 32 = 4294967296 from rfl] at this
    rw [this, Nat.mod_eq_of_lt hm]
  rw [e] at h
  exact h
theorem wrap_u64 (m : Nat) (hm : m < 4294967296) : IntKind.u64.wrap (m : Int) = (m : Int) := by
  simp [IntKind.wrap, IntKind.bits, IntKind.signed]
  omega
end Go.Proofs.YtnmlplfcdnakhaaGreat

namespace Go.Proofs.YtnmlplfcdnakhaaGreat
open Go.RowKit
set_option linter.unusedVariables false

/-- copy, where what it answers is known. -/
theorem wpList_copy_eq {P : Program} {w w' : World} {ops : Array Oper} {rest : List Oper} {o : Oper} {a : Act} {Q : Exit → Act → World → Prop} (hgd : o.guard = none) (s x : Operand) (t t' : TypeId)
    (ho : o.op = .call { callee := .builtin .copy, args := #[s, x], argTypes := #[t, t'] }) {v u v' : Value} (hs : a.eval s = v) (hx : a.eval x = u)
    (hrun : (Builtin.copy_ #[t, t'] o.type #[v, u]).run P w = .ok v' w') (h : wpList P ops Q rest (a.put o.dst v') w') : wpList P ops Q (o :: rest) a w := by
  refine wpList_plain hgd fun K hK => ?_
  unfold Oper.wp execOp
  simp only [ho, resolve, invoke, builtin, Sem.run_bind, Sem.run_pure, Result.andThen_ok, List.map_toArray, List.map_cons, List.map_nil, hs, hx, hrun]
  exact hK _ _ h

/-- The first k of n are ones; the others noughts. -/
def onesL (n k : Nat) : List Int := List.replicate k 1 ++ List.replicate (n - k) 0
theorem onesL_len {n k : Nat} (h : k ≤ n) : (onesL n k).length = n := by simp [onesL]; omega
theorem onesL_zero (n : Nat) : onesL n 0 = List.replicate n 0 := by simp [onesL]
theorem onesL_all (n : Nat) : onesL n n = List.replicate n 1 := by simp [onesL]
theorem onesL_take {n k : Nat} (h : k ≤ n) : (onesL n k).take k = List.replicate k 1 := by simp [onesL]
theorem onesL_put {n k j : Nat} (h : k + j ≤ n) : (onesL n k).take k ++ List.replicate j 1 ++ (onesL n k).drop (k + j) = onesL n (k + j) := by
  rw [onesL_take (by omega)]
  unfold onesL
  rw [List.replicate_append_replicate]
  congr 1
  rw [List.drop_append, List.drop_eq_nil_of_le (by simp)]
  simp
  omega
theorem run_copy_ones (w : World) (ty : TypeId) (g n k c1 c2 : Nat) (h : Blk w g 5 (ints .u8 (onesL n k))) (hk : k ≤ n) :
    ∃ w', (Builtin.copy_ #[28, 28] ty #[.slice (some ⟨g, k, none⟩) (n - k) c1, .slice (some ⟨g, 0, none⟩) k c2]).run Tryz.prog w = .ok (.int .i64 ((min k (n - k) : Nat) : Int)) w' ∧ Blk w' g 5 (ints .u8 (onesL n (k + min k (n - k)))) ∧ w.grownBy w' (some g) := by
  obtain ⟨j, hj⟩ : ∃ j, j = min k (n - k) := ⟨_, rfl⟩
  have hj1 : j ≤ k := by omega
  have hj2 : k + j ≤ n := by omega
  have hlen : (ints .u8 (List.replicate j 1)).length = j := by simp [ints_length]
  have hr := run_copy_row (P := Tryz.prog) w 28 28 ty 5 g k (n - k) c1 ⟨g, 0, none⟩ k c2 (ints .u8 (onesL n k)).toArray 5 (ints .u8 (List.replicate j 1)) Tryz.underlying28 byte_size h (by rw [hlen, hj]) (fun i v hv => by
    have hi : i < j := by
      have := (List.getElem?_eq_some_iff.1 hv).1
      rwa [hlen] at this
    have e : (⟨g, 0, none⟩ : Addr).add i = ⟨g, 0 + i, none⟩ := by unfold Addr.add; split <;> simp_all
    rw [e, Nat.zero_add, h.cell i, ← hv]
    rw [ints_getD .u8 _ i (by rw [onesL_len hk]; omega), ints_getD .u8 _ i (by simpa using hi)]
    congr 2
    simp [onesL, List.getD_eq_getElem?_getD, hi, List.getElem?_append_left (show i < (List.replicate k (1 : Int)).length by simp; omega), show i < k by omega])
    (by rw [hlen]; simp [ints_length, onesL_len hk]; omega) (ints_one _ _)
  rw [hlen] at hr
  rw [← hj]
  refine ⟨_, hr, ?_, ⟨rfl, rfl, rfl, by simp, fun k' _ hk' => setRow_other w g k' _ (fun e => hk' (by rw [e]))⟩⟩
  have e : (ints .u8 (onesL n k)).toArray.toList.take k ++ ints .u8 (List.replicate j 1) ++ (ints .u8 (onesL n k)).toArray.toList.drop (k + j) = ints .u8 (onesL n (k + j)) := by
    rw [← onesL_put hj2]
    unfold ints
    simp only [List.map_append, List.map_take, List.map_drop]
  have hs := setRow_heap w g (ints .u8 (onesL n k)).toArray ((ints .u8 (onesL n k)).toArray.toList.take k ++ ints .u8 (List.replicate j 1) ++ (ints .u8 (onesL n k)).toArray.toList.drop (k + j)).toArray 5 (0, 0) h
  unfold Blk
  rw [hs, e]
theorem run_copy_first (w : World) (ty : TypeId) (g n gx : Nat) (h : Blk w g 5 (ints .u8 (onesL n 0))) (hx : Blk w gx 5 [.int .u8 1]) :
    ∃ w', (Builtin.copy_ #[28, 28] ty #[.slice (some ⟨g, 0, none⟩) n n, .slice (some ⟨gx, 0, none⟩) 1 1]).run Tryz.prog w = .ok (.int .i64 ((min 1 n : Nat) : Int)) w' ∧ Blk w' g 5 (ints .u8 (onesL n (min 1 n))) ∧ w.grownBy w' (some g) := by
  obtain ⟨j, hj⟩ : ∃ j, j = min 1 n := ⟨_, rfl⟩
  have hj2 : 0 + j ≤ n := by omega
  have hlen : (ints .u8 (List.replicate j 1)).length = j := by simp [ints_length]
  have hr := run_copy_row (P := Tryz.prog) w 28 28 ty 5 g 0 n n ⟨gx, 0, none⟩ 1 1 (ints .u8 (onesL n 0)).toArray 5 (ints .u8 (List.replicate j 1)) Tryz.underlying28 byte_size h (by rw [hlen, hj]) (fun i v hv => by
    have hi : i < j := by
      have := (List.getElem?_eq_some_iff.1 hv).1
      rwa [hlen] at this
    obtain rfl : i = 0 := by omega
    have e : (⟨gx, 0, none⟩ : Addr).add 0 = ⟨gx, 0 + 0, none⟩ := by unfold Addr.add; split <;> simp_all
    rw [e, hx.cell 0, ← hv]
    rw [ints_getD .u8 _ 0 (by simpa using hi)]
    simp [List.getD_eq_getElem?_getD, hi])
    (by rw [hlen]; simp [ints_length, onesL_len]; omega) (ints_one _ _)
  rw [hlen] at hr
  rw [← hj]
  refine ⟨_, hr, ?_, ⟨rfl, rfl, rfl, by simp, fun k' _ hk' => setRow_other w g k' _ (fun e => hk' (by rw [e]))⟩⟩
  have e : (ints .u8 (onesL n 0)).toArray.toList.take 0 ++ ints .u8 (List.replicate j 1) ++ (ints .u8 (onesL n 0)).toArray.toList.drop (0 + j) = ints .u8 (onesL n j) := by
    have h2 := onesL_put hj2
    rw [Nat.zero_add] at h2
    rw [← h2, Nat.zero_add]
    unfold ints
    simp only [List.map_append, List.map_take, List.map_drop]
  have hs := setRow_heap w g (ints .u8 (onesL n 0)).toArray ((ints .u8 (onesL n 0)).toArray.toList.take 0 ++ ints .u8 (List.replicate j 1) ++ (ints .u8 (onesL n 0)).toArray.toList.drop (0 + j)).toArray 5 (0, 0) h
  unfold Blk
  rw [hs, e]

theorem makeN (n : Nat) (hn : n ≤ 1000) (w : World) : (Instr.makeSlice 28 (.int .i64 (n : Int)) (.int .i64 (n : Int))).run Tryz.prog w = .ok (.slice (some ⟨w.heap.size, 0, none⟩) n n) (w.alloc (.cells (ints .u8 (onesL n 0)).toArray 5)) := by
  obtain ⟨i0, hi0, hz0, hz1, hz2⟩ := info_parts byte_info
  have hml : (1000 : Nat) ≤ maxLen := by decide
  have := run_make1 (P := Tryz.prog) 28 5 i0 _ Tryz.underlying28 hi0 hz0 hz1 rfl n (by rw [hz2]; omega) (by omega) w
  rw [this]
  simp [rep, onesL, ints]

end Go.Proofs.YtnmlplfcdnakhaaGreat

namespace Go.Proofs.YtnmlplfcdnakhaaGreat
open Go.RowKit
set_option linter.unusedVariables false

end Go.Proofs.YtnmlplfcdnakhaaGreat

namespace Go.Proofs.YtnmlplfcdnakhaaGreat
open Go.RowKit

/-- The program's nine calls do what the walks of the statements ask. -/
theorem dsk_does : DskDoes where
  check := fun A n c A' n' c' S C w hq _ => check_any A n c A' n' c' S C w hq
  write := fun A n c A' n' c' S C t Ab nb cb b w hq hs hb hby hbl => pwrite_any A n c A' n' c' S C t Ab nb cb b w hq hs hb hby hbl
  read := fun A n c A' n' c' S C t w hq hs => pread_any A n c A' n' c' S C t w hq hs
  waits := fun A n c A' n' c' S C t w hq hs => pwaits_any A n c A' n' c' S C t w hq hs
  twin := fun A n c A' n' c' S C w hq hs => ptwin_any A n c A' n' c' S C w hq hs

end Go.Proofs.YtnmlplfcdnakhaaGreat
