/- Layer 5: slices.Repeat of one byte. -/
import Derived.Test.YtkbeeknnfndjgaaDskU
import Derived.Test.YtkbeeknnfndjgaaDskK
import Derived.Laws.CopyRow
import Derived.StillTailTactics
namespace Go.Proofs.Ytkbeeknnfndjgaa
open Go.RowKit
set_option linter.unusedVariables false

/-- copy, where what it answers is known. -/
theorem wpList_copy_eq {P : Program} {w w' : World} {ops : Array Oper} {rest : List Oper} {o : Oper} {a : Act} {Q : Exit → Act → World → Prop} (hgd : o.guard = none) (s x : Operand) (t t' : TypeId)
    (ho : o.op = .call { callee := .builtin .copy, args := #[s, x], argTypes := #[t, t'] }) {v u v' : Value} (hs : a.eval s = v) (hx : a.eval x = u)
    (hrun : (Builtin.copy_ #[t, t'] o.type #[v, u]).run P w = .ok v' w') (h : wpList P ops Q rest (a.put o.dst v') w') : wpList P ops Q (o :: rest) a w := by
  refine wpList_plain hgd fun K hK => ?_
  unfold Oper.wp execOp
  simp only [ho, resolve, invoke, builtin, Sem.run_bind, Sem.run_pure, Result.andThen_ok, List.map_toArray, List.map_cons, List.map_nil, hs, hx, hrun]
  exact hK _ _ h

/-- The first k of n are ones; the others noughts. -/
def onesL (n k : Nat) : List Int := List.replicate k 1 ++ List.replicate (n - k) 0
theorem onesL_len {n k : Nat} (h : k ≤ n) : (onesL n k).length = n := by simp [onesL]; omega
theorem onesL_zero (n : Nat) : onesL n 0 = List.replicate n 0 := by simp [onesL]
theorem onesL_all (n : Nat) : onesL n n = List.replicate n 1 := by simp [onesL]
theorem onesL_take {n k : Nat} (h : k ≤ n) : (onesL n k).take k = List.replicate k 1 := by simp [onesL]
theorem onesL_put {n k j : Nat} (h : k + j ≤ n) : (onesL n k).take k ++ List.replicate j 1 ++ (onesL n k).drop (k + j) = onesL n (k + j) := by
  rw [onesL_take (by omega)]
  unfold onesL
  rw [List.replicate_append_replicate]
  congr 1
  rw [List.drop_append, List.drop_eq_nil_of_le (by simp)]
  simp
  omega
theorem run_copy_ones (w : World) (ty : TypeId) (g n k c1 c2 : Nat) (h : Blk w g 5 (ints .u8 (onesL n k))) (hk : k ≤ n) :
    ∃ w', (Builtin.copy_ #[31, 31] ty #[.slice (some ⟨g, k, none⟩) (n - k) c1, .slice (some ⟨g, 0, none⟩) k c2]).run Try.prog w = .ok (.int .i64 ((min k (n - k) : Nat) : Int)) w' ∧ Blk w' g 5 (ints .u8 (onesL n (k + min k (n - k)))) ∧ w.grownBy w' (some g) := by
  obtain ⟨j, hj⟩ : ∃ j, j = min k (n - k) := ⟨_, rfl⟩
  have hj1 : j ≤ k := by omega
  have hj2 : k + j ≤ n := by omega
  have hlen : (ints .u8 (List.replicate j 1)).length = j := by simp [ints_length]
  have hr := run_copy_row (P := Try.prog) w 31 31 ty 5 g k (n - k) c1 ⟨g, 0, none⟩ k c2 (ints .u8 (onesL n k)).toArray 5 (ints .u8 (List.replicate j 1)) Try.underlying31 byte_size h (by rw [hlen, hj]) (fun i v hv => by
    have hi : i < j := by
      have := (List.getElem?_eq_some_iff.1 hv).1
      rwa [hlen] at this
    have e : (⟨g, 0, none⟩ : Addr).add i = ⟨g, 0 + i, none⟩ := by unfold Addr.add; split <;> simp_all
    rw [e, Nat.zero_add, h.cell i, ← hv]
    rw [ints_getD .u8 _ i (by rw [onesL_len hk]; omega), ints_getD .u8 _ i (by simpa using hi)]
    congr 2
    simp [onesL, List.getD_eq_getElem?_getD, hi, List.getElem?_append_left (show i < (List.replicate k (1 : Int)).length by simp; omega), show i < k by omega])
    (by rw [hlen]; simp [ints_length, onesL_len hk]; omega) (ints_one _ _)
  rw [hlen] at hr
  rw [← hj]
  refine ⟨_, hr, ?_, ⟨rfl, rfl, rfl, by simp, fun k' _ hk' => setRow_other w g k' _ (fun e => hk' (by rw [e]))⟩⟩
  have e : (ints .u8 (onesL n k)).toArray.toList.take k ++ ints .u8 (List.replicate j 1) ++ (ints .u8 (onesL n k)).toArray.toList.drop (k + j) = ints .u8 (onesL n (k + j)) := by
    rw [← onesL_put hj2]
    unfold ints
    simp only [List.map_append, List.map_take, List.map_drop]
  have hs := setRow_heap w g (ints .u8 (onesL n k)).toArray ((ints .u8 (onesL n k)).toArray.toList.take k ++ ints .u8 (List.replicate j 1) ++ (ints .u8 (onesL n k)).toArray.toList.drop (k + j)).toArray 5 (0, 0) h
  unfold Blk
  rw [hs, e]
theorem run_copy_first (w : World) (ty : TypeId) (g n gx : Nat) (h : Blk w g 5 (ints .u8 (onesL n 0))) (hx : Blk w gx 5 [.int .u8 1]) :
    ∃ w', (Builtin.copy_ #[31, 31] ty #[.slice (some ⟨g, 0, none⟩) n n, .slice (some ⟨gx, 0, none⟩) 1 1]).run Try.prog w = .ok (.int .i64 ((min 1 n : Nat) : Int)) w' ∧ Blk w' g 5 (ints .u8 (onesL n (min 1 n))) ∧ w.grownBy w' (some g) := by
  obtain ⟨j, hj⟩ : ∃ j, j = min 1 n := ⟨_, rfl⟩
  have hj2 : 0 + j ≤ n := by omega
  have hlen : (ints .u8 (List.replicate j 1)).length = j := by simp [ints_length]
  have hr := run_copy_row (P := Try.prog) w 31 31 ty 5 g 0 n n ⟨gx, 0, none⟩ 1 1 (ints .u8 (onesL n 0)).toArray 5 (ints .u8 (List.replicate j 1)) Try.underlying31 byte_size h (by rw [hlen, hj]) (fun i v hv => by
    have hi : i < j := by
      have := (List.getElem?_eq_some_iff.1 hv).1
      rwa [hlen] at this
    obtain rfl : i = 0 := by omega
    have e : (⟨gx, 0, none⟩ : Addr).add 0 = ⟨gx, 0 + 0, none⟩ := by unfold Addr.add; split <;> simp_all
    rw [e, hx.cell 0, ← hv]
    rw [ints_getD .u8 _ 0 (by simpa using hi)]
    simp [List.getD_eq_getElem?_getD, hi])
    (by rw [hlen]; simp [ints_length, onesL_len]; omega) (ints_one _ _)
  rw [hlen] at hr
  rw [← hj]
  refine ⟨_, hr, ?_, ⟨rfl, rfl, rfl, by simp, fun k' _ hk' => setRow_other w g k' _ (fun e => hk' (by rw [e]))⟩⟩
  have e : (ints .u8 (onesL n 0)).toArray.toList.take 0 ++ ints .u8 (List.replicate j 1) ++ (ints .u8 (onesL n 0)).toArray.toList.drop (0 + j) = ints .u8 (onesL n j) := by
    have h2 := onesL_put hj2
    rw [Nat.zero_add] at h2
    rw [← h2, Nat.zero_add]
    unfold ints
    simp only [List.map_append, List.map_take, List.map_drop]
  have hs := setRow_heap w g (ints .u8 (onesL n 0)).toArray ((ints .u8 (onesL n 0)).toArray.toList.take 0 ++ ints .u8 (List.replicate j 1) ++ (ints .u8 (onesL n 0)).toArray.toList.drop (0 + j)).toArray 5 (0, 0) h
  unfold Blk
  rw [hs, e]

theorem makeN (n : Nat) (hn : n ≤ 1000) (w : World) : (Instr.makeSlice 31 (.int .i64 (n : Int)) (.int .i64 (n : Int))).run Try.prog w = .ok (.slice (some ⟨w.heap.size, 0, none⟩) n n) (w.alloc (.cells (ints .u8 (onesL n 0)).toArray 5)) := by
  obtain ⟨i0, hi0, hz0, hz1, hz2⟩ := info_parts byte_info
  have hml : (1000 : Nat) ≤ maxLen := by decide
  have := run_make1 (P := Try.prog) 31 5 i0 _ Try.underlying31 hi0 hz0 hz1 rfl n (by rw [hz2]; omega) (by omega) w
  rw [this]
  simp [rep, onesL, ints]

set_option maxRecDepth 100000 in
set_option maxHeartbeats 3200000 in
theorem repeat_any (n gx : Nat) (hn : n ≤ 1000) (w : World) (hx : Blk w gx 5 [.int .u8 1]) :
    Calls Try.prog 61 #[.slice (some ⟨gx, 0, none⟩) 1 1, .int .i64 (n : Int)] w fun e w' => ∃ g, e = .returned (.slice (some ⟨g, 0, none⟩) n n) ∧ w'.ownsRow w.heap.size 5 1 (.slice (some ⟨g, 0, none⟩) n n) n (ints .u8 (List.replicate n 1)) ∧ Below w.heap.size w w' := by
  have MU := Lib.hid (mul_any n (by omega) w)
  have hmk := makeN n hn w
  obtain ⟨w1, hw1⟩ : ∃ w1, w1 = w.alloc (.cells (ints .u8 (onesL n 0)).toArray 5) := ⟨_, rfl⟩
  have hg1 : Blk w1 w.heap.size 5 (ints .u8 (onesL n 0)) := by rw [hw1]; exact Blk.new w 5 _
  have hb1 : Below w.heap.size w w1 := by rw [hw1]; exact (Below.refl _ _).alloc (Nat.le_refl _) _
  rw [← hw1] at hmk
  obtain ⟨w2, hc2, hg2, hgr2⟩ := run_copy_first w1 3 w.heap.size n gx hg1 (hx.below hb1 hx.lt)
  have hb2 : Below w.heap.size w w2 := hb1.grown hgr2 hb1.size (fun g e => by cases e; exact Nat.le_refl _)
  have hw3 := wrap_u64 n (by omega)
  have hn0 : ¬ (n : Int) < 0 := by omega
  have hwi : IntKind.i64.wrap (n : Int) = (n : Int) := Lib.wrap_i64_small n (by omega)
  have hbig : decide ((9223372036854775807 : Int) < (n : Int)) = false := decide_eq_false (by omega)
  have hbig2 : ¬ (9223372036854775807 : Int) < (n : Int) := by omega
  obtain ⟨j0, hj0⟩ : ∃ j0, j0 = min 1 n := ⟨_, rfl⟩
  rw [← hj0] at hc2 hg2
  have HJ0 := Lib.hid hj0
  have HG := Lib.hid hg2
  have HB := Lib.hid hb2
  clear hg1 hb1 hg2 hgr2 hb2 hx hw1 hj0
  go_enter Try.func61, Try.ntmps61
  go_wp2_with fail
  refine MU.out.mono ?_
  rintro e w' ⟨rfl, rfl⟩
  go_wp2
  have hj1 : j0 = min 1 n := HJ0.out
  go_loopw [8] (fun i wr => ∃ k : Nat, k ≤ n ∧ (n = 0 ∨ 1 ≤ k) ∧ i = .int .i64 k ∧ Blk wr w'.heap.size 5 (ints .u8 (onesL n k)) ∧ Below w'.heap.size w' wr) (fun i _ => n - (intOf i).toNat)
  case atStart => exact ⟨j0, by omega, by omega, rfl, HG.out, HB.out⟩
  case round =>
    obtain ⟨k, hk, hk1, rfl, hg, hb⟩ := hrel
    have hki0 : (0 : Int) ≤ (k : Int) := by omega
    by_cases hkn : k < n
    · have hki : (k : Int) < (n : Int) := by omega
      obtain ⟨w5, hc5, hg5, hgr5⟩ := run_copy_ones wr.drew 3 w'.heap.size n k (n - k) n hg hk
      obtain ⟨j, hj⟩ : ∃ j, j = min k (n - k) := ⟨_, rfl⟩
      rw [← hj] at hc5 hg5
      have hwk : IntKind.i64.wrap ((k : Int) + (j : Int)) = (k : Int) + (j : Int) := Lib.wrap_i64_small (k + j) (by omega)
      have G5 := Lib.hid hg5
      have B5 := Lib.hid (show Below w'.heap.size w' w5 from (below_drewN hb 1).grown hgr5 hb.size (fun g e => by cases e; exact Nat.le_refl _))
      have HJ := Lib.hid hj
      clear hg hb hg5 hgr5 hj hc2 hmk
      go_wp2
      go_region
      go_wp2
      go_roundw
      case rel =>
        have hj := HJ.out
        exact ⟨k + j, by omega, by omega, by go_num, G5.out, B5.out⟩
      case measure =>
        have hj := HJ.out
        simp [intOf]
        omega
    · obtain rfl : n = k := by omega
      have ho : wr.ownsRow w'.heap.size 5 1 (.slice (some ⟨w'.heap.size, 0, none⟩) n n) n (ints .u8 (onesL n n)) := hg.owns (Nat.le_refl _) (by rw [ints_length, onesL_len (Nat.le_refl _)]) (Nat.le_trans hn (by decide))
      rw [onesL_all] at ho
      have OO := Lib.hid ho
      have BB := Lib.hid hb
      clear hg hb ho hc2 hmk
      go_wp2
      go_ret
      exact ⟨_, rfl, OO.out, BB.out⟩

end Go.Proofs.Ytkbeeknnfndjgaa
