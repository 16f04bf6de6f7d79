/- Layer 6: append of made bytes behind a row of the call's own. No statement is proved here. -/
/- Layer 6: the document's own: a part's text. No statement is proved here. -/
/- Layer 6: rows of texts: what came in, and what is the call's own (as layer 4 has them, beside disks). No statement is proved here. -/
/- Layer 6: the document's own: bytes, parted. No statement is proved here. -/
import Derived.Test.YteinfkjlcpfeiaaCellApp
import Derived.Laws.CopyRow
import Derived.Test.YteinfkjlcpfeiaaCellBk
import Derived.Test.YteinfkjlcpfeiaaNumR2
import Derived.Test.YteinfkjlcpfeiaaDup
import Derived.Test.YteinfkjlcpfeiaaCellP4
import Derived.Test.YteinfkjlcpfeiaaBase2
import Derived.Deep.Matrix
import Derived.Lib.SmallJoins
import Derived.Deep.Cut
namespace Go.Proofs.Yteinfkjlcpfeiaa
open Go.RowKit
set_option linter.unusedVariables false

theorem zero_cells (k : Nat) : (Builtin.zeroCells (Value.int .u8 0).cells k).toList = List.replicate k (.int .u8 0) := by
  have := toList_madeCells_one (Value.int .u8 0) k
  simpa [madeCells, Builtin.zeroCells, Value.cells] using this

theorem run_append_noughts (w : World) (base : Nat) (ty : TypeId) (v : Value) (n : Nat) (xs : List Value) (hown : w.ownsRow base 5 1 v n xs) (k : Nat) (hk : k ≤ 1000) (hn : n ≤ 1000) (hbase : base ≤ w.heap.size) :
    ∃ v' w', (Builtin.append_ #[31, 3] ty #[v, .int .i64 (k : Int)]).run Try.prog w = .ok v' w' ∧ w'.ownsRow base 5 1 v' (n + k) (xs ++ List.replicate k (.int .u8 0)) ∧ w.grownBy w' v.ownBlock ∧ (v'.ownBlock = v.ownBlock ∨ v'.ownBlock = some w.heap.size) := by
  obtain ⟨i, hi, hz, hsize, hby⟩ := info_parts byte_info
  have hml : (100000 : Nat) ≤ maxLen := by decide
  have hw : IntKind.i64.wrap (k : Int) = (k : Int) := Lib.wrap_i64_small k (by omega)
  have hkk : ¬ ((k : Int) < 0) := by omega
  have hw0 : IntKind.i64.wrap 0 = 0 := by decide
  have hmul : ¬ ((281474976710656 : Int) < (k : Int) * (i.bytes : Int)) := by rw [hby]; omega
  have ht := Try.underlying31
  have htx := Try.underlying3
  have grown : ∀ (old : Nat), old < n + k → ∀ (row : Option Nat),
      (w.drew.alloc (.cells (xs.toArray ++ Builtin.zeroCells (Value.int .u8 0).cells k ++ Builtin.zeroCells (Value.int .u8 0).cells (grownCap w (n + k) old 5 - (n + k))) 5)).ownsRow base 5 1
        (.slice (some ⟨w.heap.size, 0, none⟩) (n + k) (grownCap w (n + k) old 5)) (n + k) (xs ++ List.replicate k (.int .u8 0)) ∧
      w.grownBy (w.drew.alloc (.cells (xs.toArray ++ Builtin.zeroCells (Value.int .u8 0).cells k ++ Builtin.zeroCells (Value.int .u8 0).cells (grownCap w (n + k) old 5 - (n + k))) 5)) row := by
    intro old ho row
    have hge := grownCap_ge w (n + k) old 5
    have hcm : grownCap w (n + k) old 5 ≤ maxLen := grownCap_le_maxLen w (n + k) old 5 (by omega)
    have hxl : xs.length = n := by have := hown.1; omega
    refine ⟨⟨by simp [hxl], .inr ⟨w.heap.size, _, _, rfl, hbase, heap_alloc_new w.drew _, hge, hcm, ?_, ?_⟩⟩, ⟨rfl, rfl, rfl, by simp, fun j hj _ => heap_alloc_old w.drew _ hj⟩⟩
    · simp only [Array.size_append, List.size_toArray, size_zeroCells, hxl]
      simp [Value.cells]
      omega
    · simp only [Array.toList_append, zero_cells]
      have hl2 : (xs ++ List.replicate k (Value.int .u8 0)).length = n + k := by simp [hxl]
      rw [Nat.mul_one, ← hl2]
      exact List.take_left
  rcases hown.2 with ⟨rfl, rfl⟩ | ⟨g, cap, cur, rfl, hbg, hg, hnc, hcm, hcs, htake⟩
  · have hx : xs = [] := List.eq_nil_of_length_eq_zero (by simpa using hown.1)
    subst hx
    rcases Nat.eq_zero_or_pos k with h0 | h0
    · subst h0
      refine ⟨.slice none 0 0, w, ?_, by simpa using hown, grownBy_refl _ _, .inl rfl⟩
      have hm0 : ¬ ((281474976710656 : Int) < ((0 : Nat) : Int) * (i.bytes : Int)) := hmul
      simp [Builtin.append_, run_underlying ht, run_underlying htx, sizeOf, typeInfo, zeroValue, hi, hz, asInt, asIntOf, hw0]
    · have hold : (Builtin.firstCells i.size 0 (.slice none 0 0)).run Try.prog w.drew = .ok ([] : List Value).toArray w.drew := by simp [Builtin.firstCells]
      have hr := run_append_made (P := Try.prog) w 31 3 ty 5 i _ ht htx hi hz none 0 0 [] hold k h0 (by omega) hk (by omega) (by omega) (by omega) (by rw [hby]; exact growslice_fits (by omega) (by omega))
      have hgr := grown 0 (by omega) (Value.ownBlock (.slice none 0 0))
      simp only [Nat.zero_add] at hgr hr ⊢
      exact ⟨_, _, hr, hgr.1, hgr.2, .inr rfl⟩
  · by_cases hroom : n + k ≤ cap
    · have hfit : 0 + n + (List.replicate k (Value.int .u8 0)).length ≤ cur.size := by simp; omega
      rcases Nat.eq_zero_or_pos k with h0 | h0
      · subst h0
        refine ⟨.slice (some ⟨g, 0, none⟩) n cap, w, ?_, by simpa using hown, grownBy_refl _ _, .inl rfl⟩
        simp [Builtin.append_, run_underlying ht, run_underlying htx, sizeOf, typeInfo, zeroValue, hi, hz, asInt, asIntOf, hnc, storeCells, hw0]
      · have hst := run_storeCells_at Try.prog g n 5 (List.replicate k (Value.int .u8 0)) 0 cur w hg (by simp; omega) (fun u hu => by rw [List.eq_of_mem_replicate hu]; rfl)
        have hne : k ≠ 0 := by omega
        have hadd : (⟨g, 0, none⟩ : Addr).add n = ⟨g, n, none⟩ := by unfold Addr.add; split <;> simp_all
        have hnm : n * i.size = n := by rw [hsize, Nat.mul_one]
        refine ⟨.slice (some ⟨g, 0, none⟩) (n + k) cap, w.setRow g (cur.toList.take (n + 0) ++ List.replicate k (Value.int .u8 0) ++ cur.toList.drop (n + 0 + (List.replicate k (Value.int .u8 0)).length)).toArray, ?_, ⟨by simp; have := hown.1; omega, .inr ⟨g, cap, _, rfl, hbg, setRow_heap w g cur _ _ _ hg, hroom, hcm, ?_, ?_⟩⟩, ⟨rfl, rfl, rfl, by simp, fun j _ hj => setRow_other w g j _ (fun e => hj (by simp [Value.ownBlock, e]))⟩, .inl rfl⟩
        · simp [Builtin.append_, run_underlying ht, run_underlying htx, sizeOf, typeInfo, zeroValue, hi, hz, asInt, asIntOf, hw, hkk, hmul, hroom, hne, hsize, zero_cells, hadd, hst]
        · simp
          omega
        · simp only [Nat.add_zero, List.length_replicate, Nat.mul_one] at htake ⊢
          rw [htake]
          have hxl : xs.length = n := by have := hown.1; omega
          rw [← hxl, List.append_assoc, ← List.append_assoc]
          rw [List.take_append_of_le_length (by simp)]
          rw [List.take_of_length_le (by simp)]
    · have holds : ∀ j u, xs[j]? = some u → w.drew.cell? ((⟨g, 0, none⟩ : Addr).add j) = some u := hown.cells (g := g) rfl
      have hold := run_firstCells_some (P := Try.prog) w.drew i.size n ⟨g, 0, none⟩ n cap xs (by rw [hsize]; have := hown.1; omega) holds
      have hr := run_append_made (P := Try.prog) w 31 3 ty 5 i _ ht htx hi hz (some ⟨g, 0, none⟩) n cap xs hold k (by omega) (by omega) hk (by omega) (by omega) (by omega) (by rw [hby]; exact growslice_fits (by omega) (by omega))
      have hgr := grown cap (by omega) (Value.ownBlock (.slice (some ⟨g, 0, none⟩) n cap))
      exact ⟨_, _, hr, hgr.1, hgr.2, .inr rfl⟩

end Go.Proofs.Yteinfkjlcpfeiaa

namespace Go.Proofs.Yteinfkjlcpfeiaa
open Go.RowKit
set_option linter.unusedVariables false

theorem wpList_noughts (w : World) {ops : Array Oper} {rest : List Oper} {o : Oper} {a : Act} {Q : Exit → Act → World → Prop} (hgd : o.guard = none) (s x : Operand)
    (ho : o.op = .call { callee := .builtin .append, args := #[s, x], argTypes := #[31, 3] }) (base : Nat) (v : Value) (n : Nat) (xs : List Value) (hs : a.eval s = v) (hown : w.ownsRow base 5 1 v n xs)
    (k : Nat) (hx : a.eval x = .int .i64 (k : Int)) (hk : k ≤ 1000) (hn : n ≤ 1000) (hbase : base ≤ w.heap.size)
    (h : ∀ v' w', w'.ownsRow base 5 1 v' (n + k) (xs ++ List.replicate k (.int .u8 0)) → w.grownBy w' v.ownBlock → (v'.ownBlock = v.ownBlock ∨ v'.ownBlock = some w.heap.size) → wpList Try.prog ops Q rest (a.put o.dst v') w') : wpList Try.prog ops Q (o :: rest) a w := by
  refine wpList_plain hgd fun K hK => ?_
  obtain ⟨v', w', hr, h2, h3, h4⟩ := run_append_noughts w base o.type v n xs hown k hk hn hbase
  unfold Oper.wp execOp
  simp only [ho, resolve, invoke, builtin, Sem.run_bind, Sem.run_pure, Result.andThen_ok, List.map_toArray, List.map_cons, List.map_nil, hs, hx, hr]
  exact hK _ _ (h v' w' h2 h3 h4)

theorem lit_sz4 (w : World) (b B : Nat) (hb : b = w.heap.size) (hB : w.heap.size < B) : Seq (w.alloc (.cells #[.int .i64 4, .int .i64 1, .int .i64 1, .int .i64 2] 3)) B (some ⟨b, 0, none⟩) (ints .i64 sz4) := lit_row w 3 .i64 sz4 _ b B rfl hb hB

set_option maxHeartbeats 3200000 in
theorem rpart_any (v : Int) (hv : 0 ≤ v ∧ v < 4294967296) (k : Nat) (hk : k < 256) (A : Option Addr) (n c : Nat) (b : Txt) (w : World) (h : Arg w .u8 A n c b) (hn : n ≤ 24) :
    Calls Try.prog 110 #[.int .u64 v, .int .i64 (k : Int), .slice A n c] w fun e w' => ∃ A' c', e = .returned (.slice A' 32 c') ∧ w'.ownsRow w.heap.size 5 1 (.slice A' 32 c') 32 (ints .u8 (partT v k b)) ∧ Below w.heap.size w w' := by
  obtain ⟨i0, hi0, hz0, hz1, hz2⟩ := info_parts byte_info
  have hml : (1000 : Nat) ≤ maxLen := by decide
  have e1 : IntKind.u64.wrap (k : Int) = k := wraps_u64 k (by omega) (by omega)
  have e2 : IntKind.u64.wrap (n : Int) = n := wraps_u64 n (by omega) (by omega)
  have hb1 : Below w.heap.size w (w.alloc (.cells #[.int .u64 v, .int .u64 (k : Int), .int .u64 (n : Int), .int .u64 0] 116)) := (Below.refl _ _).alloc (Nat.le_refl _) _
  obtain ⟨w1, hw1⟩ : ∃ x, x = w.alloc (.cells #[.int .u64 v, .int .u64 (k : Int), .int .u64 (n : Int), .int .u64 0] 116) := ⟨_, rfl⟩
  have hL := nums_row w v k n w.heap.size w1.heap.size rfl (by rw [hw1]; simp)
  rw [← hw1] at hb1 hL
  have hb2 : Below w1.heap.size w1 (w1.alloc (.cells #[.int .i64 4, .int .i64 1, .int .i64 1, .int .i64 2] 3)) := (Below.refl _ _).alloc (Nat.le_refl _) _
  have hZ := lit_sz4 w1 w1.heap.size (w1.alloc (.cells #[.int .i64 4, .int .i64 1, .int .i64 1, .int .i64 2] 3)).heap.size rfl (by simp)
  obtain ⟨w2, hw2⟩ : ∃ x, x = w1.alloc (.cells #[.int .i64 4, .int .i64 1, .int .i64 1, .int .i64 2] 3) := ⟨_, rfl⟩
  rw [← hw2] at hb2 hZ
  have hL2 := (hL.below hb2).more hb2.size
  have hB := hb1.trans (hb2.mono hb1.size)
  have RW := Lib.hid (row_any (some ⟨w.heap.size, 0, none⟩) (some ⟨w1.heap.size, 0, none⟩) 4 4 4 [v, k, n, 0] sz4 w2 hZ okB_sz4 hL2 rfl rfl (by
    intro z hz
    simp only [List.mem_cons, List.not_mem_nil, or_false] at hz
    unfold isWord
    rcases hz with rfl | rfl | rfl | rfl <;> omega))
  have hrl := rowT_length v k n
  have hs1 : w1.heap.size = w.heap.size + 1 := by rw [hw1]; simp
  have HA := Lib.hid h
  have HB := Lib.hid hB
  have hbl := h.len
  have HBL := Lib.hid hbl
  have hge : w.heap.size ≤ w2.heap.size := hB.size
  rw [hs1] at RW
  have HW1 := Lib.hid hw1
  have HW2 := Lib.hid hw2
  clear h hL hL2 hZ hb1 hb2 hB hbl
  go_enter Try.func110, Try.ntmps110
  go_wp2_with fail
  rw [← hw1, ← hw2]
  clear hw1 hw2 hs1
  refine RW.out.mono ?_
  rintro e w3 ⟨A3, c3, rfl, hown, hb3⟩
  rw [show rowTo [v, (k : Int), (n : Int), 0] sz4 4 = rowT v k n from rfl] at hown ⊢
  rw [hrl] at hown ⊢
  have B3 := Lib.hid (HB.out.trans (hb3.mono HB.out.size))
  have O3 := Lib.hid (owns_base hown hge)
  have HA3 := Lib.hid (HA.out.below B3.out)
  have hg3 : w.heap.size ≤ w3.heap.size := B3.out.size
  clear hown hb3 RW hrl hge
  obtain ⟨m, hm⟩ : ∃ m : Nat, 24 - (n : Int) = (m : Int) := ⟨24 - n, by omega⟩
  have hnm : n + m = 24 := by omega
  have hsz3 : w.heap.size ≤ w3.heap.size := hg3
  have hM1 : 8 + n ≤ maxLen := by omega
  go_wp2_with (first
    | (at_builtin; (refine wpList_app _ rfl (.tmp 17) (.tmp 18) _ rfl w.heap.size 5 i0 _ 1 Try.underlying31 hi0 hz0 hz1 hz2 rfl _ 8 _ rfl O3.out w3.heap.size A n c (ints .u8 b) rfl (by rw [ints_length, HBL.out]) HA3.out.seq (ints_one _ _) hM1 (by omega) hg3 ?_); intro v4 w4 hown4 hg4 hob4; obtain ⟨A4, c4, rfl⟩ := owns_slice hown4; have hsz4 : w.heap.size ≤ w4.heap.size := Nat.le_trans hsz3 hg4.size; have HL4 := Lib.hid (O3.out.lt); have O4 := Lib.hid hown4; have B4 := Lib.hid (B3.out.grown hg4 hg3 (fun g e => (HL4.out g e).1)); clear hown4 hg4 hob4)
    | (at_builtin; (refine wpList_noughts _ rfl (.tmp 20) (.tmp 23) rfl w.heap.size _ (8 + n) _ rfl O4.out m rfl (by omega) (by omega) hsz4 ?_); intro v5 w5 hown5 hg5 hob5; obtain ⟨A5, c5, rfl⟩ := owns_slice hown5; have HL5 := Lib.hid (O4.out.lt); have O5 := Lib.hid hown5; have B5 := Lib.hid (B4.out.grown hg5 hsz4 (fun g e => (HL5.out g e).1)); clear hown5 hg5 hob5))
  go_ret
  have e32 : 8 + n + m = 32 := by omega
  have hO := O5.out
  rw [e32] at hO ⊢
  refine ⟨A5, c5, rfl, ?_, B5.out⟩
  have : ints .u8 (partT v k b) = ints .u8 (rowT v k n) ++ ints .u8 b ++ List.replicate m (.int .u8 0) := by
    unfold partT
    rw [ints_app, ints_app, HBL.out, show 24 - n = m by omega]
    simp [ints]
  rw [this]
  exact hO

end Go.Proofs.Yteinfkjlcpfeiaa

namespace Go.Proofs.Yteinfkjlcpfeiaa
open Go.RowKit Go.OpenShut Go.ChangeShapes Go.WideShapes Go.Deep
set_option linter.unusedVariables false

/-- Rows of bytes, as they are read. -/
structure Texts (w : World) (A : Option Addr) (n c : Nat) (zss : List (List Int)) : Prop where
  len : zss.length = n
  cap : n ≤ c
  max : c ≤ maxLen
  byte : ∀ zs ∈ zss, ∀ z ∈ zs, isByte z
  at_ : ∀ i, i < n → ∃ b o Ai ni ci, A = some ⟨b, o, none⟩ ∧ b < w.heap.size ∧ w.cell? ⟨b, o + i, none⟩ = some (.slice Ai ni ci) ∧ Arg w .u8 Ai ni ci (zss.getD i [])
section
variable {w w' : World} {A : Option Addr} {n c : Nat} {zss : List (List Int)}
theorem Texts.below (h : Texts w A n c zss) (hb : Below w.heap.size w w') : Texts w' A n c zss :=
  ⟨h.len, h.cap, h.max, h.byte, fun i hi => by
    obtain ⟨b, o, Ai, ni, ci, e, hlt, hc, ha⟩ := h.at_ i hi
    exact ⟨b, o, Ai, ni, ci, e, Nat.lt_of_lt_of_le hlt hb.size, (hb.cell (p := ⟨b, o + i, none⟩) hlt).trans hc, ha.below hb⟩⟩
theorem Texts.nil (w : World) : Texts w none 0 0 [] := ⟨rfl, Nat.le_refl _, by decide, by simp, fun i hi => by omega⟩
theorem Texts.byte_at (h : Texts w A n c zss) (i : Nat) : ∀ z ∈ zss.getD i [], isByte z := by
  rcases Nat.lt_or_ge i zss.length with hi | hi
  · rw [List.getD_eq_getElem?_getD, List.getElem?_eq_getElem hi]
    exact h.byte _ (List.getElem_mem hi)
  · rw [List.getD_eq_getElem?_getD, List.getElem?_eq_none hi]
    simp
end

/-- Texts of the call's own: the row, and each text, in blocks of their own. -/
def OwnTexts (w : World) (base : Nat) (A : Option Addr) (n c : Nat) (zss : List (List Int)) : Prop :=
  ∃ vs : List Value, w.ownsRow base 31 1 (.slice A n c) n vs ∧ zss.length = n ∧ (∀ zs ∈ zss, ∀ z ∈ zs, isByte z) ∧
    ∀ i, i < n → ∃ Ai ni ci, vs[i]? = some (.slice Ai ni ci) ∧ w.ownsRow base 5 1 (.slice Ai ni ci) ni (ints .u8 (zss.getD i []))

theorem Texts.of_own {w : World} {base : Nat} {A : Option Addr} {n c : Nat} {zss : List (List Int)} (h : OwnTexts w base A n c zss) : Texts w A n c zss := by
  obtain ⟨vs, hown, hl, hb, hin⟩ := h
  refine ⟨hl, ?_, ?_, hb, fun i hi => ?_⟩
  · rcases hown.2 with ⟨e, h0⟩ | ⟨g, cap, cur, e, _, _, h1, h2, _⟩ <;> cases e
    · exact Nat.le_refl _
    · exact h1
  · rcases hown.2 with ⟨e, h0⟩ | ⟨g, cap, cur, e, _, _, h1, h2, _⟩ <;> cases e
    · decide
    · exact h2
  · obtain ⟨Ai, ni, ci, hv, ho⟩ := hin i hi
    obtain ⟨b, o, e, hlt, hc⟩ := Seq.own hown i _ hv
    exact ⟨b, o, Ai, ni, ci, e, hlt, hc, Arg.own ho⟩
section
variable {w w' : World} {base base' : Nat} {A : Option Addr} {n c : Nat} {zss : List (List Int)}
theorem OwnTexts.below (h : OwnTexts w base A n c zss) (hb : Below w.heap.size w w') : OwnTexts w' base A n c zss := by
  obtain ⟨vs, hown, hl, hby, hin⟩ := h
  refine ⟨vs, owns_below hown hb, hl, hby, fun i hi => ?_⟩
  obtain ⟨Ai, ni, ci, hv, ho⟩ := hin i hi
  exact ⟨Ai, ni, ci, hv, owns_below ho hb⟩
theorem OwnTexts.lower (h : OwnTexts w base A n c zss) (hb : base' ≤ base) : OwnTexts w base' A n c zss := by
  obtain ⟨vs, hown, hl, hby, hin⟩ := h
  refine ⟨vs, owns_base hown hb, hl, hby, fun i hi => ?_⟩
  obtain ⟨Ai, ni, ci, hv, ho⟩ := hin i hi
  exact ⟨Ai, ni, ci, hv, owns_base ho hb⟩
theorem OwnTexts.nil (w : World) (base : Nat) : OwnTexts w base none 0 0 [] := ⟨[], World.ownsRow_nil _ _ _ _, rfl, by simp, fun i hi => by omega⟩
/-- Rows of different elements lie in different blocks. -/
theorem owns_other {e e' : TypeId} (he : e ≠ e') {b b' : Nat} {v v' : Value} {k k' s s' : Nat} {xs xs' : List Value} (h : w.ownsRow b e s v k xs) (h' : w.ownsRow b' e' s' v' k' xs') : v.ownBlock = none ∨ v.ownBlock ≠ v'.ownBlock := by
  rcases h.2 with ⟨rfl, _⟩ | ⟨g, cap, cur, rfl, _, hg, _⟩
  · exact .inl rfl
  rcases h'.2 with ⟨rfl, _⟩ | ⟨g', cap', cur', rfl, _, hg', _⟩
  · exact .inr (by simp [Value.ownBlock])
  · refine .inr fun e2 => ?_
    have e3 : g = g' := by simpa [Value.ownBlock] using e2
    rw [e3, hg'] at hg
    simp at hg
    exact he hg.2.symm
end

/-- They stay where a block below them turns. -/
theorem OwnTexts.kept {w w' : World} {base : Nat} {A : Option Addr} {n c : Nat} {zss : List (List Int)} (h : OwnTexts w base A n c zss) {row : Option Nat} (hg : w.grownBy w' row) (hr : ∀ g, row = some g → g < base) : OwnTexts w' base A n c zss := by
  have hk : ∀ {e : TypeId} {v : Value} {k : Nat} {xs : List Value}, w.ownsRow base e 1 v k xs → w'.ownsRow base e 1 v k xs := fun {e v k xs} hx => hx.kept hg (by
    rcases hy : v.ownBlock with _ | gc
    · exact .inl rfl
    · refine .inr (fun e2 => ?_)
      have h1 := (hx.lt gc hy).1
      have h2 := hr gc e2.symm
      omega)
  obtain ⟨vs, hown, hl, hby, hin⟩ := h
  refine ⟨vs, hk hown, hl, hby, fun i hi => ?_⟩
  obtain ⟨Ai, ni, ci, hv, ho⟩ := hin i hi
  exact ⟨Ai, ni, ci, hv, hk ho⟩

theorem OwnTexts.away {w : World} {base : Nat} {A : Option Addr} {n c : Nat} {zss : List (List Int)} (h : OwnTexts w base A n c zss) {g : Nat} (hg : g < base) (i : Nat) (u : Value) : OwnTexts (w.setCell ⟨g, i, none⟩ u) base A n c zss :=
  h.kept (grownBy_set w g i u) (fun _ e => by injection e with e; omega)
theorem owns_box {w : World} {e t : TypeId} {base g : Nat} {v : Value} {k i : Nat} {u : Value} {xs cs : List Value} (h : w.ownsRow base e 1 v k xs) (hb : Blk w g t cs) (ht : t ≠ e) : (w.setCell ⟨g, i, none⟩ u).ownsRow base e 1 v k xs := by
  refine h.kept (grownBy_set w g i u) ?_
  rcases h.2 with ⟨rfl, _⟩ | ⟨g', cap, cur, rfl, _, hg, _⟩
  · exact .inl rfl
  · refine .inr fun e2 => ?_
    have e3 : g' = g := by simpa [Value.ownBlock] using e2
    unfold Blk at hb
    rw [e3, hb] at hg
    simp at hg
    exact ht hg.2
/-- They stay where a box of another type is written. -/
theorem OwnTexts.box {w : World} {base : Nat} {A : Option Addr} {n c : Nat} {zss : List (List Int)} (h : OwnTexts w base A n c zss) {g : Nat} {t : TypeId} {cs : List Value} (hb : Blk w g t cs) (h1 : t ≠ 31) (h2 : t ≠ 5) (i : Nat) (u : Value) : OwnTexts (w.setCell ⟨g, i, none⟩ u) base A n c zss := by
  obtain ⟨vs, hown, hl, hby, hin⟩ := h
  refine ⟨vs, owns_box hown hb h1, hl, hby, fun i hi => ?_⟩
  obtain ⟨Ai, ni, ci, hv, ho⟩ := hin i hi
  exact ⟨Ai, ni, ci, hv, owns_box ho hb h2⟩
theorem OwnTexts.block {w : World} {base : Nat} {A : Option Addr} {n c : Nat} {zss : List (List Int)} (h : OwnTexts w base A n c zss) (hn : 0 < n) : ∃ g, A = some ⟨g, 0, none⟩ ∧ base ≤ g ∧ g < w.heap.size := by
  obtain ⟨vs, hown, _⟩ := h
  rcases hown.2 with ⟨_, h0⟩ | ⟨g, cap, cur, e, hb, hg, _⟩
  · omega
  · cases e
    exact ⟨g, rfl, hb, (Array.getElem?_eq_some_iff.1 hg).1⟩
/-- A block of three cells written whole. -/
theorem OwnTexts.three {w : World} {base : Nat} {A : Option Addr} {n c : Nat} {zss : List (List Int)} (h : OwnTexts w base A n c zss) {g : Nat} {t : TypeId} {cs : List Value} (hb : Blk w g t cs) (h1 : t ≠ 31) (h2 : t ≠ 5) (x y z : Value) :
    OwnTexts (((w.setCell ⟨g, 0, none⟩ x).setCell ⟨g, 1, none⟩ y).setCell ⟨g, 2, none⟩ z) base A n c zss :=
  ((h.box hb h1 h2 0 x).box (hb.set 0 x) h1 h2 1 y).box ((hb.set 0 x).set 1 y) h1 h2 2 z
theorem below_three {B : Nat} {w0 w : World} (h : Below B w0 w) {g : Nat} (hg : B ≤ g) (x y z : Value) : Below B w0 (((w.setCell ⟨g, 0, none⟩ x).setCell ⟨g, 1, none⟩ y).setCell ⟨g, 2, none⟩ z) :=
  ((h.setCell (p := ⟨g, 0, none⟩) hg x).setCell (p := ⟨g, 1, none⟩) hg y).setCell (p := ⟨g, 2, none⟩) hg z

theorem texts_info : (Try.prog.info? 31).map (fun i => (i.zero, i.size, i.bytes)) = some (some (.slice none 0 0), 1, 24) := by kernel_rfl

/-- One text of the call's own put in the place of another. -/
theorem OwnTexts.set {w : World} {base : Nat} {A : Option Addr} {n c : Nat} {zss : List (List Int)} (h : OwnTexts w base A n c zss) {i : Nat} (hi : i < n) {Ai : Option Addr} {ni ci : Nat} {zs : List Int} (hz : ∀ z ∈ zs, isByte z)
    (ho : w.ownsRow base 5 1 (.slice Ai ni ci) ni (ints .u8 zs)) :
    ∃ g v, A = some ⟨g, 0, none⟩ ∧ base ≤ g ∧ w.cell? ⟨g, i, none⟩ = some v ∧ w.frozen? ⟨g, i, none⟩ = false ∧ OwnTexts (w.setCell ⟨g, i, none⟩ (.slice Ai ni ci)) base A n c (zss.set i zs) := by
  obtain ⟨vs, hown, hl, hby, hin⟩ := h
  obtain ⟨g, v, rfl, hbg, hc, hf, hset⟩ := owns_at hown hi
  have hvl : vs.length = n := by have := hown.1; omega
  refine ⟨g, v, rfl, hbg, hc, hf, vs.set i (.slice Ai ni ci), hset _, by rw [List.length_set]; exact hl, ?_, fun j hj => ?_⟩
  · intro y hy z hzz
    rcases List.mem_or_eq_of_mem_set hy with hy | rfl
    · exact hby y hy z hzz
    · exact hz z hzz
  · have hkeep : ∀ {A' : Option Addr} {n' c' : Nat} {xs : List Value}, w.ownsRow base 5 1 (.slice A' n' c') n' xs → (w.setCell ⟨g, i, none⟩ (.slice Ai ni ci)).ownsRow base 5 1 (.slice A' n' c') n' xs := fun hx =>
      hx.kept (grownBy_set w g i _) (by
        have := owns_other (by decide) hx hown
        simpa [Value.ownBlock] using this)
    by_cases e : i = j
    · subst e
      refine ⟨Ai, ni, ci, by rw [List.getElem?_set_self (by omega)], ?_⟩
      have e2 : (zss.set i zs).getD i [] = zs := by simp [List.getD_eq_getElem?_getD, show i < zss.length by omega]
      rw [e2]
      exact hkeep ho
    · obtain ⟨Aj, nj, cj, hv, hoj⟩ := hin j hj
      refine ⟨Aj, nj, cj, by rw [List.getElem?_set_ne e]; exact hv, ?_⟩
      have e2 : (zss.set i zs).getD j [] = zss.getD j [] := by simp [List.getD_eq_getElem?_getD, List.getElem?_set_ne e]
      rw [e2]
      exact hkeep hoj

/-- One text more behind the others: what the append law hands back. -/
theorem OwnTexts.snoc {w w' : World} {base : Nat} {A A' Ai : Option Addr} {n c c' ni ci : Nat} {zss : List (List Int)} {zs : List Int} {vs : List Value} (hown0 : w.ownsRow base 31 1 (.slice A n c) n vs) (hl : zss.length = n) (hby : ∀ zs ∈ zss, ∀ z ∈ zs, isByte z)
    (hin : ∀ i, i < n → ∃ Ai ni ci, vs[i]? = some (.slice Ai ni ci) ∧ w.ownsRow base 5 1 (.slice Ai ni ci) ni (ints .u8 (zss.getD i []))) (hz : ∀ z ∈ zs, isByte z)
    (ho : w.ownsRow base 5 1 (.slice Ai ni ci) ni (ints .u8 zs)) (hg : w.grownBy w' (Value.slice A n c).ownBlock)
    (hown : w'.ownsRow base 31 1 (.slice A' (n + 1) c') (n + 1) (vs ++ [.slice Ai ni ci])) : OwnTexts w' base A' (n + 1) c' (zss ++ [zs]) := by
  have hvl : vs.length = n := by have := hown0.1; omega
  have hkeep : ∀ {A' : Option Addr} {n' c' : Nat} {xs : List Value}, w.ownsRow base 5 1 (.slice A' n' c') n' xs → w'.ownsRow base 5 1 (.slice A' n' c') n' xs := fun hx =>
    hx.kept hg (owns_other (by decide) hx hown0)
  refine ⟨_, hown, by simp [hl], ?_, fun j hj => ?_⟩
  · intro y hy z hzz
    rcases List.mem_append.1 hy with hy | hy
    · exact hby y hy z hzz
    · rw [List.mem_singleton] at hy
      subst hy
      exact hz z hzz
  · by_cases e : j = n
    · subst e
      refine ⟨Ai, ni, ci, by rw [List.getElem?_append_right (by omega)]; simp [hvl], ?_⟩
      have e2 : (zss ++ [zs]).getD j [] = zs := by simp [List.getD_eq_getElem?_getD, hl]
      rw [e2]
      exact hkeep ho
    · obtain ⟨Aj, nj, cj, hv, hoj⟩ := hin j (by omega)
      refine ⟨Aj, nj, cj, by rw [List.getElem?_append_left (by omega)]; exact hv, ?_⟩
      have e2 : (zss ++ [zs]).getD j [] = zss.getD j [] := by simp [List.getD_eq_getElem?_getD, List.getElem?_append_left (show j < zss.length by omega)]
      rw [e2]
      exact hkeep hoj

/-- append(out, t): texts of the call's own, and one text of the call's own behind them. -/
theorem run_text {P : Program} (w0 w : World) (t ty : TypeId) (i : TypeInfo) (z : Value) (ht : P.underlying t = some (.slice 31)) (hi : P.info? 31 = some i) (hz : i.zero = some z)
    (hsize : i.size = 1) (hby : i.bytes = 24) (hzs : z.cells.size = 1) (base : Nat) (A0 : Option Addr) (n c0 : Nat) (zss : List (List Int)) (hown : OwnTexts w base A0 n c0 zss)
    (Ai : Option Addr) (ni ci : Nat) (zs : List Int) (hb : ∀ z ∈ zs, isByte z) (hoi : w.ownsRow base 5 1 (.slice Ai ni ci) ni (ints .u8 zs))
    (h63 : n + 1 ≤ maxLen) (hbytes : (n + 1) * 24 ≤ 140737488355328) (hbel : Below base w0 w) (hw0 : base ≤ w0.heap.size) :
    ∃ A' c' w', (Builtin.append_ #[t, t] ty #[.slice A0 n c0, .slice (some ⟨w.heap.size, 0, none⟩) 1 1]).run P (w.alloc (.cells #[.slice Ai ni ci] 31)) = .ok (.slice A' (n + 1) c') w' ∧ OwnTexts w' base A' (n + 1) c' (zss ++ [zs]) ∧ Below base w0 w' := by
  obtain ⟨vs, hv, hl, hby2, hin⟩ := hown
  have hb1 : Below w.heap.size w (w.alloc (.cells #[.slice Ai ni ci] 31)) := (Below.refl _ _).alloc (Nat.le_refl _) _
  have hbase : base ≤ w.heap.size := Nat.le_trans hw0 hbel.size
  have hseq : Seq (w.alloc (.cells #[.slice Ai ni ci] 31)) (w.heap.size + 1) (some ⟨w.heap.size, 0, none⟩) [.slice Ai ni ci] := by
    have h := (Blk.new w 31 [.slice Ai ni ci]).seq 0 1
    exact h
  obtain ⟨v', w', hrun, hown', hg, _⟩ := run_app (P := P) (w.alloc (.cells #[.slice Ai ni ci] 31)) base t ty 31 i z 24 ht hi hz hsize hby hzs _ n vs (hv.allocated _) _ _ 1 1 [.slice Ai ni ci] rfl hseq (by simp [Value.oneCell']) h63 hbytes (by simp; omega)
  obtain ⟨A', c', rfl⟩ := owns_slice hown'
  have hfin : OwnTexts w' base A' (n + 1) c' (zss ++ [zs]) := OwnTexts.snoc (hv.allocated _) hl hby2 (fun i hi => by
    obtain ⟨Aj, nj, cj, e, hj⟩ := hin i hi
    exact ⟨Aj, nj, cj, e, hj.allocated _⟩) hb (hoi.allocated _) hg hown'
  exact ⟨A', c', w', hrun, hfin, (hbel.alloc hbase _).grown hg (by simp; omega) (fun g e => (hv.lt g e).1)⟩

/-- append(out, t), guarded or not. -/
theorem wpList_text {P : Program} (w0 w : World) {ops : Array Oper} {rest : List Oper} {o : Oper} {a : Act} {Q : Exit → Act → World → Prop} (hw : Region.wanted o (yielded ops a.tmps) = true) (s x : Operand) (t : TypeId)
    (ho : o.op = .call { callee := .builtin .append, args := #[s, x], argTypes := #[t, t] }) (i : TypeInfo) (z : Value) (ht : P.underlying t = some (.slice 31)) (hi : P.info? 31 = some i) (hz : i.zero = some z)
    (hsize : i.size = 1) (hby : i.bytes = 24) (hzs : z.cells.size = 1) (base : Nat) (A0 : Option Addr) (n c0 : Nat) (zss : List (List Int)) (hs : a.eval s = .slice A0 n c0) (hown : OwnTexts w base A0 n c0 zss)
    (Ai : Option Addr) (ni ci : Nat) (zs : List Int) (hb : ∀ z ∈ zs, isByte z) (hoi : w.ownsRow base 5 1 (.slice Ai ni ci) ni (ints .u8 zs)) (hx : a.eval x = .slice (some ⟨w.heap.size, 0, none⟩) 1 1)
    (h63 : n + 1 ≤ maxLen) (hbytes : (n + 1) * 24 ≤ 140737488355328) (hbel : Below base w0 w) (hw0 : base ≤ w0.heap.size)
    (h : ∀ A' c' w', OwnTexts w' base A' (n + 1) c' (zss ++ [zs]) → Below base w0 w' → wpList P ops Q rest (a.put o.dst (.slice A' (n + 1) c')) w') : wpList P ops Q (o :: rest) a (w.alloc (.cells #[.slice Ai ni ci] 31)) := by
  refine wpList_want hw fun K hK => ?_
  obtain ⟨A', c', w', hrun, h2, h3⟩ := run_text (P := P) w0 w t o.type i z ht hi hz hsize hby hzs base A0 n c0 zss hown Ai ni ci zs hb hoi h63 hbytes hbel hw0
  unfold Oper.wp execOp
  simp only [ho, resolve, invoke, builtin, Sem.run_bind, Sem.run_pure, Result.andThen_ok, List.map_toArray, List.map_cons, List.map_nil, hs, hx, hrun]
  exact hK _ _ (h A' c' w' h2 h3)

/-- What a law's frame hands over: texts that came in. -/
theorem open_texts {H : Type} {enc : TypeId × Value → H} {W : World} {fuel : Nat} {v : Value} {y : DataW H × List MemPlace} (h : DataW.trod enc Try.prog W 0 (fun _ => true) true fuel 105 [v] = some y) :
    ∃ A n c zss, v = .slice A n c ∧ Texts W A n c zss := by
  rcases open_int_rows Try.underlying105 Try.underlying31 Try.underlying5 (by kernel_rfl) (by kernel_rfl) h with ⟨hcs, _⟩ | ⟨a, len, cap, A, L, C, Z, hcs, _, hl, hm, _, hr⟩
  · have hv : v = .slice none 0 0 := by simpa using hcs
    exact ⟨none, 0, 0, [], hv, Texts.nil W⟩
  · have hv : v = .slice (some a) len cap := by simpa using hcs
    have each : ∀ r, r < len → ∃ l : List Int, Arg W .u8 (A r) (L r) (C r) l ∧ ∀ z ∈ l, isByte z := fun r hrl => by
      obtain ⟨_, r1, r2, r3, r4, r5, r6⟩ := hr r (by omega)
      have hrow : IsRow .u8 W (A r) (L r) (C r) (Z r) := by
        cases hA : A r with
        | none =>
          have h0 := r5 hA
          exact .inl ⟨rfl, by omega, h0, List.eq_nil_of_length_eq_zero (by omega)⟩
        | some x => exact .inr ⟨x, rfl, r1, r2, r3, fun i hi => (r6 x hA).2 i (by omega), r4⟩
      obtain ⟨l, h1, h2⟩ := hrow.arg
      exact ⟨l, h1, fun z hz => wf_byte (h2 z hz)⟩
    obtain ⟨l, hlz⟩ := choose_lt each
    refine ⟨some a, len, cap, (List.range len).map l, hv, by simp, hl, hm, ?_, fun i hi => ?_⟩
    · intro zs hzs
      obtain ⟨r, hrl, rfl⟩ := List.mem_map.1 hzs
      exact (hlz r (List.mem_range.1 hrl)).2
    · obtain ⟨b, o, spot⟩ := a
      have hc := (hr i (by omega)).1
      have hc0 := (hr 0 (by omega)).1
      have hs : spot = none := by simpa [Addr.add] using World.cell?_spot hc0
      subst hs
      have e : (⟨b, o, none⟩ : Addr).add i = ⟨b, o + i, none⟩ := by unfold Addr.add; split <;> simp_all
      rw [e] at hc
      refine ⟨b, o, A i, L i, C i, rfl, World.block_lt_of_cell? W _ hc, hc, ?_⟩
      have e2 : ((List.range len).map l).getD i [] = l i := by simp [List.getD_eq_getElem?_getD, hi]
      rw [e2]
      exact (hlz i hi).1

end Go.Proofs.Yteinfkjlcpfeiaa

namespace Go.Proofs.Yteinfkjlcpfeiaa
open Go.RowKit
set_option linter.unusedVariables false

/-- A piece of a row. -/
theorem Arg.piece {w : World} {k : IntKind} {g o n c lo hi : Nat} {zs : List Int} (h : Arg w k (some ⟨g, o, none⟩) n c zs) (h1 : lo ≤ hi) (h2 : hi ≤ n) : Arg w k (some ⟨g, o + lo, none⟩) (hi - lo) (c - lo) ((zs.drop lo).take (hi - lo)) := by
  refine ⟨?_, by rw [List.length_take, List.length_drop, h.len]; omega, by have := h.cap; omega, by have := h.max; omega⟩
  have hs : ints k ((zs.drop lo).take (hi - lo)) = ((ints k zs).drop lo).take (hi - lo) := by simp [ints, List.map_take, List.map_drop]
  rw [hs]
  exact (h.seq.drop lo).take _
theorem chunk_piece {b : Txt} {k lo hi : Nat} (h1 : lo = min (24 * k) b.length) (h2 : hi = min (lo + 24) b.length) : (b.drop lo).take (hi - lo) = chunk b k := by
  unfold chunk
  rcases Nat.le_total (24 * k) b.length with h | h
  · rw [Nat.min_eq_left h] at h1
    subst h1
    rcases Nat.le_total (24 * k + 24) b.length with h3 | h3
    · rw [Nat.min_eq_left h3] at h2
      rw [h2, Nat.add_sub_cancel_left]
    · rw [Nat.min_eq_right h3] at h2
      rw [List.take_of_length_le (by rw [List.length_drop]; omega), List.take_of_length_le (by rw [List.length_drop]; omega)]
  · rw [Nat.min_eq_right h] at h1
    subst h1
    rw [List.drop_of_length_le (Nat.le_refl _), List.drop_of_length_le h]
    simp
theorem textsOf_take (v : Int) (b : Txt) {m k : Nat} (h : k ≤ m) : (textsOf v b m).take k = textsOf v b k := by
  unfold textsOf
  rw [← List.map_take, List.take_range, Nat.min_eq_left h]
theorem textsOf_succ (v : Int) (b : Txt) (k : Nat) : textsOf v b (k + 1) = textsOf v b k ++ [partT v k (chunk b k)] := by
  unfold textsOf
  rw [List.range_succ, List.map_append]
  rfl

set_option maxRecDepth 100000 in
set_option maxHeartbeats 6400000 in
theorem rparts_any (v : Int) (hv : 0 ≤ v ∧ v < 4294967296) (A : Option Addr) (n c : Nat) (b : Txt) (m : Nat) (hm : m ≤ 4) (w : World) (h : Arg w .u8 A n c b) (hn : n ≤ 1000) (hby : ∀ z ∈ b, isByte z) (hsp : ∀ a, A = some a → a.spot = none ∨ c = 0) :
    Calls Try.prog 99 #[.int .u64 v, .slice A n c, .int .i64 (m : Int)] w fun e w' => ∃ A' c', e = .returned (.slice A' m c') ∧ OwnTexts w' w.heap.size A' m c' (textsOf v b m) ∧ Below w.heap.size w w' := by
  obtain ⟨i1, hi1, hj0, hj1, hj2⟩ := info_parts texts_info
  have hml : (1000 : Nat) ≤ maxLen := by decide
  have HA := Lib.hid h
  have HV := Lib.hid hv
  have HBY := Lib.hid hby
  have HSP := Lib.hid hsp
  have HBL := Lib.hid h.len
  have hcc := h.cap
  have hmx := h.max
  unfold maxLen at hmx
  clear h hv hby hsp
  go_enter Try.func99, Try.ntmps99
  go_wp2
  go_loopw [7, 8] (fun r i wr => ∃ (k : Nat) (A' : Option Addr) (c' : Nat), k ≤ m ∧ i = .int .i64 k ∧ r = .slice A' k c' ∧ OwnTexts wr w.heap.size A' k c' (textsOf v b k) ∧ Below w.heap.size w wr) (fun _ i _ => m - (intOf i).toNat)
  case atStart => exact ⟨0, none, 0, Nat.zero_le _, rfl, rfl, OwnTexts.nil _ _, Below.refl _ _⟩
  case round =>
    obtain ⟨k, A', c', hk, rfl, rfl, hown, hbel⟩ := hrel
    by_cases hkm : k < m
    · have hki : (k : Int) < (m : Int) := by omega
      obtain ⟨lo, hlo⟩ : ∃ lo, lo = min (24 * k) n := ⟨_, rfl⟩
      obtain ⟨hi, hhi⟩ : ∃ hi, hi = min (lo + 24) n := ⟨_, rfl⟩
      have hl1 : lo ≤ hi := by omega
      have hl2 : hi ≤ n := by omega
      have hmin1 : (if (n : Int) < (k : Int) * 24 then (n : Int) else (k : Int) * 24) = (lo : Int) := by split <;> omega
      have hmin2 : (if (n : Int) < (lo : Int) + 24 then (n : Int) else (lo : Int) + 24) = (hi : Int) := by split <;> omega
      have O := Lib.hid hown
      have B := Lib.hid hbel
      have HCH := Lib.hid (chunk_piece (b := b) (k := k) (lo := lo) (hi := hi) (by rw [HBL.out]; exact hlo) (by rw [HBL.out]; exact hhi))
      have h24 : hi - lo ≤ 24 := by omega
      clear hown hbel hlo hhi
      have hk256 : k < 256 := by omega
      have hlc : (lo : Int) ≤ (hi : Int) := by omega
      have hhc : (hi : Int) ≤ (c : Int) := by omega
      have hlo0 : (0 : Int) ≤ (lo : Int) := by omega
      have HCL := Lib.hid (show (chunk b k).length = hi - lo by rw [← HCH.out, List.length_take, List.length_drop, HBL.out]; omega)
      cases A with
      | none =>
        by_cases hc3 : lo < c
        · have hc4 : (lo : Int) < (c : Int) := by omega
          have HP := Lib.hid (show Arg w .u8 none (hi - lo) (c - lo) (chunk b k) from by
            have hn0 : n = 0 := by
              rcases Nat.eq_zero_or_pos n with h | h
              · exact h
              · obtain ⟨_, _, e, _, _⟩ := HA.out.seq.at_ (by rw [ints_length, HBL.out]; exact h)
                cases e
            have h2 : chunk b k = [] := List.eq_nil_of_length_eq_zero (by have := HCL.out; omega)
            rw [h2]
            exact ⟨Seq.empty, by simp; omega, by omega, by simp only [maxLen]; omega⟩)
          go_wp2_with fail
          with_reducible refine (rpart_any v HV.out k hk256 _ _ _ (chunk b k) _ (HP.out.below B.out) h24).mono ?_
          rintro e w2 ⟨A2, c2, rfl, hown2, hb2⟩
          have hsz2 : w.heap.size ≤ wr.heap.size := B.out.size
          have O2 := Lib.hid (O.out.below hb2)
          have P2 := Lib.hid (owns_base hown2 hsz2)
          have HPB := Lib.hid (partT_byte v k (b := chunk b k) (fun z hz => HBY.out z (List.mem_of_mem_drop (List.mem_of_mem_take hz))))
          have B2 := Lib.hid (B.out.trans (hb2.mono hsz2))
          have hkl : k + 1 ≤ maxLen := by omega
          clear hown2 hb2 hsz2 HP
          go_wp2_with (at_builtin; (refine wpList_text w _ rfl (.tmp 20) (.tmp 32) _ rfl i1 _ Try.underlying105 hi1 hj0 hj1 hj2 rfl w.heap.size A' k c' (textsOf v b k) rfl O2.out A2 32 c2 (partT v k (chunk b k)) HPB.out P2.out rfl hkl (by omega) B2.out (Nat.le_refl _) ?_); intro A3 c3 w3 hO3 hB3; have O3 := Lib.hid hO3; have B3 := Lib.hid hB3; clear hO3 hB3)
          go_roundw
          case rel => exact ⟨k + 1, A3, c3, by omega, by go_num, rfl, by rw [textsOf_succ]; exact O3.out, B3.out⟩
          case measure => simp [intOf]; omega
        · have hlc2 : lo = c := by omega
          have hz : hi - lo = 0 := by omega
          have hz2 : c - lo = 0 := by omega
          have hc4 : ¬ (lo : Int) < (c : Int) := by omega
          have HP := Lib.hid (show Arg w .u8 none 0 0 (chunk b k) from by
            have h2 : chunk b k = [] := List.eq_nil_of_length_eq_zero (by have := HCL.out; omega)
            rw [h2]
            exact ⟨Seq.empty, rfl, Nat.le_refl _, Nat.zero_le _⟩)
          go_wp2_with fail
          with_reducible refine (rpart_any v HV.out k hk256 _ _ _ (chunk b k) _ (HP.out.below B.out) (Nat.zero_le 24)).mono ?_
          rintro e w2 ⟨A2, c2, rfl, hown2, hb2⟩
          have hsz2 : w.heap.size ≤ wr.heap.size := B.out.size
          have O2 := Lib.hid (O.out.below hb2)
          have P2 := Lib.hid (owns_base hown2 hsz2)
          have HPB := Lib.hid (partT_byte v k (b := chunk b k) (fun z hz => HBY.out z (List.mem_of_mem_drop (List.mem_of_mem_take hz))))
          have B2 := Lib.hid (B.out.trans (hb2.mono hsz2))
          have hkl : k + 1 ≤ maxLen := by omega
          clear hown2 hb2 hsz2 HP
          go_wp2_with (at_builtin; (refine wpList_text w _ rfl (.tmp 20) (.tmp 32) _ rfl i1 _ Try.underlying105 hi1 hj0 hj1 hj2 rfl w.heap.size A' k c' (textsOf v b k) rfl O2.out A2 32 c2 (partT v k (chunk b k)) HPB.out P2.out rfl hkl (by omega) B2.out (Nat.le_refl _) ?_); intro A3 c3 w3 hO3 hB3; have O3 := Lib.hid hO3; have B3 := Lib.hid hB3; clear hO3 hB3)
          go_roundw
          case rel => exact ⟨k + 1, A3, c3, by omega, by go_num, rfl, by rw [textsOf_succ]; exact O3.out, B3.out⟩
          case measure => simp [intOf]; omega
      | some a =>
        obtain ⟨g, o, s⟩ := a
        by_cases hc3 : lo < c
        · have hc4 : (lo : Int) < (c : Int) := by omega
          have hs : s = none := by
            rcases HSP.out _ rfl with h | h
            · exact h
            · omega
          subst hs
          have HP := Lib.hid (HA.out.piece hl1 hl2)
          rw [HCH.out] at HP
          go_wp2_with fail
          with_reducible refine (rpart_any v HV.out k hk256 _ _ _ (chunk b k) _ (HP.out.below B.out) h24).mono ?_
          rintro e w2 ⟨A2, c2, rfl, hown2, hb2⟩
          have hsz2 : w.heap.size ≤ wr.heap.size := B.out.size
          have O2 := Lib.hid (O.out.below hb2)
          have P2 := Lib.hid (owns_base hown2 hsz2)
          have HPB := Lib.hid (partT_byte v k (b := chunk b k) (fun z hz => HBY.out z (List.mem_of_mem_drop (List.mem_of_mem_take hz))))
          have B2 := Lib.hid (B.out.trans (hb2.mono hsz2))
          have hkl : k + 1 ≤ maxLen := by omega
          clear hown2 hb2 hsz2 HP
          go_wp2_with (at_builtin; (refine wpList_text w _ rfl (.tmp 20) (.tmp 32) _ rfl i1 _ Try.underlying105 hi1 hj0 hj1 hj2 rfl w.heap.size A' k c' (textsOf v b k) rfl O2.out A2 32 c2 (partT v k (chunk b k)) HPB.out P2.out rfl hkl (by omega) B2.out (Nat.le_refl _) ?_); intro A3 c3 w3 hO3 hB3; have O3 := Lib.hid hO3; have B3 := Lib.hid hB3; clear hO3 hB3)
          go_roundw
          case rel => exact ⟨k + 1, A3, c3, by omega, by go_num, rfl, by rw [textsOf_succ]; exact O3.out, B3.out⟩
          case measure => simp [intOf]; omega
        · have hlc2 : lo = c := by omega
          have hz : hi - lo = 0 := by omega
          have hz2 : c - lo = 0 := by omega
          have hc4 : ¬ (lo : Int) < (c : Int) := by omega
          have HP := Lib.hid (show Arg w .u8 (some ⟨g, o, s⟩) 0 0 (chunk b k) from by
            have h2 : chunk b k = [] := List.eq_nil_of_length_eq_zero (by have := HCL.out; omega)
            rw [h2]
            exact ⟨Seq.empty, rfl, Nat.le_refl _, Nat.zero_le _⟩)
          go_wp2_with fail
          with_reducible refine (rpart_any v HV.out k hk256 _ _ _ (chunk b k) _ (HP.out.below B.out) (Nat.zero_le 24)).mono ?_
          rintro e w2 ⟨A2, c2, rfl, hown2, hb2⟩
          have hsz2 : w.heap.size ≤ wr.heap.size := B.out.size
          have O2 := Lib.hid (O.out.below hb2)
          have P2 := Lib.hid (owns_base hown2 hsz2)
          have HPB := Lib.hid (partT_byte v k (b := chunk b k) (fun z hz => HBY.out z (List.mem_of_mem_drop (List.mem_of_mem_take hz))))
          have B2 := Lib.hid (B.out.trans (hb2.mono hsz2))
          have hkl : k + 1 ≤ maxLen := by omega
          clear hown2 hb2 hsz2 HP
          go_wp2_with (at_builtin; (refine wpList_text w _ rfl (.tmp 20) (.tmp 32) _ rfl i1 _ Try.underlying105 hi1 hj0 hj1 hj2 rfl w.heap.size A' k c' (textsOf v b k) rfl O2.out A2 32 c2 (partT v k (chunk b k)) HPB.out P2.out rfl hkl (by omega) B2.out (Nat.le_refl _) ?_); intro A3 c3 w3 hO3 hB3; have O3 := Lib.hid hO3; have B3 := Lib.hid hB3; clear hO3 hB3)
          go_roundw
          case rel => exact ⟨k + 1, A3, c3, by omega, by go_num, rfl, by rw [textsOf_succ]; exact O3.out, B3.out⟩
          case measure => simp [intOf]; omega
    · obtain rfl : k = m := by omega
      have O := Lib.hid hown
      have B := Lib.hid hbel
      clear hown hbel
      go_wp2
      go_ret
      exact ⟨A', c', rfl, O.out, B.out⟩

end Go.Proofs.Yteinfkjlcpfeiaa
