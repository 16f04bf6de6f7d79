/- Layer 6: append of made bytes behind a row of the call's own. No statement is proved here. -/
/- Layer 6: the document's own: a part's text. No statement is proved here. -/
/- Layer 6: rows of texts: what came in, and what is the call's own (as layer 4 has them, beside disks). No statement is proved here. -/
/- Layer 6: the document's own: bytes, parted. No statement is proved here. -/
/- Layer 6: what a slot holds, put together at once (as the document does) and part by part: the same. Nothing of the program. -/
/- Layer 6: rows of texts of the call's own beside a row of bytes that grows. No statement is proved here. -/
/- Layer 6: the document's own: what a slot holds. No statement is proved here. -/
/- Layer 6: the document's own: which slot, what a cell holds, Read. No statement is proved here. -/
import Derived.Test.YtiibmlbenamgcaaCellAp0
import Derived.Laws.CopyRow
import Derived.Test.YtiibmlbenamgcaaCellBk
import Derived.Test.YtiibmlbenamgcaaNumR2
import Derived.Test.YtiibmlbenamgcaaCopy
import Derived.Test.YtiibmlbenamgcaaCellP9
import Derived.Test.YtiibmlbenamgcaaBase3
import Derived.Deep.Matrix
import Derived.Lib.SmallJoins
import Derived.Deep.Cut
import Derived.Test.YtiibmlbenamgcaaCellCs
import Derived.Test.YtiibmlbenamgcaaCellWr
import Derived.BigQuiet
import Derived.Deep.QuietTactic
import Derived.Test.YtiibmlbenamgcaaCellRd
namespace Go.Proofs.Ytiibmlbenamgcaa
open Go.RowKit
set_option linter.unusedVariables false

theorem zero_cells (k : Nat) : (Builtin.zeroCells (Value.int .u8 0).cells k).toList = List.replicate k (.int .u8 0) := by
  have := toList_madeCells_one (Value.int .u8 0) k
  simpa [madeCells, Builtin.zeroCells, Value.cells] using this

theorem run_append_noughts (w : World) (base : Nat) (ty : TypeId) (v : Value) (n : Nat) (xs : List Value) (hown : w.ownsRow base 5 1 v n xs) (k : Nat) (hk : k ≤ 1000) (hn : n ≤ 1000) (hbase : base ≤ w.heap.size) :
    ∃ v' w', (Builtin.append_ #[22, 3] ty #[v, .int .i64 (k : Int)]).run Try.prog w = .ok v' w' ∧ w'.ownsRow base 5 1 v' (n + k) (xs ++ List.replicate k (.int .u8 0)) ∧ w.grownBy w' v.ownBlock ∧ (v'.ownBlock = v.ownBlock ∨ v'.ownBlock = some w.heap.size) := by
  obtain ⟨i, hi, hz, hsize, hby⟩ := info_parts byte_info
  have hml : (100000 : Nat) ≤ maxLen := by decide
  have hw : IntKind.i64.wrap (k : Int) = (k : Int) := Lib.wrap_i64_small k (by omega)
  have hkk : ¬ ((k : Int) < 0) := by omega
  have hw0 : IntKind.i64.wrap 0 = 0 := by decide
  have hmul : ¬ ((281474976710656 : Int) < (k : Int) * (i.bytes : Int)) := by rw [hby]; omega
  have ht := Try.underlying22
  have htx := Try.underlying3
  have grown : ∀ (old : Nat), old < n + k → ∀ (row : Option Nat),
      (w.drew.alloc (.cells (xs.toArray ++ Builtin.zeroCells (Value.int .u8 0).cells k ++ Builtin.zeroCells (Value.int .u8 0).cells (grownCap w (n + k) old 5 - (n + k))) 5)).ownsRow base 5 1
        (.slice (some ⟨w.heap.size, 0, none⟩) (n + k) (grownCap w (n + k) old 5)) (n + k) (xs ++ List.replicate k (.int .u8 0)) ∧
      w.grownBy (w.drew.alloc (.cells (xs.toArray ++ Builtin.zeroCells (Value.int .u8 0).cells k ++ Builtin.zeroCells (Value.int .u8 0).cells (grownCap w (n + k) old 5 - (n + k))) 5)) row := by
    intro old ho row
    have hge := grownCap_ge w (n + k) old 5
    have hcm : grownCap w (n + k) old 5 ≤ maxLen := grownCap_le_maxLen w (n + k) old 5 (by omega)
    have hxl : xs.length = n := by have := hown.1; omega
    refine ⟨⟨by simp [hxl], .inr ⟨w.heap.size, _, _, rfl, hbase, heap_alloc_new w.drew _, hge, hcm, ?_, ?_⟩⟩, ⟨rfl, rfl, rfl, by simp, fun j hj _ => heap_alloc_old w.drew _ hj⟩⟩
    · simp only [Array.size_append, List.size_toArray, size_zeroCells, hxl]
      simp [Value.cells]
      omega
    · simp only [Array.toList_append, zero_cells]
      have hl2 : (xs ++ List.replicate k (Value.int .u8 0)).length = n + k := by simp [hxl]
      rw [Nat.mul_one, ← hl2]
      exact List.take_left
  rcases hown.2 with ⟨rfl, rfl⟩ | ⟨g, cap, cur, rfl, hbg, hg, hnc, hcm, hcs, htake⟩
  · have hx : xs = [] := List.eq_nil_of_length_eq_zero (by simpa using hown.1)
    subst hx
    rcases Nat.eq_zero_or_pos k with h0 | h0
    · subst h0
      refine ⟨.slice none 0 0, w, ?_, by simpa using hown, grownBy_refl _ _, .inl rfl⟩
      have hm0 : ¬ ((281474976710656 : Int) < ((0 : Nat) : Int) * (i.bytes : Int)) := hmul
      simp [Builtin.append_, run_underlying ht, run_underlying htx, sizeOf, typeInfo, zeroValue, hi, hz, asInt, asIntOf, hw0]
    · have hold : (Builtin.firstCells i.size 0 (.slice none 0 0)).run Try.prog w.drew = .ok ([] : List Value).toArray w.drew := by simp [Builtin.firstCells]
      have hr := run_append_made (P := Try.prog) w 22 3 ty 5 i _ ht htx hi hz none 0 0 [] hold k h0 (by omega) hk (by omega) (by omega) (by omega) (by rw [hby]; exact growslice_fits (by omega) (by omega))
      have hgr := grown 0 (by omega) (Value.ownBlock (.slice none 0 0))
      simp only [Nat.zero_add] at hgr hr ⊢
      exact ⟨_, _, hr, hgr.1, hgr.2, .inr rfl⟩
  · by_cases hroom : n + k ≤ cap
    · have hfit : 0 + n + (List.replicate k (Value.int .u8 0)).length ≤ cur.size := by simp; omega
      rcases Nat.eq_zero_or_pos k with h0 | h0
      · subst h0
        refine ⟨.slice (some ⟨g, 0, none⟩) n cap, w, ?_, by simpa using hown, grownBy_refl _ _, .inl rfl⟩
        simp [Builtin.append_, run_underlying ht, run_underlying htx, sizeOf, typeInfo, zeroValue, hi, hz, asInt, asIntOf, hnc, storeCells, hw0]
      · have hst := run_storeCells_at Try.prog g n 5 (List.replicate k (Value.int .u8 0)) 0 cur w hg (by simp; omega) (fun u hu => by rw [List.eq_of_mem_replicate hu]; rfl)
        have hne : k ≠ 0 := by omega
        have hadd : (⟨g, 0, none⟩ : Addr).add n = ⟨g, n, none⟩ := by unfold Addr.add; split <;> simp_all
        have hnm : n * i.size = n := by rw [hsize, Nat.mul_one]
        refine ⟨.slice (some ⟨g, 0, none⟩) (n + k) cap, w.setRow g (cur.toList.take (n + 0) ++ List.replicate k (Value.int .u8 0) ++ cur.toList.drop (n + 0 + (List.replicate k (Value.int .u8 0)).length)).toArray, ?_, ⟨by simp; have := hown.1; omega, .inr ⟨g, cap, _, rfl, hbg, setRow_heap w g cur _ _ _ hg, hroom, hcm, ?_, ?_⟩⟩, ⟨rfl, rfl, rfl, by simp, fun j _ hj => setRow_other w g j _ (fun e => hj (by simp [Value.ownBlock, e]))⟩, .inl rfl⟩
        · simp [Builtin.append_, run_underlying ht, run_underlying htx, sizeOf, typeInfo, zeroValue, hi, hz, asInt, asIntOf, hw, hkk, hmul, hroom, hne, hsize, zero_cells, hadd, hst]
        · simp
          omega
        · simp only [Nat.add_zero, List.length_replicate, Nat.mul_one] at htake ⊢
          rw [htake]
          have hxl : xs.length = n := by have := hown.1; omega
          rw [← hxl, List.append_assoc, ← List.append_assoc]
          rw [List.take_append_of_le_length (by simp)]
          rw [List.take_of_length_le (by simp)]
    · have holds : ∀ j u, xs[j]? = some u → w.drew.cell? ((⟨g, 0, none⟩ : Addr).add j) = some u := hown.cells (g := g) rfl
      have hold := run_firstCells_some (P := Try.prog) w.drew i.size n ⟨g, 0, none⟩ n cap xs (by rw [hsize]; have := hown.1; omega) holds
      have hr := run_append_made (P := Try.prog) w 22 3 ty 5 i _ ht htx hi hz (some ⟨g, 0, none⟩) n cap xs hold k (by omega) (by omega) hk (by omega) (by omega) (by omega) (by rw [hby]; exact growslice_fits (by omega) (by omega))
      have hgr := grown cap (by omega) (Value.ownBlock (.slice (some ⟨g, 0, none⟩) n cap))
      exact ⟨_, _, hr, hgr.1, hgr.2, .inr rfl⟩

end Go.Proofs.Ytiibmlbenamgcaa

namespace Go.Proofs.Ytiibmlbenamgcaa
open Go.RowKit
set_option linter.unusedVariables false

theorem wpList_noughts (w : World) {ops : Array Oper} {rest : List Oper} {o : Oper} {a : Act} {Q : Exit → Act → World → Prop} (hgd : o.guard = none) (s x : Operand)
    (ho : o.op = .call { callee := .builtin .append, args := #[s, x], argTypes := #[22, 3] }) (base : Nat) (v : Value) (n : Nat) (xs : List Value) (hs : a.eval s = v) (hown : w.ownsRow base 5 1 v n xs)
    (k : Nat) (hx : a.eval x = .int .i64 (k : Int)) (hk : k ≤ 1000) (hn : n ≤ 1000) (hbase : base ≤ w.heap.size)
    (h : ∀ v' w', w'.ownsRow base 5 1 v' (n + k) (xs ++ List.replicate k (.int .u8 0)) → w.grownBy w' v.ownBlock → (v'.ownBlock = v.ownBlock ∨ v'.ownBlock = some w.heap.size) → wpList Try.prog ops Q rest (a.put o.dst v') w') : wpList Try.prog ops Q (o :: rest) a w := by
  refine wpList_plain hgd fun K hK => ?_
  obtain ⟨v', w', hr, h2, h3, h4⟩ := run_append_noughts w base o.type v n xs hown k hk hn hbase
  unfold Oper.wp execOp
  simp only [ho, resolve, invoke, builtin, Sem.run_bind, Sem.run_pure, Result.andThen_ok, List.map_toArray, List.map_cons, List.map_nil, hs, hx, hr]
  exact hK _ _ (h v' w' h2 h3 h4)

theorem lit_sz4 (w : World) (b B : Nat) (hb : b = w.heap.size) (hB : w.heap.size < B) : Seq (w.alloc (.cells #[.int .i64 4, .int .i64 1, .int .i64 1, .int .i64 2] 3)) B (some ⟨b, 0, none⟩) (ints .i64 sz4) := lit_row w 3 .i64 sz4 _ b B rfl hb hB

end Go.Proofs.Ytiibmlbenamgcaa

namespace Go.Proofs.Ytiibmlbenamgcaa
open Go.RowKit Go.OpenShut Go.ChangeShapes Go.WideShapes Go.Deep
set_option linter.unusedVariables false

/-- Rows of bytes, as they are read. -/
structure Texts (w : World) (A : Option Addr) (n c : Nat) (zss : List (List Int)) : Prop where
  len : zss.length = n
  cap : n ≤ c
  max : c ≤ maxLen
  byte : ∀ zs ∈ zss, ∀ z ∈ zs, isByte z
  at_ : ∀ i, i < n → ∃ b o Ai ni ci, A = some ⟨b, o, none⟩ ∧ b < w.heap.size ∧ w.cell? ⟨b, o + i, none⟩ = some (.slice Ai ni ci) ∧ Arg w .u8 Ai ni ci (zss.getD i [])
section
variable {w w' : World} {A : Option Addr} {n c : Nat} {zss : List (List Int)}
theorem Texts.below (h : Texts w A n c zss) (hb : Below w.heap.size w w') : Texts w' A n c zss :=
  ⟨h.len, h.cap, h.max, h.byte, fun i hi => by
    obtain ⟨b, o, Ai, ni, ci, e, hlt, hc, ha⟩ := h.at_ i hi
    exact ⟨b, o, Ai, ni, ci, e, Nat.lt_of_lt_of_le hlt hb.size, (hb.cell (p := ⟨b, o + i, none⟩) hlt).trans hc, ha.below hb⟩⟩
theorem Texts.nil (w : World) : Texts w none 0 0 [] := ⟨rfl, Nat.le_refl _, by decide, by simp, fun i hi => by omega⟩
theorem Texts.byte_at (h : Texts w A n c zss) (i : Nat) : ∀ z ∈ zss.getD i [], isByte z := by
  rcases Nat.lt_or_ge i zss.length with hi | hi
  · rw [List.getD_eq_getElem?_getD, List.getElem?_eq_getElem hi]
    exact h.byte _ (List.getElem_mem hi)
  · rw [List.getD_eq_getElem?_getD, List.getElem?_eq_none hi]
    simp
end

/-- Texts of the call's own: the row, and each text, in blocks of their own. -/
def OwnTexts (w : World) (base : Nat) (A : Option Addr) (n c : Nat) (zss : List (List Int)) : Prop :=
  ∃ vs : List Value, w.ownsRow base 22 1 (.slice A n c) n vs ∧ zss.length = n ∧ (∀ zs ∈ zss, ∀ z ∈ zs, isByte z) ∧
    ∀ i, i < n → ∃ Ai ni ci, vs[i]? = some (.slice Ai ni ci) ∧ w.ownsRow base 5 1 (.slice Ai ni ci) ni (ints .u8 (zss.getD i []))

theorem Texts.of_own {w : World} {base : Nat} {A : Option Addr} {n c : Nat} {zss : List (List Int)} (h : OwnTexts w base A n c zss) : Texts w A n c zss := by
  obtain ⟨vs, hown, hl, hb, hin⟩ := h
  refine ⟨hl, ?_, ?_, hb, fun i hi => ?_⟩
  · rcases hown.2 with ⟨e, h0⟩ | ⟨g, cap, cur, e, _, _, h1, h2, _⟩ <;> cases e
    · exact Nat.le_refl _
    · exact h1
  · rcases hown.2 with ⟨e, h0⟩ | ⟨g, cap, cur, e, _, _, h1, h2, _⟩ <;> cases e
    · decide
    · exact h2
  · obtain ⟨Ai, ni, ci, hv, ho⟩ := hin i hi
    obtain ⟨b, o, e, hlt, hc⟩ := Seq.own hown i _ hv
    exact ⟨b, o, Ai, ni, ci, e, hlt, hc, Arg.own ho⟩
section
variable {w w' : World} {base base' : Nat} {A : Option Addr} {n c : Nat} {zss : List (List Int)}
theorem OwnTexts.below (h : OwnTexts w base A n c zss) (hb : Below w.heap.size w w') : OwnTexts w' base A n c zss := by
  obtain ⟨vs, hown, hl, hby, hin⟩ := h
  refine ⟨vs, owns_below hown hb, hl, hby, fun i hi => ?_⟩
  obtain ⟨Ai, ni, ci, hv, ho⟩ := hin i hi
  exact ⟨Ai, ni, ci, hv, owns_below ho hb⟩
theorem OwnTexts.lower (h : OwnTexts w base A n c zss) (hb : base' ≤ base) : OwnTexts w base' A n c zss := by
  obtain ⟨vs, hown, hl, hby, hin⟩ := h
  refine ⟨vs, owns_base hown hb, hl, hby, fun i hi => ?_⟩
  obtain ⟨Ai, ni, ci, hv, ho⟩ := hin i hi
  exact ⟨Ai, ni, ci, hv, owns_base ho hb⟩
theorem OwnTexts.nil (w : World) (base : Nat) : OwnTexts w base none 0 0 [] := ⟨[], World.ownsRow_nil _ _ _ _, rfl, by simp, fun i hi => by omega⟩
/-- Rows of different elements lie in different blocks. -/
theorem owns_other {e e' : TypeId} (he : e ≠ e') {b b' : Nat} {v v' : Value} {k k' s s' : Nat} {xs xs' : List Value} (h : w.ownsRow b e s v k xs) (h' : w.ownsRow b' e' s' v' k' xs') : v.ownBlock = none ∨ v.ownBlock ≠ v'.ownBlock := by
  rcases h.2 with ⟨rfl, _⟩ | ⟨g, cap, cur, rfl, _, hg, _⟩
  · exact .inl rfl
  rcases h'.2 with ⟨rfl, _⟩ | ⟨g', cap', cur', rfl, _, hg', _⟩
  · exact .inr (by simp [Value.ownBlock])
  · refine .inr fun e2 => ?_
    have e3 : g = g' := by simpa [Value.ownBlock] using e2
    rw [e3, hg'] at hg
    simp at hg
    exact he hg.2.symm
end

/-- They stay where a block below them turns. -/
theorem OwnTexts.kept {w w' : World} {base : Nat} {A : Option Addr} {n c : Nat} {zss : List (List Int)} (h : OwnTexts w base A n c zss) {row : Option Nat} (hg : w.grownBy w' row) (hr : ∀ g, row = some g → g < base) : OwnTexts w' base A n c zss := by
  have hk : ∀ {e : TypeId} {v : Value} {k : Nat} {xs : List Value}, w.ownsRow base e 1 v k xs → w'.ownsRow base e 1 v k xs := fun {e v k xs} hx => hx.kept hg (by
    rcases hy : v.ownBlock with _ | gc
    · exact .inl rfl
    · refine .inr (fun e2 => ?_)
      have h1 := (hx.lt gc hy).1
      have h2 := hr gc e2.symm
      omega)
  obtain ⟨vs, hown, hl, hby, hin⟩ := h
  refine ⟨vs, hk hown, hl, hby, fun i hi => ?_⟩
  obtain ⟨Ai, ni, ci, hv, ho⟩ := hin i hi
  exact ⟨Ai, ni, ci, hv, hk ho⟩

theorem OwnTexts.away {w : World} {base : Nat} {A : Option Addr} {n c : Nat} {zss : List (List Int)} (h : OwnTexts w base A n c zss) {g : Nat} (hg : g < base) (i : Nat) (u : Value) : OwnTexts (w.setCell ⟨g, i, none⟩ u) base A n c zss :=
  h.kept (grownBy_set w g i u) (fun _ e => by injection e with e; omega)
theorem owns_box {w : World} {e t : TypeId} {base g : Nat} {v : Value} {k i : Nat} {u : Value} {xs cs : List Value} (h : w.ownsRow base e 1 v k xs) (hb : Blk w g t cs) (ht : t ≠ e) : (w.setCell ⟨g, i, none⟩ u).ownsRow base e 1 v k xs := by
  refine h.kept (grownBy_set w g i u) ?_
  rcases h.2 with ⟨rfl, _⟩ | ⟨g', cap, cur, rfl, _, hg, _⟩
  · exact .inl rfl
  · refine .inr fun e2 => ?_
    have e3 : g' = g := by simpa [Value.ownBlock] using e2
    unfold Blk at hb
    rw [e3, hb] at hg
    simp at hg
    exact ht hg.2
/-- They stay where a box of another type is written. -/
theorem OwnTexts.box {w : World} {base : Nat} {A : Option Addr} {n c : Nat} {zss : List (List Int)} (h : OwnTexts w base A n c zss) {g : Nat} {t : TypeId} {cs : List Value} (hb : Blk w g t cs) (h1 : t ≠ 22) (h2 : t ≠ 5) (i : Nat) (u : Value) : OwnTexts (w.setCell ⟨g, i, none⟩ u) base A n c zss := by
  obtain ⟨vs, hown, hl, hby, hin⟩ := h
  refine ⟨vs, owns_box hown hb h1, hl, hby, fun i hi => ?_⟩
  obtain ⟨Ai, ni, ci, hv, ho⟩ := hin i hi
  exact ⟨Ai, ni, ci, hv, owns_box ho hb h2⟩
theorem OwnTexts.block {w : World} {base : Nat} {A : Option Addr} {n c : Nat} {zss : List (List Int)} (h : OwnTexts w base A n c zss) (hn : 0 < n) : ∃ g, A = some ⟨g, 0, none⟩ ∧ base ≤ g ∧ g < w.heap.size := by
  obtain ⟨vs, hown, _⟩ := h
  rcases hown.2 with ⟨_, h0⟩ | ⟨g, cap, cur, e, hb, hg, _⟩
  · omega
  · cases e
    exact ⟨g, rfl, hb, (Array.getElem?_eq_some_iff.1 hg).1⟩
/-- A block of three cells written whole. -/
theorem OwnTexts.three {w : World} {base : Nat} {A : Option Addr} {n c : Nat} {zss : List (List Int)} (h : OwnTexts w base A n c zss) {g : Nat} {t : TypeId} {cs : List Value} (hb : Blk w g t cs) (h1 : t ≠ 22) (h2 : t ≠ 5) (x y z : Value) :
    OwnTexts (((w.setCell ⟨g, 0, none⟩ x).setCell ⟨g, 1, none⟩ y).setCell ⟨g, 2, none⟩ z) base A n c zss :=
  ((h.box hb h1 h2 0 x).box (hb.set 0 x) h1 h2 1 y).box ((hb.set 0 x).set 1 y) h1 h2 2 z
theorem below_three {B : Nat} {w0 w : World} (h : Below B w0 w) {g : Nat} (hg : B ≤ g) (x y z : Value) : Below B w0 (((w.setCell ⟨g, 0, none⟩ x).setCell ⟨g, 1, none⟩ y).setCell ⟨g, 2, none⟩ z) :=
  ((h.setCell (p := ⟨g, 0, none⟩) hg x).setCell (p := ⟨g, 1, none⟩) hg y).setCell (p := ⟨g, 2, none⟩) hg z

theorem texts_info : (Try.prog.info? 22).map (fun i => (i.zero, i.size, i.bytes)) = some (some (.slice none 0 0), 1, 24) := by kernel_rfl

/-- One text of the call's own put in the place of another. -/
theorem OwnTexts.set {w : World} {base : Nat} {A : Option Addr} {n c : Nat} {zss : List (List Int)} (h : OwnTexts w base A n c zss) {i : Nat} (hi : i < n) {Ai : Option Addr} {ni ci : Nat} {zs : List Int} (hz : ∀ z ∈ zs, isByte z)
    (ho : w.ownsRow base 5 1 (.slice Ai ni ci) ni (ints .u8 zs)) :
    ∃ g v, A = some ⟨g, 0, none⟩ ∧ base ≤ g ∧ w.cell? ⟨g, i, none⟩ = some v ∧ w.frozen? ⟨g, i, none⟩ = false ∧ OwnTexts (w.setCell ⟨g, i, none⟩ (.slice Ai ni ci)) base A n c (zss.set i zs) := by
  obtain ⟨vs, hown, hl, hby, hin⟩ := h
  obtain ⟨g, v, rfl, hbg, hc, hf, hset⟩ := owns_at hown hi
  have hvl : vs.length = n := by have := hown.1; omega
  refine ⟨g, v, rfl, hbg, hc, hf, vs.set i (.slice Ai ni ci), hset _, by rw [List.length_set]; exact hl, ?_, fun j hj => ?_⟩
  · intro y hy z hzz
    rcases List.mem_or_eq_of_mem_set hy with hy | rfl
    · exact hby y hy z hzz
    · exact hz z hzz
  · have hkeep : ∀ {A' : Option Addr} {n' c' : Nat} {xs : List Value}, w.ownsRow base 5 1 (.slice A' n' c') n' xs → (w.setCell ⟨g, i, none⟩ (.slice Ai ni ci)).ownsRow base 5 1 (.slice A' n' c') n' xs := fun hx =>
      hx.kept (grownBy_set w g i _) (by
        have := owns_other (by decide) hx hown
        simpa [Value.ownBlock] using this)
    by_cases e : i = j
    · subst e
      refine ⟨Ai, ni, ci, by rw [List.getElem?_set_self (by omega)], ?_⟩
      have e2 : (zss.set i zs).getD i [] = zs := by simp [List.getD_eq_getElem?_getD, show i < zss.length by omega]
      rw [e2]
      exact hkeep ho
    · obtain ⟨Aj, nj, cj, hv, hoj⟩ := hin j hj
      refine ⟨Aj, nj, cj, by rw [List.getElem?_set_ne e]; exact hv, ?_⟩
      have e2 : (zss.set i zs).getD j [] = zss.getD j [] := by simp [List.getD_eq_getElem?_getD, List.getElem?_set_ne e]
      rw [e2]
      exact hkeep hoj

/-- One text more behind the others: what the append law hands back. -/
theorem OwnTexts.snoc {w w' : World} {base : Nat} {A A' Ai : Option Addr} {n c c' ni ci : Nat} {zss : List (List Int)} {zs : List Int} {vs : List Value} (hown0 : w.ownsRow base 22 1 (.slice A n c) n vs) (hl : zss.length = n) (hby : ∀ zs ∈ zss, ∀ z ∈ zs, isByte z)
    (hin : ∀ i, i < n → ∃ Ai ni ci, vs[i]? = some (.slice Ai ni ci) ∧ w.ownsRow base 5 1 (.slice Ai ni ci) ni (ints .u8 (zss.getD i []))) (hz : ∀ z ∈ zs, isByte z)
    (ho : w.ownsRow base 5 1 (.slice Ai ni ci) ni (ints .u8 zs)) (hg : w.grownBy w' (Value.slice A n c).ownBlock)
    (hown : w'.ownsRow base 22 1 (.slice A' (n + 1) c') (n + 1) (vs ++ [.slice Ai ni ci])) : OwnTexts w' base A' (n + 1) c' (zss ++ [zs]) := by
  have hvl : vs.length = n := by have := hown0.1; omega
  have hkeep : ∀ {A' : Option Addr} {n' c' : Nat} {xs : List Value}, w.ownsRow base 5 1 (.slice A' n' c') n' xs → w'.ownsRow base 5 1 (.slice A' n' c') n' xs := fun hx =>
    hx.kept hg (owns_other (by decide) hx hown0)
  refine ⟨_, hown, by simp [hl], ?_, fun j hj => ?_⟩
  · intro y hy z hzz
    rcases List.mem_append.1 hy with hy | hy
    · exact hby y hy z hzz
    · rw [List.mem_singleton] at hy
      subst hy
      exact hz z hzz
  · by_cases e : j = n
    · subst e
      refine ⟨Ai, ni, ci, by rw [List.getElem?_append_right (by omega)]; simp [hvl], ?_⟩
      have e2 : (zss ++ [zs]).getD j [] = zs := by simp [List.getD_eq_getElem?_getD, hl]
      rw [e2]
      exact hkeep ho
    · obtain ⟨Aj, nj, cj, hv, hoj⟩ := hin j (by omega)
      refine ⟨Aj, nj, cj, by rw [List.getElem?_append_left (by omega)]; exact hv, ?_⟩
      have e2 : (zss ++ [zs]).getD j [] = zss.getD j [] := by simp [List.getD_eq_getElem?_getD, List.getElem?_append_left (show j < zss.length by omega)]
      rw [e2]
      exact hkeep hoj

/-- append(out, t): texts of the call's own, and one text of the call's own behind them. -/
theorem run_text {P : Program} (w0 w : World) (t ty : TypeId) (i : TypeInfo) (z : Value) (ht : P.underlying t = some (.slice 22)) (hi : P.info? 22 = some i) (hz : i.zero = some z)
    (hsize : i.size = 1) (hby : i.bytes = 24) (hzs : z.cells.size = 1) (base : Nat) (A0 : Option Addr) (n c0 : Nat) (zss : List (List Int)) (hown : OwnTexts w base A0 n c0 zss)
    (Ai : Option Addr) (ni ci : Nat) (zs : List Int) (hb : ∀ z ∈ zs, isByte z) (hoi : w.ownsRow base 5 1 (.slice Ai ni ci) ni (ints .u8 zs))
    (h63 : n + 1 ≤ maxLen) (hbytes : (n + 1) * 24 ≤ 140737488355328) (hbel : Below base w0 w) (hw0 : base ≤ w0.heap.size) :
    ∃ A' c' w', (Builtin.append_ #[t, t] ty #[.slice A0 n c0, .slice (some ⟨w.heap.size, 0, none⟩) 1 1]).run P (w.alloc (.cells #[.slice Ai ni ci] 22)) = .ok (.slice A' (n + 1) c') w' ∧ OwnTexts w' base A' (n + 1) c' (zss ++ [zs]) ∧ Below base w0 w' := by
  obtain ⟨vs, hv, hl, hby2, hin⟩ := hown
  have hb1 : Below w.heap.size w (w.alloc (.cells #[.slice Ai ni ci] 22)) := (Below.refl _ _).alloc (Nat.le_refl _) _
  have hbase : base ≤ w.heap.size := Nat.le_trans hw0 hbel.size
  have hseq : Seq (w.alloc (.cells #[.slice Ai ni ci] 22)) (w.heap.size + 1) (some ⟨w.heap.size, 0, none⟩) [.slice Ai ni ci] := by
    have h := (Blk.new w 22 [.slice Ai ni ci]).seq 0 1
    exact h
  obtain ⟨v', w', hrun, hown', hg, _⟩ := run_app (P := P) (w.alloc (.cells #[.slice Ai ni ci] 22)) base t ty 22 i z 24 ht hi hz hsize hby hzs _ n vs (hv.allocated _) _ _ 1 1 [.slice Ai ni ci] rfl hseq (by simp [Value.oneCell']) h63 hbytes (by simp; omega)
  obtain ⟨A', c', rfl⟩ := owns_slice hown'
  have hfin : OwnTexts w' base A' (n + 1) c' (zss ++ [zs]) := OwnTexts.snoc (hv.allocated _) hl hby2 (fun i hi => by
    obtain ⟨Aj, nj, cj, e, hj⟩ := hin i hi
    exact ⟨Aj, nj, cj, e, hj.allocated _⟩) hb (hoi.allocated _) hg hown'
  exact ⟨A', c', w', hrun, hfin, (hbel.alloc hbase _).grown hg (by simp; omega) (fun g e => (hv.lt g e).1)⟩

/-- append(out, t), guarded or not. -/
theorem wpList_text {P : Program} (w0 w : World) {ops : Array Oper} {rest : List Oper} {o : Oper} {a : Act} {Q : Exit → Act → World → Prop} (hw : Region.wanted o (yielded ops a.tmps) = true) (s x : Operand) (t : TypeId)
    (ho : o.op = .call { callee := .builtin .append, args := #[s, x], argTypes := #[t, t] }) (i : TypeInfo) (z : Value) (ht : P.underlying t = some (.slice 22)) (hi : P.info? 22 = some i) (hz : i.zero = some z)
    (hsize : i.size = 1) (hby : i.bytes = 24) (hzs : z.cells.size = 1) (base : Nat) (A0 : Option Addr) (n c0 : Nat) (zss : List (List Int)) (hs : a.eval s = .slice A0 n c0) (hown : OwnTexts w base A0 n c0 zss)
    (Ai : Option Addr) (ni ci : Nat) (zs : List Int) (hb : ∀ z ∈ zs, isByte z) (hoi : w.ownsRow base 5 1 (.slice Ai ni ci) ni (ints .u8 zs)) (hx : a.eval x = .slice (some ⟨w.heap.size, 0, none⟩) 1 1)
    (h63 : n + 1 ≤ maxLen) (hbytes : (n + 1) * 24 ≤ 140737488355328) (hbel : Below base w0 w) (hw0 : base ≤ w0.heap.size)
    (h : ∀ A' c' w', OwnTexts w' base A' (n + 1) c' (zss ++ [zs]) → Below base w0 w' → wpList P ops Q rest (a.put o.dst (.slice A' (n + 1) c')) w') : wpList P ops Q (o :: rest) a (w.alloc (.cells #[.slice Ai ni ci] 22)) := by
  refine wpList_want hw fun K hK => ?_
  obtain ⟨A', c', w', hrun, h2, h3⟩ := run_text (P := P) w0 w t o.type i z ht hi hz hsize hby hzs base A0 n c0 zss hown Ai ni ci zs hb hoi h63 hbytes hbel hw0
  unfold Oper.wp execOp
  simp only [ho, resolve, invoke, builtin, Sem.run_bind, Sem.run_pure, Result.andThen_ok, List.map_toArray, List.map_cons, List.map_nil, hs, hx, hrun]
  exact hK _ _ (h A' c' w' h2 h3)

end Go.Proofs.Ytiibmlbenamgcaa

namespace Go.Proofs.Ytiibmlbenamgcaa
open Go.RowKit
set_option linter.unusedVariables false

/-- A piece of a row. -/
theorem Arg.piece {w : World} {k : IntKind} {g o n c lo hi : Nat} {zs : List Int} (h : Arg w k (some ⟨g, o, none⟩) n c zs) (h1 : lo ≤ hi) (h2 : hi ≤ n) : Arg w k (some ⟨g, o + lo, none⟩) (hi - lo) (c - lo) ((zs.drop lo).take (hi - lo)) := by
  refine ⟨?_, by rw [List.length_take, List.length_drop, h.len]; omega, by have := h.cap; omega, by have := h.max; omega⟩
  have hs : ints k ((zs.drop lo).take (hi - lo)) = ((ints k zs).drop lo).take (hi - lo) := by simp [ints, List.map_take, List.map_drop]
  rw [hs]
  exact (h.seq.drop lo).take _
theorem chunk_piece {b : Txt} {k lo hi : Nat} (h1 : lo = min (24 * k) b.length) (h2 : hi = min (lo + 24) b.length) : (b.drop lo).take (hi - lo) = chunk b k := by
  unfold chunk
  rcases Nat.le_total (24 * k) b.length with h | h
  · rw [Nat.min_eq_left h] at h1
    subst h1
    rcases Nat.le_total (24 * k + 24) b.length with h3 | h3
    · rw [Nat.min_eq_left h3] at h2
      rw [h2, Nat.add_sub_cancel_left]
    · rw [Nat.min_eq_right h3] at h2
      rw [List.take_of_length_le (by rw [List.length_drop]; omega), List.take_of_length_le (by rw [List.length_drop]; omega)]
  · rw [Nat.min_eq_right h] at h1
    subst h1
    rw [List.drop_of_length_le (Nat.le_refl _), List.drop_of_length_le h]
    simp
theorem textsOf_take (v : Int) (b : Txt) {m k : Nat} (h : k ≤ m) : (textsOf v b m).take k = textsOf v b k := by
  unfold textsOf
  rw [← List.map_take, List.take_range, Nat.min_eq_left h]
theorem textsOf_succ (v : Int) (b : Txt) (k : Nat) : textsOf v b (k + 1) = textsOf v b k ++ [partT v k (chunk b k)] := by
  unfold textsOf
  rw [List.range_succ, List.map_append]
  rfl

end Go.Proofs.Ytiibmlbenamgcaa

namespace Go.Proofs.Ytiibmlbenamgcaa
set_option linter.unusedVariables false

/-- The parts of a slot that holds something: whose texts they are. -/
theorem held_parts {l : List (Option Txt)} : ∀ (k : Nat) (ps : List Prt), heldTo l k = some ps → ∀ i, i < k → ∃ T, l.getD i none = some T ∧ verOf T ≠ 0 ∧ manyOf T ≤ 24 ∧ T = partT (verOf T) i (partB T) ∧ ps.getD i (0, []) = (verOf T, partB T) := by
  intro k
  induction k with
  | zero => intro ps _ i hi; omega
  | succ k ih =>
    intro ps h i hi
    rw [heldTo] at h
    rcases h1 : heldTo l k with _ | qs
    · rw [h1] at h; cases h
    · rw [h1] at h
      dsimp only at h
      rcases h2 : partO k (l.getD k none) with _ | p
      · rw [h2] at h; cases h
      · rw [h2] at h
        dsimp only at h
        split at h
        · injection h with h
          subst h
          have hl := (heldTo_small h1).1
          rcases Nat.lt_or_ge i k with hik | hik
          · obtain ⟨T, e1, e2, e3, e4, e5⟩ := ih qs h1 i hik
            refine ⟨T, e1, e2, e3, e4, ?_⟩
            rw [← e5, List.getD_eq_getElem?_getD, List.getD_eq_getElem?_getD, List.getElem?_append_left (by omega)]
          · obtain rfl : i = k := by omega
            rcases h3 : l.getD i none with _ | T
            · rw [h3] at h2; cases h2
            · rw [h3] at h2
              unfold partO at h2
              dsimp only at h2
              split at h2
              · rename_i hok
                injection h2 with h2
                subst h2
                unfold partOk at hok
                simp only [Bool.and_eq_true, decide_eq_true_eq] at hok
                refine ⟨T, rfl, hok.1.1, hok.1.2, hok.2, ?_⟩
                rw [List.getD_eq_getElem?_getD, List.getElem?_append_right (by omega), hl]
                simp
              · cases h2
        · cases h
theorem chunk_app {b c : Txt} {k i : Nat} (h : b.length = 24 * k) (hi : i < k) : chunk (b ++ c) i = chunk b i := by
  unfold chunk
  rw [List.drop_append_of_le_length (by omega), List.take_append_of_le_length (by rw [List.length_drop]; omega)]
theorem chunk_last {b c : Txt} {k : Nat} (h : b.length = 24 * k) (hc : c.length ≤ 24) : chunk (b ++ c) k = c := by
  unfold chunk
  rw [← h, List.drop_left, List.take_of_length_le hc]
/-- Its bytes, cut into parts, are the parts' bytes. -/
theorem held_chunks {l : List (Option Txt)} : ∀ (k : Nat) (ps : List Prt), heldTo l k = some ps →
    (joinB ps).length ≤ 24 * k ∧ (∀ i, i < k → chunk (joinB ps) i = (ps.getD i (0, [])).2) ∧ ((joinB ps).length = 24 * k ∨ (0 < k ∧ (ps.getD (k - 1) (0, [])).2.length < 24)) := by
  intro k
  induction k with
  | zero =>
    intro ps h
    rw [heldTo] at h
    injection h with h
    subst h
    exact ⟨Nat.le_refl _, fun i hi => by omega, .inl rfl⟩
  | succ k ih =>
    intro ps h
    have hall := (heldTo_small h).2
    rw [heldTo] at h
    rcases h1 : heldTo l k with _ | qs
    · rw [h1] at h; cases h
    · rw [h1] at h
      dsimp only at h
      rcases h2 : partO k (l.getD k none) with _ | p
      · rw [h2] at h; cases h
      · rw [h2] at h
        dsimp only at h
        split at h
        · rename_i hf
          injection h with h
          subst h
          have hl := (heldTo_small h1).1
          obtain ⟨g1, g2, g3⟩ := ih qs h1
          have hp24 : p.2.length ≤ 24 := hall p (by simp)
          have hlast : (qs ++ [p]).getD (k + 1 - 1) (0, []) = p := by rw [Nat.add_sub_cancel, List.getD_eq_getElem?_getD, List.getElem?_append_right (by omega), hl]; simp
          have hget : ∀ i, i < k → (qs ++ [p]).getD i (0, []) = qs.getD i (0, []) := fun i hi => by rw [List.getD_eq_getElem?_getD, List.getD_eq_getElem?_getD, List.getElem?_append_left (by omega)]
          have hk : (qs ++ [p]).getD k (0, []) = p := by rw [List.getD_eq_getElem?_getD, List.getElem?_append_right (by omega), hl]; simp
          rw [joinB_snoc, hlast]
          rcases g3 with g3 | ⟨g3, g4⟩
          · refine ⟨by rw [List.length_append]; omega, fun i hi => ?_, ?_⟩
            · rcases Nat.lt_or_ge i k with hik | hik
              · rw [chunk_app g3 hik, hget i hik]; exact g2 i hik
              · obtain rfl : i = k := by omega
                rw [chunk_last g3 hp24, hk]
            · rw [List.length_append]
              rcases Nat.lt_or_ge p.2.length 24 with h | h
              · exact .inr ⟨Nat.succ_pos _, h⟩
              · exact .inl (by omega)
          · have hp0 : p.2 = [] := by
              rcases hf with hf | hf
              · omega
              · rcases hf.2 with h | h
                · exact List.eq_nil_of_length_eq_zero h
                · omega
            rw [hp0, List.append_nil]
            refine ⟨by omega, fun i hi => ?_, .inr ⟨Nat.succ_pos _, by simp⟩⟩
            rcases Nat.lt_or_ge i k with hik | hik
            · rw [hget i hik]; exact g2 i hik
            · obtain rfl : i = k := by omega
              rw [hk, hp0]
              unfold chunk
              rw [List.drop_of_length_le (by omega)]
              rfl
        · cases h

/-- The texts of sectors, and the bytes that they tell. -/
def tsF (f : Nat → Txt) (k : Nat) : List Txt := (List.range k).map f
def acF (f : Nat → Txt) (k : Nat) : Txt := ((List.range k).map fun i => partB (f i)).flatten
theorem tsF_len (f : Nat → Txt) (k : Nat) : (tsF f k).length = k := by simp [tsF]
theorem tsF_get (f : Nat → Txt) {k i : Nat} (h : i < k) : (tsF f k).getD i [] = f i := range_get f [] h
theorem tsF_succ (f : Nat → Txt) (k : Nat) : tsF f (k + 1) = tsF f k ++ [f k] := by unfold tsF; rw [List.range_succ, List.map_append]; rfl
theorem acF_succ (f : Nat → Txt) (k : Nat) : acF f (k + 1) = acF f k ++ partB (f k) := by unfold acF; rw [List.range_succ, List.map_append, List.flatten_append]; simp
theorem acF_byte {f : Nat → Txt} {k : Nat} (h : ∀ i, i < k → ∀ z ∈ f i, isByte z) : ∀ z ∈ acF f k, isByte z := by
  intro z hz
  unfold acF at hz
  obtain ⟨t, ht, hz⟩ := List.mem_flatten.1 hz
  obtain ⟨i, hi, rfl⟩ := List.mem_map.1 ht
  exact partB_byte (h i (List.mem_range.1 hi)) z hz
theorem acF_len {f : Nat → Txt} : ∀ k, (∀ i, i < k → (partB (f i)).length ≤ 24) → (acF f k).length ≤ 24 * k
  | 0, _ => by simp [acF]
  | k + 1, h => by
    rw [acF_succ, List.length_append]
    have := acF_len k fun i hi => h i (by omega)
    have := h k (by omega)
    omega
theorem joinB_acF {f : Nat → Txt} {ps : List Prt} {k : Nat} (hl : ps.length = k) (h : ∀ i, i < k → (ps.getD i (0, [])).2 = partB (f i)) : joinB ps = acF f k := by
  unfold joinB acF
  congr 1
  refine list_eq (d := []) (by simp [hl]) (by simp) (n := k) fun i hi => ?_
  rw [range_get _ _ hi, ← h i hi, List.getD_eq_getElem?_getD, List.getElem?_map, List.getD_eq_getElem?_getD, List.getElem?_eq_getElem (by omega)]
  simp

/-- A slot of which a sector can't be read, or tells too many bytes, holds nothing. -/
theorem slot_bad {l : List (Option Txt)} {k : Nat} (hk : k < l.length) (h : l.getD k none = none ∨ ∃ T, l.getD k none = some T ∧ 24 < manyOf T) : slotV l = 0 := by
  unfold slotV
  rcases h1 : heldTo l l.length with _ | ps
  · rfl
  · exfalso
    obtain ⟨T, e1, e2, e3, _⟩ := held_parts _ _ h1 k hk
    rcases h with h | ⟨U, h, h2⟩
    · rw [h] at e1; cases e1
    · rw [h] at e1; injection e1 with e1; subst e1; omega
/-- A slot holds the bytes that its sectors tell, of the first one's version, if these are the texts of all their parts; else nothing. -/
theorem slot_all {l : List (Option Txt)} {f : Nat → Txt} {m : Nat} (hm : 1 ≤ m) (hl : l.length = m) (hf : ∀ i, i < m → l.getD i none = some (f i)) (hs : ∀ i, i < m → (f i).length = 32 ∧ ∀ z ∈ f i, isByte z) (h24 : ∀ i, i < m → manyOf (f i) ≤ 24) :
    ((∀ i, i < m → f i = partT (verOf (f 0)) i (chunk (acF f m) i)) → slotV l = verOf (f 0) ∧ (slotV l ≠ 0 → acF f m = slotB l)) ∧ ((∃ i, i < m ∧ f i ≠ partT (verOf (f 0)) i (chunk (acF f m) i)) → slotV l = 0) := by
  have hlen : ∀ i, i < m → (partB (f i)).length ≤ 24 := fun i hi => by
    have := partB_length (hs i hi).1 (hs i hi).2 (h24 i hi)
    have := h24 i hi
    omega
  have hv := ver_bounds (t := f 0) (by rw [(hs 0 (by omega)).1]; omega) (hs 0 (by omega)).2
  constructor
  · intro hall
    by_cases h0 : verOf (f 0) = 0
    · have hz : slotV l = 0 := by
        unfold slotV
        rcases h1 : heldTo l l.length with _ | ps
        · rfl
        · exfalso
          obtain ⟨T, e1, e2, _⟩ := held_parts _ _ h1 0 (by omega)
          rw [hf 0 (by omega)] at e1
          injection e1 with e1
          subst e1
          exact e2 h0
      exact ⟨by rw [hz, h0], fun h => absurd hz h⟩
    · obtain ⟨e1, e2⟩ := slot_new (l := l) (v := verOf (f 0)) (b := acF f m) (m := m) ⟨by omega, hv.2⟩ hm hl (acF_len m hlen) (fun i hi => by rw [hf i hi, ← hall i hi])
      exact ⟨e1, fun _ => e2.symm⟩
  · rintro ⟨i, hi, hne⟩
    unfold slotV
    rcases h1 : heldTo l l.length with _ | ps
    · rfl
    · exfalso
      rw [hl] at h1
      have hps := (heldTo_small h1).1
      have hp := held_parts _ _ h1
      obtain ⟨_, hc, _⟩ := held_chunks _ _ h1
      have hpi : ∀ j, j < m → ps.getD j (0, []) = (verOf (f j), partB (f j)) ∧ f j = partT (verOf (f j)) j (partB (f j)) := fun j hj => by
        obtain ⟨T, e1, e2, e3, e4, e5⟩ := hp j hj
        rw [hf j hj] at e1
        injection e1 with e1
        subst e1
        exact ⟨e5, e4⟩
      have hj : joinB ps = acF f m := joinB_acF hps fun j hj => by rw [(hpi j hj).1]
      obtain ⟨U, u1, u2⟩ := held_one _ _ h1 i hi
      obtain ⟨Z, z1, z2⟩ := held_one _ _ h1 0 (by omega)
      rw [hf i hi] at u1
      injection u1 with u1
      subst u1
      rw [hf 0 (by omega)] at z1
      injection z1 with z1
      subst z1
      refine hne ?_
      have e1 := (hpi i hi).2
      have e2 := hc i hi
      rw [hj, (hpi i hi).1] at e2
      rw [z2, ← u2, e2]
      exact e1

end Go.Proofs.Ytiibmlbenamgcaa

namespace Go.Proofs.Ytiibmlbenamgcaa
open Go.RowKit
set_option linter.unusedVariables false

/-- Texts of the call's own, none of which lies in that block. -/
def RowsBut (w : World) (base : Nat) (A : Option Addr) (n c : Nat) (zss : List (List Int)) (row : Option Nat) : Prop :=
  ∃ vs : List Value, w.ownsRow base 22 1 (.slice A n c) n vs ∧ zss.length = n ∧ (∀ zs ∈ zss, ∀ z ∈ zs, isByte z) ∧
    ∀ i, i < n → ∃ Ai ni ci, vs[i]? = some (.slice Ai ni ci) ∧ w.ownsRow base 5 1 (.slice Ai ni ci) ni (ints .u8 (zss.getD i [])) ∧ ((Value.slice Ai ni ci).ownBlock = none ∨ (Value.slice Ai ni ci).ownBlock ≠ row)
theorem RowsBut.own {w : World} {base : Nat} {A : Option Addr} {n c : Nat} {zss : List (List Int)} {row : Option Nat} (h : RowsBut w base A n c zss row) : OwnTexts w base A n c zss := by
  obtain ⟨vs, h1, h2, h3, h4⟩ := h
  exact ⟨vs, h1, h2, h3, fun i hi => by obtain ⟨a, b, c, e, o, _⟩ := h4 i hi; exact ⟨a, b, c, e, o⟩⟩
theorem RowsBut.nil (w : World) (base : Nat) (row : Option Nat) : RowsBut w base none 0 0 [] row := ⟨[], World.ownsRow_nil _ _ _ _, rfl, by simp, fun i hi => by omega⟩
theorem RowsBut.below {w w' : World} {base : Nat} {A : Option Addr} {n c : Nat} {zss : List (List Int)} {row : Option Nat} (h : RowsBut w base A n c zss row) (hb : Below w.heap.size w w') : RowsBut w' base A n c zss row := by
  obtain ⟨vs, h1, h2, h3, h4⟩ := h
  exact ⟨vs, owns_below h1 hb, h2, h3, fun i hi => by obtain ⟨a, b, c, e, o, r⟩ := h4 i hi; exact ⟨a, b, c, e, owns_below o hb, r⟩⟩
/-- The bytes grow. -/
theorem RowsBut.grown {w w' : World} {base : Nat} {A B B' : Option Addr} {n c m k k' c' : Nat} {zss : List (List Int)} {xs : List Value} (h : RowsBut w base A n c zss (Value.slice B m k).ownBlock) (hb : w.ownsRow base 5 1 (.slice B m k) m xs)
    (hg : w.grownBy w' (Value.slice B m k).ownBlock) (ho : (Value.slice B' k' c').ownBlock = (Value.slice B m k).ownBlock ∨ (Value.slice B' k' c').ownBlock = some w.heap.size) : RowsBut w' base A n c zss (Value.slice B' k' c').ownBlock := by
  obtain ⟨vs, h1, h2, h3, h4⟩ := h
  refine ⟨vs, h1.kept hg (owns_other (by decide) h1 hb), h2, h3, fun i hi => ?_⟩
  obtain ⟨a, b, d, e, o, r⟩ := h4 i hi
  refine ⟨a, b, d, e, o.kept hg r, ?_⟩
  rcases ho with ho | ho
  · rw [ho]; exact r
  · rw [ho]
    rcases o.2 with ⟨e2, _⟩ | ⟨g, cap, cur, e2, _, hg2, _⟩ <;> cases e2
    · exact .inl rfl
    · refine .inr fun e3 => ?_
      have e4 : g = w.heap.size := by simpa [Value.ownBlock] using e3
      have := (Array.getElem?_eq_some_iff.1 hg2).1
      omega
/-- One text more. -/
theorem run_rows {P : Program} (w0 w : World) (t ty : TypeId) (i : TypeInfo) (z : Value) (ht : P.underlying t = some (.slice 22)) (hi : P.info? 22 = some i) (hz : i.zero = some z)
    (hsize : i.size = 1) (hby : i.bytes = 24) (hzs : z.cells.size = 1) (base : Nat) (A0 : Option Addr) (n c0 : Nat) (zss : List (List Int)) (row : Option Nat) (hown : RowsBut w base A0 n c0 zss row)
    (Ai : Option Addr) (ni ci : Nat) (zs : List Int) (hb : ∀ z ∈ zs, isByte z) (hoi : w.ownsRow base 5 1 (.slice Ai ni ci) ni (ints .u8 zs)) (hrow : (Value.slice Ai ni ci).ownBlock = none ∨ (Value.slice Ai ni ci).ownBlock ≠ row)
    (h63 : n + 1 ≤ maxLen) (hbytes : (n + 1) * 24 ≤ 140737488355328) (hbel : Below base w0 w) (hw0 : base ≤ w0.heap.size) :
    ∃ A' c' w', (Builtin.append_ #[t, t] ty #[.slice A0 n c0, .slice (some ⟨w.heap.size, 0, none⟩) 1 1]).run P (w.alloc (.cells #[.slice Ai ni ci] 22)) = .ok (.slice A' (n + 1) c') w' ∧ RowsBut w' base A' (n + 1) c' (zss ++ [zs]) row ∧ Below base w0 w' ∧
      ∀ (X : Option Addr) (nx cx : Nat) (xs : List Value), w.ownsRow base 5 1 (.slice X nx cx) nx xs → w'.ownsRow base 5 1 (.slice X nx cx) nx xs := by
  obtain ⟨vs, hv, hl, hby2, hin⟩ := hown
  have hb1 : Below w.heap.size w (w.alloc (.cells #[.slice Ai ni ci] 22)) := (Below.refl _ _).alloc (Nat.le_refl _) _
  have hbase : base ≤ w.heap.size := Nat.le_trans hw0 hbel.size
  have hseq : Seq (w.alloc (.cells #[.slice Ai ni ci] 22)) (w.heap.size + 1) (some ⟨w.heap.size, 0, none⟩) [.slice Ai ni ci] := by
    have h := (Blk.new w 22 [.slice Ai ni ci]).seq 0 1
    exact h
  obtain ⟨v', w', hrun, hown', hg, _⟩ := run_app (P := P) (w.alloc (.cells #[.slice Ai ni ci] 22)) base t ty 22 i z 24 ht hi hz hsize hby hzs _ n vs (hv.allocated _) _ _ 1 1 [.slice Ai ni ci] rfl hseq (by simp [Value.oneCell']) h63 hbytes (by simp; omega)
  obtain ⟨A', c', rfl⟩ := owns_slice hown'
  have hvl : vs.length = n := by have := hv.1; omega
  have hkeep : ∀ {X : Option Addr} {nx cx : Nat} {xs : List Value}, w.ownsRow base 5 1 (.slice X nx cx) nx xs → w'.ownsRow base 5 1 (.slice X nx cx) nx xs := fun hx =>
    (hx.allocated _).kept hg (owns_other (w := w) (by decide) hx hv)
  refine ⟨A', c', w', hrun, ⟨_, hown', by simp [hl], ?_, fun j hj => ?_⟩, (hbel.alloc hbase _).grown hg (by simp; omega) (fun g e => (hv.lt g e).1), fun X nx cx xs hx => hkeep hx⟩
  · intro y hy z hzz
    rcases List.mem_append.1 hy with hy | hy
    · exact hby2 y hy z hzz
    · rw [List.mem_singleton] at hy
      subst hy
      exact hb z hzz
  · by_cases e : j = n
    · subst e
      refine ⟨Ai, ni, ci, by rw [List.getElem?_append_right (by omega)]; simp [hvl], ?_, hrow⟩
      have e2 : (zss ++ [zs]).getD j [] = zs := by simp [List.getD_eq_getElem?_getD, hl]
      rw [e2]
      exact hkeep hoi
    · obtain ⟨Aj, nj, cj, hvj, hoj, hrj⟩ := hin j (by omega)
      refine ⟨Aj, nj, cj, by rw [List.getElem?_append_left (by omega)]; exact hvj, ?_, hrj⟩
      have e2 : (zss ++ [zs]).getD j [] = zss.getD j [] := by simp [List.getD_eq_getElem?_getD, List.getElem?_append_left (show j < zss.length by omega)]
      rw [e2]
      exact hkeep hoj
theorem wpList_rows {P : Program} (w0 w : World) {ops : Array Oper} {rest : List Oper} {o : Oper} {a : Act} {Q : Exit → Act → World → Prop} (hw : Region.wanted o (yielded ops a.tmps) = true) (s x : Operand) (t : TypeId)
    (ho : o.op = .call { callee := .builtin .append, args := #[s, x], argTypes := #[t, t] }) (i : TypeInfo) (z : Value) (ht : P.underlying t = some (.slice 22)) (hi : P.info? 22 = some i) (hz : i.zero = some z)
    (hsize : i.size = 1) (hby : i.bytes = 24) (hzs : z.cells.size = 1) (base : Nat) (A0 : Option Addr) (n c0 : Nat) (zss : List (List Int)) (row : Option Nat) (hs : a.eval s = .slice A0 n c0) (hown : RowsBut w base A0 n c0 zss row)
    (Ai : Option Addr) (ni ci : Nat) (zs : List Int) (hb : ∀ z ∈ zs, isByte z) (hoi : w.ownsRow base 5 1 (.slice Ai ni ci) ni (ints .u8 zs)) (hrow : (Value.slice Ai ni ci).ownBlock = none ∨ (Value.slice Ai ni ci).ownBlock ≠ row) (hx : a.eval x = .slice (some ⟨w.heap.size, 0, none⟩) 1 1)
    (h63 : n + 1 ≤ maxLen) (hbytes : (n + 1) * 24 ≤ 140737488355328) (hbel : Below base w0 w) (hw0 : base ≤ w0.heap.size)
    (h : ∀ A' c' w', RowsBut w' base A' (n + 1) c' (zss ++ [zs]) row → Below base w0 w' → (∀ (X : Option Addr) (nx cx : Nat) (xs : List Value), w.ownsRow base 5 1 (.slice X nx cx) nx xs → w'.ownsRow base 5 1 (.slice X nx cx) nx xs) → wpList P ops Q rest (a.put o.dst (.slice A' (n + 1) c')) w') : wpList P ops Q (o :: rest) a (w.alloc (.cells #[.slice Ai ni ci] 22)) := by
  refine wpList_want hw fun K hK => ?_
  obtain ⟨A', c', w', hrun, h2, h3, h4⟩ := run_rows (P := P) w0 w t o.type i z ht hi hz hsize hby hzs base A0 n c0 zss row hown Ai ni ci zs hb hoi hrow h63 hbytes hbel hw0
  unfold Oper.wp execOp
  simp only [ho, resolve, invoke, builtin, Sem.run_bind, Sem.run_pure, Result.andThen_ok, List.map_toArray, List.map_cons, List.map_nil, hs, hx, hrun]
  exact hK _ _ (h A' c' w' h2 h3 h4)

/-- A sector as the document has it, and as it is read. -/
theorem optAt_got {S : List Sec} {C : List Pnd} {a : Int} (hm : mayD S C = true) (h0 : 0 ≤ a) (h1 : a < (S.length : Int)) : optAt S C a = if gotOk S C a = true then some (gotB S C a) else none := by
  have ha : askE S C a = 0 := by unfold askE; rw [if_pos hm, if_neg (by omega)]
  unfold optAt rdB rdE
  rw [if_pos ha]
  by_cases h : gotOk S C a = true
  · rw [if_pos h, if_pos h]; simp
  · rw [if_neg h, if_neg h]; simp

end Go.Proofs.Ytiibmlbenamgcaa

namespace Go.Proofs.Ytiibmlbenamgcaa
open Go.RowKit
set_option linter.unusedVariables false

/-- What Held answers: the slot's version (0: nothing), and its bytes. -/
def HeldOut (w : World) (l : List (Option Txt)) (e : Ending) (w' : World) : Prop :=
  ∃ A c B, e = .returned (.tuple #[.slice A B.length c, .int .u64 (slotV l)]) ∧ w'.ownsRow w.heap.size 5 1 (.slice A B.length c) B.length (ints .u8 B) ∧ (slotV l ≠ 0 → B = slotB l) ∧ Below w.heap.size w w'
theorem HeldOut.nothing {w w' : World} {l : List (Option Txt)} (h : slotV l = 0) (hb : Below w.heap.size w w') : HeldOut w l (.returned (.tuple #[.slice none 0 0, .int .u64 0])) w' :=
  ⟨none, 0, [], by rw [h]; rfl, World.ownsRow_nil _ _ _ _, fun h2 => absurd h h2, hb⟩

end Go.Proofs.Ytiibmlbenamgcaa

namespace Go.Proofs.Ytiibmlbenamgcaa
open Go.RowKit
set_option linter.unusedVariables false

theorem opts_take (S : List Sec) (C : List Pnd) (a m : Nat) : (optsOf S C (a : Int) (2 * m)).take m = optsOf S C a m := by
  unfold optsOf
  rw [← List.map_take, List.take_range, Nat.min_eq_left (by omega)]
theorem opts_drop (S : List Sec) (C : List Pnd) (a m : Nat) : (optsOf S C (a : Int) (2 * m)).drop m = optsOf S C ((a + m : Nat) : Int) m := by
  refine list_eq (d := none) (n := m) (by simp [optsOf]; omega) (by simp [optsOf]) fun i hi => ?_
  rw [getD_drop, optsOf_get S C a (by omega : m + i < 2 * m), optsOf_get S C _ hi]
  congr 1
  omega
/-- The slot that holds what a cell holds; below nought: none. -/
def slF (x y : Int) : Int := if x = 0 ∧ y = 0 then -1 else if x < y then 1 else 0
theorem opts_pos {S : List Sec} {C : List Pnd} (hS : ∀ s ∈ S, ∀ z ∈ s.2, isByte z) (hC : ∀ p ∈ C, ∀ z ∈ p.2, isByte z) (a : Int) (m : Nat) : 0 ≤ slotV (optsOf S C a m) ∧ slotV (optsOf S C a m) < 4294967296 := by
  have hv := ver_opts (at_ := a) hS hC m
  refine ⟨slotV_pos fun i T hi h => ?_, ?_⟩
  · rw [optsOf_length] at hi
    rw [optsOf_get S C a hi] at h
    unfold optAt at h
    split at h
    · rename_i hr
      injection h with h
      subst h
      have hg := rd_good hr hS hC
      exact (ver_bounds (by omega) hg.2).1
    · cases h
  · have := slotV_le (l := optsOf S C a m) (c := countTo (optsOf S C a m) m) hv.1 (fun i T hi h => count_ge m i T (by rwa [optsOf_length] at hi) h)
    omega

/-- What Got answers: the version of what a cell holds (0: nothing), and the bytes. -/
def GotOut (w : World) (m : Nat) (l : List (Option Txt)) (e : Ending) (w' : World) : Prop :=
  ∃ A c B, e = .returned (.tuple #[.slice A B.length c, .int .u64 (hV m l)]) ∧ w'.ownsRow w.heap.size 5 1 (.slice A B.length c) B.length (ints .u8 B) ∧ (hV m l ≠ 0 → B = hB m l) ∧ Below w.heap.size w w'
def thereP (S : List Sec) (at_ wd : Int) : Prop := 1 ≤ wd ∧ wd ≤ 4 ∧ 0 ≤ at_ ∧ at_ + 2 * wd ≤ (S.length : Int)
instance (S : List Sec) (at_ wd : Int) : Decidable (thereP S at_ wd) := by unfold thereP; infer_instance
end Go.Proofs.Ytiibmlbenamgcaa
