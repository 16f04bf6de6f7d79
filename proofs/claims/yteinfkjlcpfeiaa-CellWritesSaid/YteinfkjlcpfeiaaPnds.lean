/- Layer 5: rows of writes that wait: read, and of the call's own. No statement is proved here. -/
import Derived.Test.YteinfkjlcpfeiaaTxt
namespace Go.Proofs.Yteinfkjlcpfeiaa
open Go.RowKit Go.OpenShut Go.ChangeShapes Go.WideShapes Go.Deep
set_option linter.unusedVariables false

/-- Rows of writes that wait, as they are read. -/
structure Pnds (w : World) (A : Option Addr) (n c : Nat) (ss : List Pnd) : Prop where
  len : ss.length = n
  cap : n ≤ c
  max : c ≤ maxLen
  byte : ∀ s ∈ ss, ∀ z ∈ s.2, isByte z
  at_ : ∀ i, i < n → ∃ b o Ai ni ci, A = some ⟨b, o, none⟩ ∧ b < w.heap.size ∧ w.cell? ⟨b, o + i * 2 + 1, none⟩ = some (.slice Ai ni ci) ∧ w.cell? ⟨b, o + i * 2, none⟩ = some (.int .i64 (ss.getD i (0, [])).1) ∧ Arg w .u8 Ai ni ci (ss.getD i (0, [])).2
section
variable {w w' : World} {A : Option Addr} {n c : Nat} {ss : List Pnd}
theorem Pnds.below (h : Pnds w A n c ss) (hb : Below w.heap.size w w') : Pnds w' A n c ss :=
  ⟨h.len, h.cap, h.max, h.byte, fun i hi => by
    obtain ⟨b, o, Ai, ni, ci, e, hlt, hc, hx, ha⟩ := h.at_ i hi
    exact ⟨b, o, Ai, ni, ci, e, Nat.lt_of_lt_of_le hlt hb.size, (hb.cell (p := ⟨b, _, none⟩) hlt).trans hc, (hb.cell (p := ⟨b, _, none⟩) hlt).trans hx, ha.below hb⟩⟩
theorem Pnds.nil (w : World) : Pnds w none 0 0 [] := ⟨rfl, Nat.le_refl _, by decide, by simp, fun i hi => by omega⟩
theorem Pnds.byte_at (h : Pnds w A n c ss) (i : Nat) : ∀ z ∈ (ss.getD i (0, [])).2, isByte z := by
  rcases Nat.lt_or_ge i ss.length with hi | hi
  · rw [List.getD_eq_getElem?_getD, List.getElem?_eq_getElem hi]
    exact h.byte _ (List.getElem_mem hi)
  · rw [List.getD_eq_getElem?_getD, List.getElem?_eq_none hi]
    simp
end

/-- Writes of the call's own: the row, and each text, in blocks of their own (the texts wherever they lie there). -/
def OwnPnds (w : World) (base : Nat) (A : Option Addr) (n c : Nat) (ss : List Pnd) : Prop :=
  ∃ vs : List Value, w.ownsRow base 63 2 (.slice A n c) n vs ∧ ss.length = n ∧ (∀ s ∈ ss, ∀ z ∈ s.2, isByte z) ∧
    ∀ i, i < n → ∃ Ai ni ci, vs[i * 2 + 1]? = some (.slice Ai ni ci) ∧ vs[i * 2]? = some (.int .i64 (ss.getD i (0, [])).1) ∧ OwnTxt w base Ai ni ci (ss.getD i (0, [])).2

section
variable {w w' : World} {base base' : Nat} {A : Option Addr} {n c : Nat} {ss : List Pnd}
theorem Pnds.of_own (h : OwnPnds w base A n c ss) : Pnds w A n c ss := by
  obtain ⟨vs, hown, hl, hb, hin⟩ := h
  refine ⟨hl, ?_, ?_, hb, fun i hi => ?_⟩
  · rcases hown.2 with ⟨e, h0⟩ | ⟨g, cap, cur, e, _, _, h1, h2, _⟩ <;> cases e
    · exact Nat.le_refl _
    · exact h1
  · rcases hown.2 with ⟨e, h0⟩ | ⟨g, cap, cur, e, _, _, h1, h2, _⟩ <;> cases e
    · decide
    · exact h2
  · obtain ⟨Ai, ni, ci, hv, hx, ho⟩ := hin i hi
    obtain ⟨b, e, hlt, hc⟩ := owns_cell hown hv
    obtain ⟨b', e', _, hcx⟩ := owns_cell hown hx
    rw [e] at e'
    cases e'
    exact ⟨b, 0, Ai, ni, ci, e, hlt, by rw [Nat.zero_add]; exact hc, by rw [Nat.zero_add]; exact hcx, ho.arg⟩
theorem OwnPnds.below (h : OwnPnds w base A n c ss) (hb : Below w.heap.size w w') : OwnPnds w' base A n c ss := by
  obtain ⟨vs, hown, hl, hby, hin⟩ := h
  refine ⟨vs, owns_below hown hb, hl, hby, fun i hi => ?_⟩
  obtain ⟨Ai, ni, ci, hv, hx, ho⟩ := hin i hi
  exact ⟨Ai, ni, ci, hv, hx, ho.below hb⟩
theorem OwnPnds.lower (h : OwnPnds w base A n c ss) (hb : base' ≤ base) : OwnPnds w base' A n c ss := by
  obtain ⟨vs, hown, hl, hby, hin⟩ := h
  refine ⟨vs, owns_base hown hb, hl, hby, fun i hi => ?_⟩
  obtain ⟨Ai, ni, ci, hv, hx, ho⟩ := hin i hi
  exact ⟨Ai, ni, ci, hv, hx, ho.lower hb⟩
theorem OwnPnds.nil (w : World) (base : Nat) : OwnPnds w base none 0 0 [] := ⟨[], World.ownsRow_nil _ _ _ _, rfl, by simp, fun i hi => by omega⟩
/-- They stay where a block turns that is none of theirs. -/
theorem OwnPnds.keep (h : OwnPnds w base A n c ss) (hk : ∀ (g : Nat) (e : TypeId) (cs : Array Value), (e = 63 ∨ e = 5) → base ≤ g → w.heap[g]? = some (.cells cs e (0, 0)) → w'.heap[g]? = w.heap[g]?) : OwnPnds w' base A n c ss := by
  obtain ⟨vs, hown, hl, hby, hin⟩ := h
  refine ⟨vs, owns_keep hown fun g cs hg hc => hk g _ cs (.inl rfl) hg hc, hl, hby, fun i hi => ?_⟩
  obtain ⟨Ai, ni, ci, hv, hx, ho⟩ := hin i hi
  exact ⟨Ai, ni, ci, hv, hx, ho.keep fun g hg hu => by
    obtain ⟨cs, hc⟩ := hu
    exact hk g _ cs (.inr rfl) hg hc⟩
theorem OwnPnds.kept (h : OwnPnds w base A n c ss) {row : Option Nat} (hg : w.grownBy w' row) (hr : ∀ g, row = some g → g < base) : OwnPnds w' base A n c ss :=
  h.keep fun g _ _ _ hb hc => hg.block g (Array.getElem?_eq_some_iff.1 hc).1 (fun e => by have := hr g e.symm; omega)
theorem OwnPnds.away (h : OwnPnds w base A n c ss) {g : Nat} (hg : g < base) (i : Nat) (u : Value) : OwnPnds (w.setCell ⟨g, i, none⟩ u) base A n c ss :=
  h.kept (grownBy_set w g i u) (fun _ e => by injection e with e; omega)
theorem OwnPnds.box (h : OwnPnds w base A n c ss) {g : Nat} {t : TypeId} {cs : List Value} (hb : Blk w g t cs) (h1 : t ≠ 63) (h2 : t ≠ 5) (i : Nat) (u : Value) : OwnPnds (w.setCell ⟨g, i, none⟩ u) base A n c ss :=
  h.keep fun g' e cs' he _ hc => by
    refine Below.heap_setCell w _ u g' (fun e2 => ?_)
    subst e2
    unfold Blk at hb
    rw [hb] at hc
    simp at hc
    rcases he with rfl | rfl
    · exact h1 hc.2
    · exact h2 hc.2
theorem OwnPnds.block (h : OwnPnds w base A n c ss) (hn : 0 < n) : ∃ g, A = some ⟨g, 0, none⟩ ∧ base ≤ g ∧ g < w.heap.size := by
  obtain ⟨vs, hown, _⟩ := h
  rcases hown.2 with ⟨_, h0⟩ | ⟨g, cap, cur, e, hb, hg, _⟩
  · omega
  · cases e
    exact ⟨g, rfl, hb, (Array.getElem?_eq_some_iff.1 hg).1⟩
theorem OwnPnds.lt (h : OwnPnds w base A n c ss) {j : Nat} (ej : (Value.slice A n c).ownBlock = some j) : base ≤ j ∧ j < w.heap.size := by
  obtain ⟨vs, hown, _⟩ := h
  exact hown.lt j ej
/-- They stay where a row of another element turns. -/
theorem OwnPnds.other (h : OwnPnds w base A n c ss) {b : Nat} {e : TypeId} {s : Nat} {v : Value} {k : Nat} {xs : List Value} (hx : w.ownsRow b e s v k xs) (h1 : 63 ≠ e) (h2 : 5 ≠ e) (hg : w.grownBy w' v.ownBlock) : OwnPnds w' base A n c ss :=
  h.keep fun g' e' cs' he _ hc => by
    refine hg.block g' (Array.getElem?_eq_some_iff.1 hc).1 (fun e2 => ?_)
    rcases hx.2 with ⟨rfl, _⟩ | ⟨g2, cap, cur, rfl, _, hg2, _⟩
    · simp [Value.ownBlock] at e2
    · have e3 : g' = g2 := by simpa [Value.ownBlock] using e2
      subst e3
      rw [hg2] at hc
      simp at hc
      rcases he with rfl | rfl
      · exact h1 hc.2.symm
      · exact h2 hc.2.symm
end

theorem pnd_info : (Try.prog.info? 63).map (fun i => (i.zero, i.size, i.bytes)) = some (some (.agg #[.int .i64 0, .slice none 0 0]), 2, 32) := by kernel_rfl

/-- One put in the place of another. -/
theorem OwnPnds.setTxt {w : World} {base : Nat} {A : Option Addr} {n c : Nat} {ss : List Pnd} (h : OwnPnds w base A n c ss) {i : Nat} (hi : i < n) {Ai : Option Addr} {ni ci : Nat} {x : Int} {zs : List Int} (hz : ∀ z ∈ zs, isByte z)
    (ho : OwnTxt w base Ai ni ci zs) :
    ∃ g u v, A = some ⟨g, 0, none⟩ ∧ base ≤ g ∧ w.cell? ⟨g, i * 2, none⟩ = some u ∧ w.cell? ⟨g, i * 2 + 1, none⟩ = some v ∧ w.frozen? ⟨g, i * 2, none⟩ = false ∧ w.frozen? ⟨g, i * 2 + 1, none⟩ = false ∧
      OwnPnds ((w.setCell ⟨g, i * 2, none⟩ (.int .i64 x)).setCell ⟨g, i * 2 + 1, none⟩ (.slice Ai ni ci)) base A n c (ss.set i (x, zs)) := by
  obtain ⟨vs, hown, hl, hby, hin⟩ := h
  have hvl : vs.length = n * 2 := hown.1
  obtain ⟨g, u, rfl, hbg, hc, hf, hset⟩ := owns_at2 hown (show i * 2 < n * 2 by omega)
  have hown1 := hset (.int .i64 x)
  obtain ⟨g', v, e', _, hc1, hf1, hset1⟩ := owns_at2 hown1 (show i * 2 + 1 < n * 2 by omega)
  cases e'
  have hc1' : w.cell? ⟨g, i * 2 + 1, none⟩ = vs[i * 2 + 1]? := hown.cellAt _ (by omega)
  have hlt : vs[i * 2 + 1]? = some vs[i * 2 + 1] := List.getElem?_eq_getElem (by omega)
  have hf1' : w.frozen? ⟨g, i * 2 + 1, none⟩ = false := hown.frozenAt _
  refine ⟨g, u, vs[i * 2 + 1], rfl, hbg, hc, hc1'.trans hlt, hf, hf1', _, hset1 (.slice Ai ni ci), by rw [List.length_set]; exact hl, ?_, fun j hj => ?_⟩
  · intro y hy z hzz
    rcases List.mem_or_eq_of_mem_set hy with hy | rfl
    · exact hby y hy z hzz
    · exact hz z hzz
  · have hkeep : ∀ {A' : Option Addr} {n' c' : Nat} {xs : List Int}, OwnTxt w base A' n' c' xs → OwnTxt ((w.setCell ⟨g, i * 2, none⟩ (.int .i64 x)).setCell ⟨g, i * 2 + 1, none⟩ (.slice Ai ni ci)) base A' n' c' xs := fun hx =>
      hx.keep fun g' _ hu => by
        have hne : g' ≠ g := fun e => by subst e; exact u8_row (by decide) hu hown rfl
        exact (Below.heap_setCell _ _ _ g' hne).trans (Below.heap_setCell w _ _ g' hne)
    by_cases e : i = j
    · subst e
      refine ⟨Ai, ni, ci, ?_, ?_, ?_⟩
      · rw [List.getElem?_set_self (by rw [List.length_set]; omega)]
      · rw [List.getElem?_set_ne (by omega), List.getElem?_set_self (by omega)]
        simp [List.getD_eq_getElem?_getD, show i < ss.length by omega]
      · have e2 : (ss.set i (x, zs)).getD i (0, []) = (x, zs) := by simp [List.getD_eq_getElem?_getD, show i < ss.length by omega]
        rw [e2]
        exact hkeep ho
    · obtain ⟨Aj, nj, cj, hv, hx, hoj⟩ := hin j hj
      have e2 : (ss.set i (x, zs)).getD j (0, []) = ss.getD j (0, []) := by simp [List.getD_eq_getElem?_getD, List.getElem?_set_ne e]
      refine ⟨Aj, nj, cj, ?_, ?_, by rw [e2]; exact hkeep hoj⟩
      · rw [List.getElem?_set_ne (by omega), List.getElem?_set_ne (by omega)]; exact hv
      · rw [List.getElem?_set_ne (by omega), List.getElem?_set_ne (by omega), e2]; exact hx
theorem OwnPnds.set {w : World} {base : Nat} {A : Option Addr} {n c : Nat} {ss : List Pnd} (h : OwnPnds w base A n c ss) {i : Nat} (hi : i < n) {Ai : Option Addr} {ni ci : Nat} {x : Int} {zs : List Int} (hz : ∀ z ∈ zs, isByte z)
    (ho : w.ownsRow base 5 1 (.slice Ai ni ci) ni (ints .u8 zs)) :
    ∃ g u v, A = some ⟨g, 0, none⟩ ∧ base ≤ g ∧ w.cell? ⟨g, i * 2, none⟩ = some u ∧ w.cell? ⟨g, i * 2 + 1, none⟩ = some v ∧ w.frozen? ⟨g, i * 2, none⟩ = false ∧ w.frozen? ⟨g, i * 2 + 1, none⟩ = false ∧
      OwnPnds ((w.setCell ⟨g, i * 2, none⟩ (.int .i64 x)).setCell ⟨g, i * 2 + 1, none⟩ (.slice Ai ni ci)) base A n c (ss.set i (x, zs)) := h.setTxt hi hz (OwnTxt.of ho)

/-- One more behind the others: what the append law hands back. -/
theorem OwnPnds.snoc {w w' : World} {base : Nat} {A A' Ai : Option Addr} {n c c' ni ci : Nat} {ss : List Pnd} {x : Int} {zs : List Int} {vs : List Value} (hown0 : w.ownsRow base 63 2 (.slice A n c) n vs) (hl : ss.length = n) (hby : ∀ s ∈ ss, ∀ z ∈ s.2, isByte z)
    (hin : ∀ i, i < n → ∃ Ai ni ci, vs[i * 2 + 1]? = some (.slice Ai ni ci) ∧ vs[i * 2]? = some (.int .i64 (ss.getD i (0, [])).1) ∧ OwnTxt w base Ai ni ci (ss.getD i (0, [])).2) (hz : ∀ z ∈ zs, isByte z)
    (ho : OwnTxt w base Ai ni ci zs) (hg : w.grownBy w' (Value.slice A n c).ownBlock)
    (hown : w'.ownsRow base 63 2 (.slice A' (n + 1) c') (n + 1) (vs ++ [(.int .i64 x), (.slice Ai ni ci)])) : OwnPnds w' base A' (n + 1) c' (ss ++ [(x, zs)]) := by
  have hvl : vs.length = n * 2 := hown0.1
  have hkeep : ∀ {A' : Option Addr} {n' c' : Nat} {xs : List Int}, OwnTxt w base A' n' c' xs → OwnTxt w' base A' n' c' xs := fun hx =>
    hx.keep fun g' _ hu => hg.block g' (by obtain ⟨cs, hc⟩ := hu; exact (Array.getElem?_eq_some_iff.1 hc).1) (fun e => u8_row (by decide) hu hown0 e.symm)
  refine ⟨_, hown, by simp [hl], ?_, fun j hj => ?_⟩
  · intro y hy z hzz
    rcases List.mem_append.1 hy with hy | hy
    · exact hby y hy z hzz
    · rw [List.mem_singleton] at hy
      subst hy
      exact hz z hzz
  · by_cases e : j = n
    · subst e
      have e2 : (ss ++ [(x, zs)]).getD j (0, []) = (x, zs) := by simp [List.getD_eq_getElem?_getD, hl]
      refine ⟨Ai, ni, ci, ?_, ?_, by rw [e2]; exact hkeep ho⟩
      · rw [List.getElem?_append_right (by omega), show j * 2 + 1 - vs.length = 1 from by omega]; rfl
      · rw [List.getElem?_append_right (by omega), e2, show j * 2 - vs.length = 0 from by omega]; rfl
    · obtain ⟨Aj, nj, cj, hv, hx, hoj⟩ := hin j (by omega)
      have e2 : (ss ++ [(x, zs)]).getD j (0, []) = ss.getD j (0, []) := by simp [List.getD_eq_getElem?_getD, List.getElem?_append_left (show j < ss.length by omega)]
      refine ⟨Aj, nj, cj, ?_, ?_, by rw [e2]; exact hkeep hoj⟩
      · rw [List.getElem?_append_left (by omega)]; exact hv
      · rw [List.getElem?_append_left (by omega), e2]; exact hx

/-- append(out, one more), in a world where its literal lies: what it answers. -/
theorem run_pnd (w0 w : World) (ty : TypeId) (base : Nat) (A0 : Option Addr) (n c0 : Nat) (ss : List Pnd) (hown : OwnPnds w base A0 n c0 ss)
    (Ai : Option Addr) (ni ci : Nat) (x : Int) (zs : List Int) (hb : ∀ z ∈ zs, isByte z) (hoi : w.ownsRow base 5 1 (.slice Ai ni ci) ni (ints .u8 zs))
    (h63 : n + 1 ≤ 100000) (hbel : Below base w0 w) (hw0 : base ≤ w0.heap.size) :
    ∃ g' c' w', (Builtin.append_ #[23, 23] ty #[.slice A0 n c0, .slice (some ⟨w.heap.size, 0, none⟩) 1 1]).run Try.prog (w.alloc (.cells #[(.int .i64 x), (.slice Ai ni ci)] 63)) = .ok (.slice (some ⟨g', 0, none⟩) (n + 1) c') w' ∧ OwnPnds w' base (some ⟨g', 0, none⟩) (n + 1) c' (ss ++ [(x, zs)]) ∧ Below base w0 w' ∧
      (w.alloc (.cells #[(.int .i64 x), (.slice Ai ni ci)] 63)).grownBy w' (Value.slice A0 n c0).ownBlock := by
  obtain ⟨i, hi, hz, hsize, hby⟩ := info_parts pnd_info
  have hml : (100000 : Nat) ≤ maxLen := by decide
  obtain ⟨vs, hv, hl, hby2, hin⟩ := hown
  have hbase : base ≤ w.heap.size := Nat.le_trans hw0 hbel.size
  have hblk := Blk.new w 63 [(.int .i64 x), (.slice Ai ni ci)]
  obtain ⟨v', w', hrun, hown', hg, _⟩ := run_app2 (P := Try.prog) (w.alloc (.cells #[(.int .i64 x), (.slice Ai ni ci)] 63)) base 23 ty 63 i _ 32 Try.underlying23 hi hz hsize hby rfl _ n vs (hv.allocated _) w.heap.size (.int .i64 x) (.slice Ai ni ci) hblk rfl rfl (by omega) (by omega) (by simp; omega)
  obtain ⟨g', c', rfl⟩ := ownsRow_some hown'
  have hfin : OwnPnds w' base (some ⟨g', 0, none⟩) (n + 1) c' (ss ++ [(x, zs)]) := OwnPnds.snoc (hv.allocated _) hl hby2 (fun i hi => by
    obtain ⟨Aj, nj, cj, e, ex, hj⟩ := hin i hi
    exact ⟨Aj, nj, cj, e, ex, hj.allocated _⟩) hb (OwnTxt.of (hoi.allocated _)) hg hown'
  exact ⟨g', c', w', hrun, hfin, (hbel.alloc hbase _).grown hg (by simp; omega) (fun g e => (hv.lt g e).1), hg⟩

/-- The same at a step of a region that draws its order. -/
theorem step_pnd (w0 w : World) {ops : Array Oper} {o : Oper} {a : Act} {K : Act → World → Prop} {Q : Exit → Act → World → Prop} {E : Prop} (hgd : o.guard = none) (s y : Operand)
    (ho : o.op = .call { callee := .builtin .append, args := #[s, y], argTypes := #[23, 23] }) (base : Nat) (A0 : Option Addr) (n c0 : Nat) (ss : List Pnd) (hs : a.eval s = .slice A0 n c0) (hown : OwnPnds w base A0 n c0 ss)
    (Ai : Option Addr) (ni ci : Nat) (x : Int) (zs : List Int) (hb : ∀ z ∈ zs, isByte z) (hoi : w.ownsRow base 5 1 (.slice Ai ni ci) ni (ints .u8 zs)) (hy : a.eval y = .slice (some ⟨w.heap.size, 0, none⟩) 1 1)
    (h63 : n + 1 ≤ 100000) (hbel : Below base w0 w) (hw0 : base ≤ w0.heap.size)
    (h : ∀ g' c' w', OwnPnds w' base (some ⟨g', 0, none⟩) (n + 1) c' (ss ++ [(x, zs)]) → Below base w0 w' → (w.alloc (.cells #[(.int .i64 x), (.slice Ai ni ci)] 63)).grownBy w' (Value.slice A0 n c0).ownBlock → K (a.put o.dst (.slice (some ⟨g', 0, none⟩) (n + 1) c')) w') :
    if Region.wanted o (yielded ops a.tmps) = true then Oper.wp Try.prog o a (w.alloc (.cells #[(.int .i64 x), (.slice Ai ni ci)] 63)) K Q else E := by
  have hw : Region.wanted o (yielded ops a.tmps) = true := by simp [Region.wanted, hgd]
  rw [if_pos hw]
  obtain ⟨g', c', w', hrun, h2, h3, h4⟩ := run_pnd w0 w o.type base A0 n c0 ss hown Ai ni ci x zs hb hoi h63 hbel hw0
  unfold Oper.wp execOp
  simp only [ho, resolve, invoke, builtin, Sem.run_bind, Sem.run_pure, Result.andThen_ok, List.map_toArray, List.map_cons, List.map_nil, hs, hy, hrun]
  exact h g' c' w' h2 h3 h4

end Go.Proofs.Yteinfkjlcpfeiaa
