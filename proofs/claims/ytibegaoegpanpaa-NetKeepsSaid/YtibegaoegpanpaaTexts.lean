/- Rows of texts: what came in, and what is the call's own. No statement is proved here. -/
import Derived.Test.YtibegaoegpanpaaCopy
import Derived.Test.YtibegaoegpanpaaBase3
import Derived.Deep.Matrix
import Derived.Lib.SmallJoins
namespace Go.Proofs.Ytibegaoegpanpaa
open Go.RowKit Go.OpenShut Go.ChangeShapes Go.WideShapes Go.Deep
set_option linter.unusedVariables false

/-- Rows of bytes, as they are read. -/
structure Texts (w : World) (A : Option Addr) (n c : Nat) (zss : List (List Int)) : Prop where
  len : zss.length = n
  cap : n ≤ c
  max : c ≤ maxLen
  byte : ∀ zs ∈ zss, ∀ z ∈ zs, isByte z
  at_ : ∀ i, i < n → ∃ b o Ai ni ci, A = some ⟨b, o, none⟩ ∧ b < w.heap.size ∧ w.cell? ⟨b, o + i, none⟩ = some (.slice Ai ni ci) ∧ Arg w .u8 Ai ni ci (zss.getD i [])
section
variable {w w' : World} {A : Option Addr} {n c : Nat} {zss : List (List Int)}
theorem Texts.below (h : Texts w A n c zss) (hb : Below w.heap.size w w') : Texts w' A n c zss :=
  ⟨h.len, h.cap, h.max, h.byte, fun i hi => by
    obtain ⟨b, o, Ai, ni, ci, e, hlt, hc, ha⟩ := h.at_ i hi
    exact ⟨b, o, Ai, ni, ci, e, Nat.lt_of_lt_of_le hlt hb.size, (hb.cell (p := ⟨b, o + i, none⟩) hlt).trans hc, ha.below hb⟩⟩
theorem Texts.nil (w : World) : Texts w none 0 0 [] := ⟨rfl, Nat.le_refl _, by decide, by simp, fun i hi => by omega⟩
theorem Texts.byte_at (h : Texts w A n c zss) (i : Nat) : ∀ z ∈ zss.getD i [], isByte z := by
  rcases Nat.lt_or_ge i zss.length with hi | hi
  · rw [List.getD_eq_getElem?_getD, List.getElem?_eq_getElem hi]
    exact h.byte _ (List.getElem_mem hi)
  · rw [List.getD_eq_getElem?_getD, List.getElem?_eq_none hi]
    simp
end

/-- Texts of the call's own: the row, and each text, in blocks of their own. -/
def OwnTexts (w : World) (base : Nat) (A : Option Addr) (n c : Nat) (zss : List (List Int)) : Prop :=
  ∃ vs : List Value, w.ownsRow base 26 1 (.slice A n c) n vs ∧ zss.length = n ∧ (∀ zs ∈ zss, ∀ z ∈ zs, isByte z) ∧
    ∀ i, i < n → ∃ Ai ni ci, vs[i]? = some (.slice Ai ni ci) ∧ w.ownsRow base 5 1 (.slice Ai ni ci) ni (ints .u8 (zss.getD i []))

theorem Texts.of_own {w : World} {base : Nat} {A : Option Addr} {n c : Nat} {zss : List (List Int)} (h : OwnTexts w base A n c zss) : Texts w A n c zss := by
  obtain ⟨vs, hown, hl, hb, hin⟩ := h
  refine ⟨hl, ?_, ?_, hb, fun i hi => ?_⟩
  · rcases hown.2 with ⟨e, h0⟩ | ⟨g, cap, cur, e, _, _, h1, h2, _⟩ <;> cases e
    · exact Nat.le_refl _
    · exact h1
  · rcases hown.2 with ⟨e, h0⟩ | ⟨g, cap, cur, e, _, _, h1, h2, _⟩ <;> cases e
    · decide
    · exact h2
  · obtain ⟨Ai, ni, ci, hv, ho⟩ := hin i hi
    obtain ⟨b, o, e, hlt, hc⟩ := Seq.own hown i _ hv
    exact ⟨b, o, Ai, ni, ci, e, hlt, hc, Arg.own ho⟩
section
variable {w w' : World} {base base' : Nat} {A : Option Addr} {n c : Nat} {zss : List (List Int)}
theorem OwnTexts.below (h : OwnTexts w base A n c zss) (hb : Below w.heap.size w w') : OwnTexts w' base A n c zss := by
  obtain ⟨vs, hown, hl, hby, hin⟩ := h
  refine ⟨vs, owns_below hown hb, hl, hby, fun i hi => ?_⟩
  obtain ⟨Ai, ni, ci, hv, ho⟩ := hin i hi
  exact ⟨Ai, ni, ci, hv, owns_below ho hb⟩
theorem OwnTexts.lower (h : OwnTexts w base A n c zss) (hb : base' ≤ base) : OwnTexts w base' A n c zss := by
  obtain ⟨vs, hown, hl, hby, hin⟩ := h
  refine ⟨vs, owns_base hown hb, hl, hby, fun i hi => ?_⟩
  obtain ⟨Ai, ni, ci, hv, ho⟩ := hin i hi
  exact ⟨Ai, ni, ci, hv, owns_base ho hb⟩
theorem OwnTexts.nil (w : World) (base : Nat) : OwnTexts w base none 0 0 [] := ⟨[], World.ownsRow_nil _ _ _ _, rfl, by simp, fun i hi => by omega⟩
/-- Rows of different elements lie in different blocks. -/
theorem owns_other {e e' : TypeId} (he : e ≠ e') {b b' : Nat} {v v' : Value} {k k' s s' : Nat} {xs xs' : List Value} (h : w.ownsRow b e s v k xs) (h' : w.ownsRow b' e' s' v' k' xs') : v.ownBlock = none ∨ v.ownBlock ≠ v'.ownBlock := by
  rcases h.2 with ⟨rfl, _⟩ | ⟨g, cap, cur, rfl, _, hg, _⟩
  · exact .inl rfl
  rcases h'.2 with ⟨rfl, _⟩ | ⟨g', cap', cur', rfl, _, hg', _⟩
  · exact .inr (by simp [Value.ownBlock])
  · refine .inr fun e2 => ?_
    have e3 : g = g' := by simpa [Value.ownBlock] using e2
    rw [e3, hg'] at hg
    simp at hg
    exact he hg.2.symm
end

/-- They stay where a block below them turns. -/
theorem OwnTexts.kept {w w' : World} {base : Nat} {A : Option Addr} {n c : Nat} {zss : List (List Int)} (h : OwnTexts w base A n c zss) {row : Option Nat} (hg : w.grownBy w' row) (hr : ∀ g, row = some g → g < base) : OwnTexts w' base A n c zss := by
  have hk : ∀ {e : TypeId} {v : Value} {k : Nat} {xs : List Value}, w.ownsRow base e 1 v k xs → w'.ownsRow base e 1 v k xs := fun {e v k xs} hx => hx.kept hg (by
    rcases hy : v.ownBlock with _ | gc
    · exact .inl rfl
    · refine .inr (fun e2 => ?_)
      have h1 := (hx.lt gc hy).1
      have h2 := hr gc e2.symm
      omega)
  obtain ⟨vs, hown, hl, hby, hin⟩ := h
  refine ⟨vs, hk hown, hl, hby, fun i hi => ?_⟩
  obtain ⟨Ai, ni, ci, hv, ho⟩ := hin i hi
  exact ⟨Ai, ni, ci, hv, hk ho⟩

theorem OwnTexts.away {w : World} {base : Nat} {A : Option Addr} {n c : Nat} {zss : List (List Int)} (h : OwnTexts w base A n c zss) {g : Nat} (hg : g < base) (i : Nat) (u : Value) : OwnTexts (w.setCell ⟨g, i, none⟩ u) base A n c zss :=
  h.kept (grownBy_set w g i u) (fun _ e => by injection e with e; omega)

theorem owns_box {w : World} {e t : TypeId} {base g : Nat} {v : Value} {k i : Nat} {u : Value} {xs cs : List Value} (h : w.ownsRow base e 1 v k xs) (hb : Blk w g t cs) (ht : t ≠ e) : (w.setCell ⟨g, i, none⟩ u).ownsRow base e 1 v k xs := by
  refine h.kept (grownBy_set w g i u) ?_
  rcases h.2 with ⟨rfl, _⟩ | ⟨g', cap, cur, rfl, _, hg, _⟩
  · exact .inl rfl
  · refine .inr fun e2 => ?_
    have e3 : g' = g := by simpa [Value.ownBlock] using e2
    unfold Blk at hb
    rw [e3, hb] at hg
    simp at hg
    exact ht hg.2
/-- They stay where a box of another type is written. -/
theorem OwnTexts.box {w : World} {base : Nat} {A : Option Addr} {n c : Nat} {zss : List (List Int)} (h : OwnTexts w base A n c zss) {g : Nat} {t : TypeId} {cs : List Value} (hb : Blk w g t cs) (h1 : t ≠ 26) (h2 : t ≠ 5) (i : Nat) (u : Value) : OwnTexts (w.setCell ⟨g, i, none⟩ u) base A n c zss := by
  obtain ⟨vs, hown, hl, hby, hin⟩ := h
  refine ⟨vs, owns_box hown hb h1, hl, hby, fun i hi => ?_⟩
  obtain ⟨Ai, ni, ci, hv, ho⟩ := hin i hi
  exact ⟨Ai, ni, ci, hv, owns_box ho hb h2⟩
theorem OwnTexts.block {w : World} {base : Nat} {A : Option Addr} {n c : Nat} {zss : List (List Int)} (h : OwnTexts w base A n c zss) (hn : 0 < n) : ∃ g, A = some ⟨g, 0, none⟩ ∧ base ≤ g ∧ g < w.heap.size := by
  obtain ⟨vs, hown, _⟩ := h
  rcases hown.2 with ⟨_, h0⟩ | ⟨g, cap, cur, e, hb, hg, _⟩
  · omega
  · cases e
    exact ⟨g, rfl, hb, (Array.getElem?_eq_some_iff.1 hg).1⟩
/-- A block of three cells written whole. -/
theorem Blk.three {w : World} {g : Nat} {t : TypeId} {a b c : Value} (h : Blk w g t [a, b, c]) (x y z : Value) : Blk (((w.setCell ⟨g, 0, none⟩ x).setCell ⟨g, 1, none⟩ y).setCell ⟨g, 2, none⟩ z) g t [x, y, z] :=
  ((h.set 0 x).set 1 y).set 2 z
theorem OwnTexts.three {w : World} {base : Nat} {A : Option Addr} {n c : Nat} {zss : List (List Int)} (h : OwnTexts w base A n c zss) {g : Nat} {t : TypeId} {cs : List Value} (hb : Blk w g t cs) (h1 : t ≠ 26) (h2 : t ≠ 5) (x y z : Value) :
    OwnTexts (((w.setCell ⟨g, 0, none⟩ x).setCell ⟨g, 1, none⟩ y).setCell ⟨g, 2, none⟩ z) base A n c zss :=
  ((h.box hb h1 h2 0 x).box (hb.set 0 x) h1 h2 1 y).box ((hb.set 0 x).set 1 y) h1 h2 2 z
theorem below_three {B : Nat} {w0 w : World} (h : Below B w0 w) {g : Nat} (hg : B ≤ g) (x y z : Value) : Below B w0 (((w.setCell ⟨g, 0, none⟩ x).setCell ⟨g, 1, none⟩ y).setCell ⟨g, 2, none⟩ z) :=
  ((h.setCell (p := ⟨g, 0, none⟩) hg x).setCell (p := ⟨g, 1, none⟩) hg y).setCell (p := ⟨g, 2, none⟩) hg z

theorem texts_info : (Try.prog.info? 26).map (fun i => (i.zero, i.size, i.bytes)) = some (some (.slice none 0 0), 1, 24) := by kernel_rfl

/-- One text of the call's own put in the place of another. -/
theorem OwnTexts.set {w : World} {base : Nat} {A : Option Addr} {n c : Nat} {zss : List (List Int)} (h : OwnTexts w base A n c zss) {i : Nat} (hi : i < n) {Ai : Option Addr} {ni ci : Nat} {zs : List Int} (hz : ∀ z ∈ zs, isByte z)
    (ho : w.ownsRow base 5 1 (.slice Ai ni ci) ni (ints .u8 zs)) :
    ∃ g v, A = some ⟨g, 0, none⟩ ∧ base ≤ g ∧ w.cell? ⟨g, i, none⟩ = some v ∧ w.frozen? ⟨g, i, none⟩ = false ∧ OwnTexts (w.setCell ⟨g, i, none⟩ (.slice Ai ni ci)) base A n c (zss.set i zs) := by
  obtain ⟨vs, hown, hl, hby, hin⟩ := h
  obtain ⟨g, v, rfl, hbg, hc, hf, hset⟩ := owns_at hown hi
  have hvl : vs.length = n := by have := hown.1; omega
  refine ⟨g, v, rfl, hbg, hc, hf, vs.set i (.slice Ai ni ci), hset _, by rw [List.length_set]; exact hl, ?_, fun j hj => ?_⟩
  · intro y hy z hzz
    rcases List.mem_or_eq_of_mem_set hy with hy | rfl
    · exact hby y hy z hzz
    · exact hz z hzz
  · have hkeep : ∀ {A' : Option Addr} {n' c' : Nat} {xs : List Value}, w.ownsRow base 5 1 (.slice A' n' c') n' xs → (w.setCell ⟨g, i, none⟩ (.slice Ai ni ci)).ownsRow base 5 1 (.slice A' n' c') n' xs := fun hx =>
      hx.kept (grownBy_set w g i _) (by
        have := owns_other (by decide) hx hown
        simpa [Value.ownBlock] using this)
    by_cases e : i = j
    · subst e
      refine ⟨Ai, ni, ci, by rw [List.getElem?_set_self (by omega)], ?_⟩
      have e2 : (zss.set i zs).getD i [] = zs := by simp [List.getD_eq_getElem?_getD, show i < zss.length by omega]
      rw [e2]
      exact hkeep ho
    · obtain ⟨Aj, nj, cj, hv, hoj⟩ := hin j hj
      refine ⟨Aj, nj, cj, by rw [List.getElem?_set_ne e]; exact hv, ?_⟩
      have e2 : (zss.set i zs).getD j [] = zss.getD j [] := by simp [List.getD_eq_getElem?_getD, List.getElem?_set_ne e]
      rw [e2]
      exact hkeep hoj

/-- One text more behind the others: what the append law hands back. -/
theorem OwnTexts.snoc {w w' : World} {base : Nat} {A A' Ai : Option Addr} {n c c' ni ci : Nat} {zss : List (List Int)} {zs : List Int} {vs : List Value} (hown0 : w.ownsRow base 26 1 (.slice A n c) n vs) (hl : zss.length = n) (hby : ∀ zs ∈ zss, ∀ z ∈ zs, isByte z)
    (hin : ∀ i, i < n → ∃ Ai ni ci, vs[i]? = some (.slice Ai ni ci) ∧ w.ownsRow base 5 1 (.slice Ai ni ci) ni (ints .u8 (zss.getD i []))) (hz : ∀ z ∈ zs, isByte z)
    (ho : w.ownsRow base 5 1 (.slice Ai ni ci) ni (ints .u8 zs)) (hg : w.grownBy w' (Value.slice A n c).ownBlock)
    (hown : w'.ownsRow base 26 1 (.slice A' (n + 1) c') (n + 1) (vs ++ [.slice Ai ni ci])) : OwnTexts w' base A' (n + 1) c' (zss ++ [zs]) := by
  have hvl : vs.length = n := by have := hown0.1; omega
  have hkeep : ∀ {A' : Option Addr} {n' c' : Nat} {xs : List Value}, w.ownsRow base 5 1 (.slice A' n' c') n' xs → w'.ownsRow base 5 1 (.slice A' n' c') n' xs := fun hx =>
    hx.kept hg (owns_other (by decide) hx hown0)
  refine ⟨_, hown, by simp [hl], ?_, fun j hj => ?_⟩
  · intro y hy z hzz
    rcases List.mem_append.1 hy with hy | hy
    · exact hby y hy z hzz
    · rw [List.mem_singleton] at hy
      subst hy
      exact hz z hzz
  · by_cases e : j = n
    · subst e
      refine ⟨Ai, ni, ci, by rw [List.getElem?_append_right (by omega)]; simp [hvl], ?_⟩
      have e2 : (zss ++ [zs]).getD j [] = zs := by simp [List.getD_eq_getElem?_getD, hl]
      rw [e2]
      exact hkeep ho
    · obtain ⟨Aj, nj, cj, hv, hoj⟩ := hin j (by omega)
      refine ⟨Aj, nj, cj, by rw [List.getElem?_append_left (by omega)]; exact hv, ?_⟩
      have e2 : (zss ++ [zs]).getD j [] = zss.getD j [] := by simp [List.getD_eq_getElem?_getD, List.getElem?_append_left (show j < zss.length by omega)]
      rw [e2]
      exact hkeep hoj

/-- append(out, t): texts of the call's own, and one text of the call's own behind them. -/
theorem run_text {P : Program} (w0 w : World) (t ty : TypeId) (i : TypeInfo) (z : Value) (ht : P.underlying t = some (.slice 26)) (hi : P.info? 26 = some i) (hz : i.zero = some z)
    (hsize : i.size = 1) (hby : i.bytes = 24) (hzs : z.cells.size = 1) (base : Nat) (A0 : Option Addr) (n c0 : Nat) (zss : List (List Int)) (hown : OwnTexts w base A0 n c0 zss)
    (Ai : Option Addr) (ni ci : Nat) (zs : List Int) (hb : ∀ z ∈ zs, isByte z) (hoi : w.ownsRow base 5 1 (.slice Ai ni ci) ni (ints .u8 zs))
    (h63 : n + 1 ≤ maxLen) (hbytes : (n + 1) * 24 ≤ 140737488355328) (hbel : Below base w0 w) (hw0 : base ≤ w0.heap.size) :
    ∃ A' c' w', (Builtin.append_ #[t, t] ty #[.slice A0 n c0, .slice (some ⟨w.heap.size, 0, none⟩) 1 1]).run P (w.alloc (.cells #[.slice Ai ni ci] 26)) = .ok (.slice A' (n + 1) c') w' ∧ OwnTexts w' base A' (n + 1) c' (zss ++ [zs]) ∧ Below base w0 w' := by
  obtain ⟨vs, hv, hl, hby2, hin⟩ := hown
  have hb1 : Below w.heap.size w (w.alloc (.cells #[.slice Ai ni ci] 26)) := (Below.refl _ _).alloc (Nat.le_refl _) _
  have hbase : base ≤ w.heap.size := Nat.le_trans hw0 hbel.size
  have hseq : Seq (w.alloc (.cells #[.slice Ai ni ci] 26)) (w.heap.size + 1) (some ⟨w.heap.size, 0, none⟩) [.slice Ai ni ci] := by
    have h := (Blk.new w 26 [.slice Ai ni ci]).seq 0 1
    exact h
  obtain ⟨v', w', hrun, hown', hg, _⟩ := run_app (P := P) (w.alloc (.cells #[.slice Ai ni ci] 26)) base t ty 26 i z 24 ht hi hz hsize hby hzs _ n vs (hv.allocated _) _ _ 1 1 [.slice Ai ni ci] rfl hseq (by simp [Value.oneCell']) h63 hbytes (by simp; omega)
  obtain ⟨A', c', rfl⟩ := owns_slice hown'
  have hfin : OwnTexts w' base A' (n + 1) c' (zss ++ [zs]) := OwnTexts.snoc (hv.allocated _) hl hby2 (fun i hi => by
    obtain ⟨Aj, nj, cj, e, hj⟩ := hin i hi
    exact ⟨Aj, nj, cj, e, hj.allocated _⟩) hb (hoi.allocated _) hg hown'
  exact ⟨A', c', w', hrun, hfin, (hbel.alloc hbase _).grown hg (by simp; omega) (fun g e => (hv.lt g e).1)⟩

/-- append(out, t), guarded or not. -/
theorem wpList_text {P : Program} (w0 w : World) {ops : Array Oper} {rest : List Oper} {o : Oper} {a : Act} {Q : Exit → Act → World → Prop} (hw : Region.wanted o (yielded ops a.tmps) = true) (s x : Operand) (t : TypeId)
    (ho : o.op = .call { callee := .builtin .append, args := #[s, x], argTypes := #[t, t] }) (i : TypeInfo) (z : Value) (ht : P.underlying t = some (.slice 26)) (hi : P.info? 26 = some i) (hz : i.zero = some z)
    (hsize : i.size = 1) (hby : i.bytes = 24) (hzs : z.cells.size = 1) (base : Nat) (A0 : Option Addr) (n c0 : Nat) (zss : List (List Int)) (hs : a.eval s = .slice A0 n c0) (hown : OwnTexts w base A0 n c0 zss)
    (Ai : Option Addr) (ni ci : Nat) (zs : List Int) (hb : ∀ z ∈ zs, isByte z) (hoi : w.ownsRow base 5 1 (.slice Ai ni ci) ni (ints .u8 zs)) (hx : a.eval x = .slice (some ⟨w.heap.size, 0, none⟩) 1 1)
    (h63 : n + 1 ≤ maxLen) (hbytes : (n + 1) * 24 ≤ 140737488355328) (hbel : Below base w0 w) (hw0 : base ≤ w0.heap.size)
    (h : ∀ A' c' w', OwnTexts w' base A' (n + 1) c' (zss ++ [zs]) → Below base w0 w' → wpList P ops Q rest (a.put o.dst (.slice A' (n + 1) c')) w') : wpList P ops Q (o :: rest) a (w.alloc (.cells #[.slice Ai ni ci] 26)) := by
  refine wpList_want hw fun K hK => ?_
  obtain ⟨A', c', w', hrun, h2, h3⟩ := run_text (P := P) w0 w t o.type i z ht hi hz hsize hby hzs base A0 n c0 zss hown Ai ni ci zs hb hoi h63 hbytes hbel hw0
  unfold Oper.wp execOp
  simp only [ho, resolve, invoke, builtin, Sem.run_bind, Sem.run_pure, Result.andThen_ok, List.map_toArray, List.map_cons, List.map_nil, hs, hx, hrun]
  exact hK _ _ (h A' c' w' h2 h3)

/-- What a law's frame hands over: texts that came in. -/
theorem open_texts {H : Type} {enc : TypeId × Value → H} {W : World} {fuel : Nat} {v : Value} {y : DataW H × List MemPlace} (h : DataW.trod enc Try.prog W 0 (fun _ => true) true fuel 22 [v] = some y) :
    ∃ A n c zss, v = .slice A n c ∧ Texts W A n c zss := by
  rcases open_int_rows Try.underlying22 Try.underlying26 Try.underlying5 (by kernel_rfl) (by kernel_rfl) h with ⟨hcs, _⟩ | ⟨a, len, cap, A, L, C, Z, hcs, _, hl, hm, _, hr⟩
  · have hv : v = .slice none 0 0 := by simpa using hcs
    exact ⟨none, 0, 0, [], hv, Texts.nil W⟩
  · have hv : v = .slice (some a) len cap := by simpa using hcs
    have each : ∀ r, r < len → ∃ l : List Int, Arg W .u8 (A r) (L r) (C r) l ∧ ∀ z ∈ l, isByte z := fun r hrl => by
      obtain ⟨_, r1, r2, r3, r4, r5, r6⟩ := hr r (by omega)
      have hrow : IsRow .u8 W (A r) (L r) (C r) (Z r) := by
        cases hA : A r with
        | none =>
          have h0 := r5 hA
          exact .inl ⟨rfl, by omega, h0, List.eq_nil_of_length_eq_zero (by omega)⟩
        | some x => exact .inr ⟨x, rfl, r1, r2, r3, fun i hi => (r6 x hA).2 i (by omega), r4⟩
      obtain ⟨l, h1, h2⟩ := hrow.arg
      exact ⟨l, h1, fun z hz => wf_byte (h2 z hz)⟩
    obtain ⟨l, hlz⟩ := choose_lt each
    refine ⟨some a, len, cap, (List.range len).map l, hv, by simp, hl, hm, ?_, fun i hi => ?_⟩
    · intro zs hzs
      obtain ⟨r, hrl, rfl⟩ := List.mem_map.1 hzs
      exact (hlz r (List.mem_range.1 hrl)).2
    · obtain ⟨b, o, spot⟩ := a
      have hc := (hr i (by omega)).1
      have hc0 := (hr 0 (by omega)).1
      have hs : spot = none := by simpa [Addr.add] using World.cell?_spot hc0
      subst hs
      have e : (⟨b, o, none⟩ : Addr).add i = ⟨b, o + i, none⟩ := by unfold Addr.add; split <;> simp_all
      rw [e] at hc
      refine ⟨b, o, A i, L i, C i, rfl, World.block_lt_of_cell? W _ hc, hc, ?_⟩
      have e2 : ((List.range len).map l).getD i [] = l i := by simp [List.getD_eq_getElem?_getD, hi]
      rw [e2]
      exact (hlz i hi).1

end Go.Proofs.Ytibegaoegpanpaa
