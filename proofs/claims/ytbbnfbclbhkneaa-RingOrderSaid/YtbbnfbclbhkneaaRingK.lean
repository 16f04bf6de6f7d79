/- Layer 4, package ring: a text of the call's own behind others, in a round that draws its order. -/
import Derived.Test.YtbbnfbclbhkneaaRingJ2
namespace Go.Proofs.Ytbbnfbclbhkneaa
open Go.RowKit Go.Shelf
set_option linter.unusedVariables false

/-- append(l, t) inside a round. -/
theorem step_text_in {P : Program} {F : Fence} {nn : Nat} (w : World) {ops : Array Oper} {o : Oper} {a : Act} {K : Act → World → Prop} {Q : Exit → Act → World → Prop} {E : Prop} (hgd : o.guard = none) (s x : Operand) (t : TypeId)
    (ho : o.op = .call { callee := .builtin .append, args := #[s, x], argTypes := #[t, t] }) (i : TypeInfo) (z : Value) (ht : P.underlying t = some (.slice 28)) (hi : P.info? 28 = some i) (hz : i.zero = some z)
    (hsize : i.size = 1) (hby : i.bytes = 24) (hzs : z.cells.size = 1) (base : Nat) (A0 : Option Addr) (n c0 : Nat) (zss : List (List Int)) (hs : a.eval s = .slice A0 n c0) (hown : OwnTexts w base A0 n c0 zss)
    (Ai : Option Addr) (ni ci : Nat) (zs : List Int) (hb : ∀ z ∈ zs, isByte z) (hoi : w.ownsRow base 5 1 (.slice Ai ni ci) ni (ints .u8 zs)) (hx : a.eval x = .slice (some ⟨w.heap.size, 0, none⟩) 1 1)
    (h63 : n + 1 ≤ maxLen) (hbytes : (n + 1) * 24 ≤ 140737488355328) (hw0 : base ≤ w.heap.size)
    (h : ∀ g' c' w', OwnTexts w' base (some ⟨g', 0, none⟩) (n + 1) c' (zss ++ [zs]) → (w.alloc (.cells #[.slice Ai ni ci] 28)).grownBy w' (Value.slice A0 n c0).ownBlock → K (a.put o.dst (.slice (some ⟨g', 0, none⟩) (n + 1) c')) w') :
    if Region.wanted o (yielded ops a.tmps) = true then Oper.wpIn F nn P o a (w.alloc (.cells #[.slice Ai ni ci] 28)) K Q else E := by
  have hw : Region.wanted o (yielded ops a.tmps) = true := by simp [Region.wanted, hgd]
  rw [if_pos hw]
  obtain ⟨vs, hv, hl, hby2, hin⟩ := hown
  have hseq : Seq (w.alloc (.cells #[.slice Ai ni ci] 28)) (w.heap.size + 1) (some ⟨w.heap.size, 0, none⟩) [.slice Ai ni ci] := by
    have h := (Blk.new w 28 [.slice Ai ni ci]).seq 0 1
    exact h
  obtain ⟨v', w', hrun, hown', hg, _⟩ := run_app (P := P) (w.alloc (.cells #[.slice Ai ni ci] 28)) base t o.type 28 i z 24 ht hi hz hsize hby hzs _ n vs (hv.allocated _) _ _ 1 1 [.slice Ai ni ci] rfl hseq (by simp [Value.oneCell']) h63 hbytes (by simp; omega)
  obtain ⟨g', c', rfl⟩ := ownsRow_succ hown'
  have hfin : OwnTexts w' base (some ⟨g', 0, none⟩) (n + 1) c' (zss ++ [zs]) := OwnTexts.snoc (hv.allocated _) hl hby2 (fun i hi => by
    obtain ⟨Aj, nj, cj, e, hj⟩ := hin i hi
    exact ⟨Aj, nj, cj, e, hj.allocated _⟩) hb (hoi.allocated _) hg hown'
  unfold Oper.wpIn
  refine ⟨?_, ?_⟩
  · simp [Oper.about, ho, resolve, Target.leads, Sem.run_pure]
  · rw [Oper.semAt_plain F _ _ (by rw [ho]; intro c hc'; cases hc')]
    simp [execOp, ho, resolve, invoke, builtin, hs, hx, hrun, Result.andThen]
    exact h g' c' w' hfin hg

section
variable {W W' : World} {base : Nat} {A : Option Addr} {n c : Nat} {q : List Text}
/-- Texts of the call's own stay where a block turns that is no cells. -/
theorem OwnTexts.turned (h : OwnTexts W base A n c q) {row : Option Nat} (hg : W.grownBy W' row) (hr : ∀ r, row = some r → ∃ o : Obj, W.heap[r]? = some o ∧ o.isCells = false) : OwnTexts W' base A n c q := by
  have hk : ∀ {e : TypeId} {v : Value} {k : Nat} {xs : List Value}, W.ownsRow base e 1 v k xs → W'.ownsRow base e 1 v k xs := fun {e v k xs} hx => hx.kept hg (by
    rcases hx.2 with ⟨rfl, _⟩ | ⟨g, cap, cur, rfl, _, hgb, _⟩
    · exact .inl rfl
    · refine .inr fun e' => ?_
      obtain ⟨o, ho, hc⟩ := hr g (by simpa [Value.ownBlock] using e'.symm)
      rw [hgb] at ho; cases ho; cases hc)
  obtain ⟨vs, hown, hl, hby, hin⟩ := h
  refine ⟨vs, hk hown, hl, hby, fun i hi => ?_⟩
  obtain ⟨Ai, ni, ci, hv, ho⟩ := hin i hi
  exact ⟨Ai, ni, ci, hv, hk ho⟩
/-- The block of their row holds cells. -/
theorem OwnTexts.cells (h : OwnTexts W base A n c q) {j : Nat} {o : Obj} (ej : (Value.slice A n c).ownBlock = some j) (hj : W.heap[j]? = some o) : o.isCells = true := by
  obtain ⟨vs, hown, _⟩ := h
  rcases hown.2 with ⟨e, _⟩ | ⟨g, cap, cur, e, _, hgb, _⟩ <;> cases e
  · simp [Value.ownBlock] at ej
  · obtain rfl : g = j := by simpa [Value.ownBlock] using ej
    rw [hgb] at hj; cases hj; rfl
theorem OwnTexts.lt (h : OwnTexts W base A n c q) {j : Nat} (ej : (Value.slice A n c).ownBlock = some j) : base ≤ j ∧ j < W.heap.size := by
  obtain ⟨vs, hown, _⟩ := h
  exact hown.lt j ej
theorem OwnTexts.not_boxed (h : OwnTexts W base A n c q) {B : Nat} {v : Value} (hb : Boxed W B 22 v) : some B ≠ (Value.slice A n c).ownBlock := by
  obtain ⟨vs, hown, _⟩ := h
  exact hb.not_row (by decide) hown
end
theorem KeepsOthers.below {W W' : World} (h : Below W.heap.size W W') : KeepsOthers W W' := KeepsOthers.of_grownBy (grown_of_below h) (fun j o e _ => by cases e)
theorem Boxed.blk {W : World} {B : Nat} {t : TypeId} {v : Value} (h : Boxed W B t v) : Blk W B t [v] := h

/-- A round of List: what it leaves. -/
theorem list_leaf {w W w2 w4 : World} {L0 B0 k c1 c3 c4 ni g4 : Nat} {A1 A3 : Option Addr} {Q Q' : List Text} (hv : Boxed W L0 22 (.slice A1 k c1)) (O : OwnTexts W (L0 + 4) A1 k c1 Q) (hB : Below B0 w W) (hz : L0 + 4 ≤ W.heap.size) (hB0 : B0 ≤ L0)
    (hb3 : Below W.drew.heap.size W.drew w2) (hg4 : (w2.alloc (.cells #[.slice A3 ni c3] 28)).grownBy w4 (Value.slice A1 k c1).ownBlock) (hO4 : OwnTexts w4 (L0 + 4) (some ⟨g4, 0, none⟩) (k + 1) c4 Q') (hv4 : Boxed w4 L0 22 (.slice A1 k c1)) :
    KeepsOthers W (w4.setCell ⟨L0, 0, none⟩ (.slice (some ⟨g4, 0, none⟩) (k + 1) c4)) ∧ KpT B0 (L0 + 1) W (w4.setCell ⟨L0, 0, none⟩ (.slice (some ⟨g4, 0, none⟩) (k + 1) c4)) ∧ Boxed (w4.setCell ⟨L0, 0, none⟩ (.slice (some ⟨g4, 0, none⟩) (k + 1) c4)) L0 22 (.slice (some ⟨g4, 0, none⟩) (k + 1) c4) ∧
    OwnTexts (w4.setCell ⟨L0, 0, none⟩ (.slice (some ⟨g4, 0, none⟩) (k + 1) c4)) (L0 + 4) (some ⟨g4, 0, none⟩) (k + 1) c4 Q' ∧ Below B0 w (w4.setCell ⟨L0, 0, none⟩ (.slice (some ⟨g4, 0, none⟩) (k + 1) c4)) ∧ L0 + 4 ≤ (w4.setCell ⟨L0, 0, none⟩ (.slice (some ⟨g4, 0, none⟩) (k + 1) c4)).heap.size := by
  have hd : Below W.heap.size W w2 := (below_drewN (Below.refl _ _) 1).trans (hb3.mono (Nat.le_refl _))
  have ha : Below W.heap.size W (w2.alloc (.cells #[.slice A3 ni c3] 28)) := hd.alloc hd.size _
  have Oa := O.below ha
  have hs2 : W.heap.size ≤ w2.heap.size := hb3.size
  have hs4 : w2.heap.size + 1 ≤ w4.heap.size := by have := hg4.size; simpa using this
  refine ⟨(((KeepsOthers.below hd).trans (KeepsOthers.alloc _ _)).trans (KeepsOthers.of_grownBy hg4 fun j o ej hj => Oa.cells ej hj)).trans (KeepsOthers.setCell _ _ _), ?_, hv4.set _, hO4.box (Boxed.blk hv4) (by decide) (by decide) 0 _, ?_, by simp [World.setCell]; omega⟩
  · refine ((KpT.below ha (by omega) (by omega)).trans (KpT.grown hg4 (by omega) (by simp; omega) fun g e => ?_)).trans (KpT.grown (grownBy_set _ _ _ _) (by omega) (by omega) fun g e => by injection e with e; omega)
    have := (O.lt e).1
    omega
  · refine ((hB.trans (ha.mono (by omega))).grown hg4 ?_ fun j ej => ?_).setCell (p := ⟨L0, 0, none⟩) hB0 _
    · exact Nat.le_trans (Nat.le_trans hB0 (by omega)) (Nat.le_trans hz ha.size)
    · have := (O.lt ej).1
      omega

end Go.Proofs.Ytbbnfbclbhkneaa
