/- Layer 4: a row of texts of the call's own, whose texts are the call's own or came in. -/
import Derived.Test.YtbbnfbclbhkneaaRingW
import Derived.Test.YtbbnfbclbhkneaaRingOrd
namespace Go.Proofs.Ytbbnfbclbhkneaa
open Go.RowKit
set_option linter.unusedVariables false

/-- The row is the call's own; each text is the call's own, or came in (and lies below all that the call made). -/
def Want (w0 w : World) (base : Nat) (A : Option Addr) (n c : Nat) (L : List Text) : Prop :=
  ∃ vs : List Value, w.ownsRow base 28 1 (.slice A n c) n vs ∧ L.length = n ∧
    ∀ i, i < n → ∃ Ai ni ci, vs[i]? = some (.slice Ai ni ci) ∧ (w.ownsRow base 5 1 (.slice Ai ni ci) ni (ints .u8 (L.getD i [])) ∨ Arg w0 .u8 Ai ni ci (L.getD i [])) ∧ ∀ z ∈ L.getD i [], isByte z
section
variable {w0 w w' : World} {base : Nat} {A : Option Addr} {n c : Nat} {L : List Text}
theorem Want.of_own (w0 : World) (h : OwnTexts w base A n c L) : Want w0 w base A n c L := by
  have ht := Texts.of_own h
  obtain ⟨vs, hown, hl, hb, hin⟩ := h
  refine ⟨vs, hown, hl, fun i hi => ?_⟩
  obtain ⟨Ai, ni, ci, hv, ho⟩ := hin i hi
  exact ⟨Ai, ni, ci, hv, .inl ho, ht.byte_at i⟩
theorem Want.below (h : Want w0 w base A n c L) (hb : Below w.heap.size w w') : Want w0 w' base A n c L := by
  obtain ⟨vs, hown, hl, hin⟩ := h
  refine ⟨vs, owns_below hown hb, hl, fun i hi => ?_⟩
  obtain ⟨Ai, ni, ci, hv, ho, hz⟩ := hin i hi
  exact ⟨Ai, ni, ci, hv, ho.imp_left fun h => owns_below h hb, hz⟩
theorem Want.kept (h : Want w0 w base A n c L) {row : Option Nat} (hg : w.grownBy w' row) (hr : ∀ g, row = some g → g < base) : Want w0 w' base A n c L := by
  have hk : ∀ {e : TypeId} {v : Value} {k : Nat} {xs : List Value}, w.ownsRow base e 1 v k xs → w'.ownsRow base e 1 v k xs := fun {e v k xs} hx => hx.kept hg (by
    rcases hy : v.ownBlock with _ | gc
    · exact .inl rfl
    · refine .inr (fun e2 => ?_)
      have h1 := (hx.lt gc hy).1
      have h2 := hr gc e2.symm
      omega)
  obtain ⟨vs, hown, hl, hin⟩ := h
  refine ⟨vs, hk hown, hl, fun i hi => ?_⟩
  obtain ⟨Ai, ni, ci, hv, ho, hz⟩ := hin i hi
  exact ⟨Ai, ni, ci, hv, ho.imp_left hk, hz⟩
theorem Want.away (h : Want w0 w base A n c L) {g : Nat} (hg : g < base) (i : Nat) (u : Value) : Want w0 (w.setCell ⟨g, i, none⟩ u) base A n c L :=
  h.kept (grownBy_set w g i u) (fun _ e => by injection e with e; omega)
/-- One of them, as it is read. -/
theorem Want.at_ (h : Want w0 w base A n c L) (hb : Below w0.heap.size w0 w) {i : Nat} (hi : i < n) : ∃ g Ai ni ci, A = some ⟨g, 0, none⟩ ∧ g < w.heap.size ∧ w.cell? ⟨g, i, none⟩ = some (.slice Ai ni ci) ∧ Arg w .u8 Ai ni ci (L.getD i []) ∧ ∀ z ∈ L.getD i [], isByte z := by
  obtain ⟨vs, hown, hl, hin⟩ := h
  obtain ⟨Ai, ni, ci, hv, ho, hz⟩ := hin i hi
  obtain ⟨gA, v0, rfl, _, hc, _, _⟩ := owns_at hown hi
  obtain ⟨b, o, e, hlt, hcc⟩ := Seq.own hown i _ hv
  cases e
  rw [Nat.zero_add] at hcc
  exact ⟨gA, Ai, ni, ci, rfl, hlt, hcc, ho.elim (fun h => Arg.own h) (fun h => h.below hb), hz⟩
theorem Want.len (h : Want w0 w base A n c L) : L.length = n := by
  obtain ⟨vs, hown, hl, hin⟩ := h
  exact hl
theorem Want.lt (h : Want w0 w base A n c L) (g : Nat) (e : (Value.slice A n c).ownBlock = some g) : g < w.heap.size := by
  obtain ⟨vs, hown, hl, hin⟩ := h
  exact (hown.lt g e).2
theorem Want.cap (h : Want w0 w base A n c L) : n ≤ c ∧ c ≤ maxLen := by
  obtain ⟨vs, hown, hl, hin⟩ := h
  rcases hown.2 with ⟨e, h0⟩ | ⟨g, cap, cur, e, _, _, h1, h2, _⟩ <;> cases e
  · exact ⟨Nat.le_refl _, by decide⟩
  · exact ⟨h1, h2⟩
end

/-- append(want, t): a text that came in, behind the others. -/
theorem wpList_want_text {P : Program} (w0 w : World) {ops : Array Oper} {rest : List Oper} {o : Oper} {a : Act} {Q : Exit → Act → World → Prop} (hw : Region.wanted o (yielded ops a.tmps) = true) (s x : Operand) (t : TypeId)
    (ho : o.op = .call { callee := .builtin .append, args := #[s, x], argTypes := #[t, t] }) (i : TypeInfo) (z : Value) (ht : P.underlying t = some (.slice 28)) (hi : P.info? 28 = some i) (hz : i.zero = some z)
    (hsize : i.size = 1) (hby : i.bytes = 24) (hzs : z.cells.size = 1) (base : Nat) (A0 : Option Addr) (n c0 : Nat) (L : List Text) (hs : a.eval s = .slice A0 n c0) (hown : Want w0 w base A0 n c0 L)
    (Ai : Option Addr) (ni ci : Nat) (zs : List Int) (hb : ∀ z ∈ zs, isByte z) (hoi : Arg w0 .u8 Ai ni ci zs) (hx : a.eval x = .slice (some ⟨w.heap.size, 0, none⟩) 1 1)
    (h63 : n + 1 ≤ maxLen) (hbytes : (n + 1) * 24 ≤ 140737488355328) (hbase : base ≤ w.heap.size)
    (h : ∀ A' c' w', Want w0 w' base A' (n + 1) c' (L ++ [zs]) → Below base w w' → (w.alloc (.cells #[.slice Ai ni ci] 28)).grownBy w' (Value.slice A0 n c0).ownBlock → wpList P ops Q rest (a.put o.dst (.slice A' (n + 1) c')) w') : wpList P ops Q (o :: rest) a (w.alloc (.cells #[.slice Ai ni ci] 28)) := by
  refine wpList_want hw fun K hK => ?_
  have hb1 : Below w.heap.size w (w.alloc (.cells #[.slice Ai ni ci] 28)) := (Below.refl _ _).alloc (Nat.le_refl _) _
  have hseq : Seq (w.alloc (.cells #[.slice Ai ni ci] 28)) (w.heap.size + 1) (some ⟨w.heap.size, 0, none⟩) [.slice Ai ni ci] := by
    have h := (Blk.new w 28 [.slice Ai ni ci]).seq 0 1
    exact h
  obtain ⟨vs, hv, hl, hin⟩ := hown
  obtain ⟨v', w', hrun, hown', hg, _⟩ := run_app (P := P) (w.alloc (.cells #[.slice Ai ni ci] 28)) base t o.type 28 i z 24 ht hi hz hsize hby hzs _ n vs (hv.allocated _) _ _ 1 1 [.slice Ai ni ci] rfl hseq (by simp [Value.oneCell']) h63 hbytes (by simp; omega)
  obtain ⟨A', c', rfl⟩ := owns_slice hown'
  have hvl : vs.length = n := by have := hv.1; omega
  have hfin : Want w0 w' base A' (n + 1) c' (L ++ [zs]) := by
    refine ⟨_, hown', by simp [hl], fun j hj => ?_⟩
    by_cases e : j = n
    · subst e
      refine ⟨Ai, ni, ci, by rw [List.getElem?_append_right (by omega)]; simp [hvl], ?_⟩
      have e2 : (L ++ [zs]).getD j [] = zs := by simp [List.getD_eq_getElem?_getD, hl]
      rw [e2]
      exact ⟨.inr hoi, hb⟩
    · obtain ⟨Aj, nj, cj, hvj, hoj, hzj⟩ := hin j (by omega)
      refine ⟨Aj, nj, cj, by rw [List.getElem?_append_left (by omega)]; exact hvj, ?_⟩
      have e2 : (L ++ [zs]).getD j [] = L.getD j [] := by simp [List.getD_eq_getElem?_getD, List.getElem?_append_left (show j < L.length by omega)]
      rw [e2]
      exact ⟨hoj.imp_left fun h => (h.allocated _).kept hg (owns_other (by decide) h hv), hzj⟩
  unfold Oper.wp execOp
  simp only [ho, resolve, invoke, builtin, Sem.run_bind, Sem.run_pure, Result.andThen_ok, List.map_toArray, List.map_cons, List.map_nil, hs, hx, hrun]
  exact hK _ _ (h A' c' w' hfin (((Below.refl base w).alloc hbase _).grown hg (by simp; omega) (fun g e => (hv.lt g e).1)) hg)

end Go.Proofs.Ytbbnfbclbhkneaa
