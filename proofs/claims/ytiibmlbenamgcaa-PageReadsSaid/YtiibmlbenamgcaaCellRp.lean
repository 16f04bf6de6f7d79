/- Layer 6, the document: Busy and Count. No statement is proved here. -/
import Derived.Test.YtiibmlbenamgcaaCellRj
import Derived.Test.YtiibmlbenamgcaaCellWr
namespace Go.Proofs.Ytiibmlbenamgcaa
open Go.RowKit
set_option linter.unusedVariables false

theorem wa_pend {S : List Sec} {C : List Pnd} {a : Int} (hm : mayD S C = true) (h0 : 0 ≤ a) (h1 : a < (S.length : Int)) : waB S C a = pendB C a := by
  have ha : askE S C a = 0 := by unfold askE; rw [if_pos hm, if_neg (by omega)]
  unfold waB
  rw [if_pos ha]

end Go.Proofs.Ytiibmlbenamgcaa

/- PART TWO -/
namespace Go.Proofs.Ytiibmlbenamgcaa
open Go.RowKit
set_option linter.unusedVariables false

/-- A row of writes of the call's own (their bytes are another's). -/
def OwnPns (w0 w : World) (base : Nat) (A : Option Addr) (n c : Nat) (ps : List Pnd) : Prop :=
  ∃ vs : List Value, w.ownsRow base 30 2 (.slice A n c) n vs ∧ ps.length = n ∧
    ∀ i, i < n → ∃ Ai ni ci, vs[i * 2]? = some (.int .i64 (ps.getD i (0, [])).1) ∧ vs[i * 2 + 1]? = some (.slice Ai ni ci) ∧ Arg w0 .u8 Ai ni ci (ps.getD i (0, [])).2
theorem OwnPns.nil (w0 w : World) (base : Nat) : OwnPns w0 w base none 0 0 [] := ⟨[], World.ownsRow_nil _ _ _ _, rfl, fun i hi => by omega⟩
theorem OwnPns.below {w0 w w' : World} {base : Nat} {A : Option Addr} {n c : Nat} {ps : List Pnd} (h : OwnPns w0 w base A n c ps) (hb : Below w.heap.size w w') : OwnPns w0 w' base A n c ps := by
  obtain ⟨vs, h1, h2, h3⟩ := h
  exact ⟨vs, owns_below h1 hb, h2, h3⟩
theorem OwnPns.off {w0 w : World} {base : Nat} {A : Option Addr} {n c : Nat} {ps : List Pnd} (h : OwnPns w0 w base A n c ps) {g : Nat} (hg : g < base) (i : Nat) (u : Value) : OwnPns w0 (w.setCell ⟨g, i, none⟩ u) base A n c ps := by
  obtain ⟨vs, h1, h2, h3⟩ := h
  exact ⟨vs, owns_under h1 (grownBy_set w g i u) (fun k hk => by injection hk with hk; omega), h2, h3⟩
theorem Pnds.of_pns {w0 w : World} {base : Nat} {A : Option Addr} {n c : Nat} {ps : List Pnd} (h : OwnPns w0 w base A n c ps) (hb : Below w0.heap.size w0 w) (hby : ∀ s ∈ ps, ∀ z ∈ s.2, isByte z) : Pnds w A n c ps := by
  obtain ⟨vs, hown, hl, hin⟩ := h
  refine ⟨hl, ?_, ?_, hby, fun i hi => ?_⟩
  · rcases hown.2 with ⟨e, h0⟩ | ⟨g, cap, cur, e, _, _, h1, h2, _⟩ <;> cases e
    · exact Nat.le_refl _
    · exact h1
  · rcases hown.2 with ⟨e, h0⟩ | ⟨g, cap, cur, e, _, _, h1, h2, _⟩ <;> cases e
    · decide
    · exact h2
  · obtain ⟨Ai, ni, ci, hx, hv, ha⟩ := hin i hi
    obtain ⟨b, e, hlt, hc⟩ := owns_cell hown hv
    obtain ⟨b', e', _, hcx⟩ := owns_cell hown hx
    rw [e] at e'
    cases e'
    exact ⟨b, 0, Ai, ni, ci, e, hlt, by rw [Nat.zero_add]; exact hc, by rw [Nat.zero_add]; exact hcx, ha.below hb⟩

/-- append(out, one more), its literal laid. -/
theorem wpList_pns (w0 w : World) {ops : Array Oper} {Q : Exit → Act → World → Prop} {a : Act} {rest : List Oper} {o : Oper} (hw : Region.wanted o (yielded ops a.tmps) = true) (s y : Operand)
    (ho : o.op = .call { callee := .builtin .append, args := #[s, y], argTypes := #[35, 35] }) (base : Nat) (A0 : Option Addr) (n c0 : Nat) (ps : List Pnd) (hs : a.eval s = .slice A0 n c0) (hown : OwnPns w0 w base A0 n c0 ps)
    (v : Int) (Ai : Option Addr) (ni ci : Nat) (zs : Txt) (ha : Arg w0 .u8 Ai ni ci zs) (hy : a.eval y = .slice (some ⟨w.heap.size, 0, none⟩) 1 1)
    (h63 : n + 1 ≤ 100000) (hbase : base ≤ w.heap.size)
    (h : ∀ g' c' w', OwnPns w0 w' base (some ⟨g', 0, none⟩) (n + 1) c' (ps ++ [(v, zs)]) → Below base w w' → wpList Try.prog ops Q rest (a.put o.dst (.slice (some ⟨g', 0, none⟩) (n + 1) c')) w') :
    wpList Try.prog ops Q (o :: rest) a (w.alloc (.cells #[.int .i64 v, .slice Ai ni ci] 30)) := by
  obtain ⟨i, hi, hz, hsize, hby⟩ := info_parts pnd_info
  have hml : (100000 : Nat) ≤ maxLen := by decide
  obtain ⟨vs, hv, hl, hin⟩ := hown
  have hblk := Blk.new w 30 [.int .i64 v, .slice Ai ni ci]
  obtain ⟨v', w', hrun, hown', hg, _⟩ := run_app2 (P := Try.prog) (w.alloc (.cells #[.int .i64 v, .slice Ai ni ci] 30)) base 35 o.type 30 i _ 32 Try.underlying35 hi hz hsize hby rfl _ n vs (hv.allocated _) w.heap.size (.int .i64 v) (.slice Ai ni ci) hblk rfl rfl (by omega) (by omega) (by simp; omega)
  obtain ⟨g', c', rfl⟩ := ownsRow_some hown'
  have hvl := hv.1
  have hfin : OwnPns w0 w' base (some ⟨g', 0, none⟩) (n + 1) c' (ps ++ [(v, zs)]) := by
    refine ⟨_, hown', by simp [hl], fun j hj => ?_⟩
    by_cases e : j = n
    · subst e
      have e2 : (ps ++ [(v, zs)]).getD j (0, []) = (v, zs) := by simp [List.getD_eq_getElem?_getD, hl]
      refine ⟨Ai, ni, ci, ?_, ?_, by rw [e2]; exact ha⟩
      · rw [List.getElem?_append_right (by omega), e2, show j * 2 - vs.length = 0 from by omega]; rfl
      · rw [List.getElem?_append_right (by omega), show j * 2 + 1 - vs.length = 1 from by omega]; rfl
    · obtain ⟨Aj, nj, cj, hv2, hx, hoj⟩ := hin j (by omega)
      have e2 : (ps ++ [(v, zs)]).getD j (0, []) = ps.getD j (0, []) := by simp [List.getD_eq_getElem?_getD, List.getElem?_append_left (show j < ps.length by omega)]
      refine ⟨Aj, nj, cj, ?_, ?_, by rw [e2]; exact hoj⟩
      · rw [List.getElem?_append_left (by omega), e2]; exact hv2
      · rw [List.getElem?_append_left (by omega)]; exact hx
  refine wpList_want hw fun K hK => ?_
  unfold Oper.wp execOp
  simp only [ho, resolve, invoke, builtin, Sem.run_bind, Sem.run_pure, Result.andThen_ok, List.map_toArray, List.map_cons, List.map_nil, hs, hy, hrun]
  exact hK _ _ (h g' c' w' hfin (((Below.refl _ _).alloc hbase _).grown hg (by simp; omega) (fun g e => (hv.lt g e).1)))

theorem writesP_byte {at_ : Int} {l : List Txt} {m : Nat} (hl : l.length = m) (hb : ∀ t ∈ l, ∀ z ∈ t, isByte z) : ∀ p ∈ writesP at_ l m, ∀ z ∈ p.2, isByte z := by
  intro p hp z hz
  unfold writesP someP at hp
  obtain ⟨i, hi, rfl⟩ := List.mem_map.1 hp
  have hi := List.mem_range.1 hi
  rw [if_pos hi] at hz
  dsimp only at hz
  rw [List.getD_eq_getElem?_getD, List.getElem?_eq_getElem (by omega : i < l.length)] at hz
  exact hb _ (List.getElem_mem _) z hz
theorem hF_slF {S : List Sec} {C : List Pnd} (hS : ∀ s ∈ S, ∀ z ∈ s.2, isByte z) (hC : ∀ p ∈ C, ∀ z ∈ p.2, isByte z) (a m : Nat) :
    hF m (optsOf S C a (2 * m)) = if slF (slotV (optsOf S C a m)) (slotV (optsOf S C ((a + m : Nat) : Int) m)) = 0 then 1 else 0 := by
  have p0 := (opts_pos hS hC (a : Int) m).1
  have p1 := (opts_pos hS hC ((a + m : Nat) : Int) m).1
  unfold hF slF
  rw [opts_take, opts_drop]
  obtain ⟨x, hx⟩ : ∃ x, x = slotV (optsOf S C (a : Int) m) := ⟨_, rfl⟩
  obtain ⟨y, hy⟩ : ∃ y, y = slotV (optsOf S C ((a + m : Nat) : Int) m) := ⟨_, rfl⟩
  rw [← hx] at p0 ⊢
  rw [← hy] at p1 ⊢
  clear hx hy
  by_cases h1 : x = 0 ∧ y = 0
  · rw [if_pos (.inl h1.1), if_pos h1]; rfl
  · rw [if_neg h1]
    by_cases h2 : x < y
    · rw [if_pos (.inr h2), if_pos h2]; rfl
    · rw [if_neg h2, if_neg (by omega)]; rfl

def PnsOut (w : World) (L : List Pnd) (e : Ending) (w' : World) : Prop :=
  ∃ A c, e = .returned (.slice A L.length c) ∧ Pnds w' A L.length c L ∧ Below w.heap.size w w'
theorem owns_cell1 {w : World} {base n c i : Nat} {A : Option Addr} {vs : List Value} {u : Value} (h : w.ownsRow base 22 1 (.slice A n c) n vs) (hu : vs[i]? = some u) : ∃ b, A = some ⟨b, 0, none⟩ ∧ b < w.heap.size ∧ w.cell? ⟨b, i, none⟩ = some u := by
  obtain ⟨b, e, hlt, hc⟩ := owns_cell h hu
  exact ⟨b, e, hlt, hc⟩
theorem OwnTexts.pnd {w w' : World} {base b : Nat} {A A' : Option Addr} {n c n' c' : Nat} {zss : List Txt} {ps : List Pnd} (h : OwnTexts w base A n c zss) (hp : OwnPnds w b A' n' c' ps) (hg : w.grownBy w' (Value.slice A' n' c').ownBlock) : OwnTexts w' base A n c zss := by
  obtain ⟨xs, hx, _⟩ := hp
  obtain ⟨vs, hown, hl, hby, hin⟩ := h
  refine ⟨vs, hown.kept hg (owns_other (by decide) hown hx), hl, hby, fun i hi => ?_⟩
  obtain ⟨Ai, ni, ci, hv, ho⟩ := hin i hi
  exact ⟨Ai, ni, ci, hv, ho.kept hg (owns_other (by decide) ho hx)⟩
/-- append(out, one more), its literal laid, the bytes the call's own. -/
theorem wpList_pnd (w0 w : World) {ops : Array Oper} {Q : Exit → Act → World → Prop} {a : Act} {rest : List Oper} {o : Oper} (hw : Region.wanted o (yielded ops a.tmps) = true) (s y : Operand)
    (ho : o.op = .call { callee := .builtin .append, args := #[s, y], argTypes := #[35, 35] }) (base : Nat) (A0 : Option Addr) (n c0 : Nat) (ss : List Pnd) (hs : a.eval s = .slice A0 n c0) (hown : OwnPnds w base A0 n c0 ss)
    (Ai : Option Addr) (ni ci : Nat) (x : Int) (zs : List Int) (hb : ∀ z ∈ zs, isByte z) (hoi : w.ownsRow base 5 1 (.slice Ai ni ci) ni (ints .u8 zs)) (hy : a.eval y = .slice (some ⟨w.heap.size, 0, none⟩) 1 1)
    (h63 : n + 1 ≤ 100000) (hbel : Below base w0 w) (hw0 : base ≤ w0.heap.size)
    (h : ∀ g' c' w', OwnPnds w' base (some ⟨g', 0, none⟩) (n + 1) c' (ss ++ [(x, zs)]) → Below base w0 w' → (w.alloc (.cells #[(.int .i64 x), (.slice Ai ni ci)] 30)).grownBy w' (Value.slice A0 n c0).ownBlock → wpList Try.prog ops Q rest (a.put o.dst (.slice (some ⟨g', 0, none⟩) (n + 1) c')) w') :
    wpList Try.prog ops Q (o :: rest) a (w.alloc (.cells #[(.int .i64 x), (.slice Ai ni ci)] 30)) := by
  refine wpList_want hw fun K hK => ?_
  obtain ⟨g', c', w', hrun, h2, h3, h4⟩ := run_pnd w0 w o.type base A0 n c0 ss hown Ai ni ci x zs hb hoi h63 hbel hw0
  unfold Oper.wp execOp
  simp only [ho, resolve, invoke, builtin, Sem.run_bind, Sem.run_pure, Result.andThen_ok, List.map_toArray, List.map_cons, List.map_nil, hs, hy, hrun]
  exact hK _ _ (h g' c' w' h2 h3 h4)

end Go.Proofs.Ytiibmlbenamgcaa

/- PART THREE -/
namespace Go.Proofs.Ytiibmlbenamgcaa
open Go.RowKit
set_option linter.unusedVariables false

/-- What the document's Plan answers. -/
def RPlan (w : World) (L : List Pnd) (E : Int) (e : Ending) (w' : World) : Prop :=
  ∃ A c, e = .returned (.tuple #[.slice A L.length c, .int .i64 E]) ∧ Pnds w' A L.length c L ∧ Below w.heap.size w w'
theorem RPlan.none (w : World) (L : List Pnd) (E : Int) (w' : World) (hL : L = []) (hb : Below w.heap.size w w') : RPlan w L E (.returned (.tuple #[.slice none 0 0, .int .i64 E])) w' := by
  subst hL
  exact ⟨Option.none, 0, rfl, Pnds.nil _, hb⟩
end Go.Proofs.Ytiibmlbenamgcaa

/- PART FOUR -/
namespace Go.Proofs.Ytiibmlbenamgcaa
open Go.RowKit
set_option linter.unusedVariables false

end Go.Proofs.Ytiibmlbenamgcaa

/- PART FIVE -/
namespace Go.Proofs.Ytiibmlbenamgcaa
open Go.RowKit
set_option linter.unusedVariables false

end Go.Proofs.Ytiibmlbenamgcaa
