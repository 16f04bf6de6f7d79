/- More small facts on memory: a copy of its own. No statement is proved here. -/
import Derived.Test.YteinfkjlcpfeiaaBase
namespace Go.Proofs.Yteinfkjlcpfeiaa
open Go.RowKit

/-- append([]T{}, x...): a copy of its own. -/
theorem wpList_dup {P : Program} (w : World) {ops : Array Oper} {rest : List Oper} {o : Oper} {a : Act} {Q : Exit → Act → World → Prop} (hgd : o.guard = none) (s x : Operand) (t : TypeId)
    (ho : o.op = .call { callee := .builtin .append, args := #[s, x], argTypes := #[t, t] })
    (e : TypeId) (i : TypeInfo) (z : Value) (bytes : Nat) (ht : P.underlying t = some (.slice e)) (hi : P.info? e = some i) (hz : i.zero = some z)
    (hsize : i.size = 1) (hby : i.bytes = bytes) (hzs : z.cells.size = 1) (hs : a.eval s = .slice (some ⟨w.heap.size, 0, none⟩) 0 0)
    (A : Option Addr) (m c : Nat) (news : List Value) (hx : a.eval x = .slice A m c) (hl : news.length = m) (hr : Seq w w.heap.size A news) (h1 : ∀ u ∈ news, u.oneCell' = true)
    (h63 : m ≤ maxLen) (hbytes : m * bytes ≤ 140737488355328)
    (h : ∀ A' c' w', w'.ownsRow w.heap.size e 1 (.slice A' m c') m news → Below w.heap.size w w' → wpList P ops Q rest (a.put o.dst (.slice A' m c')) w') : wpList P ops Q (o :: rest) a (w.alloc (.cells #[] e)) := by
  have hlit : (w.alloc (.cells #[] e)).ownsRow w.heap.size e 1 (.slice (some ⟨w.heap.size, 0, none⟩) 0 0) 0 [] := World.ownsRow_lit w #[] 0 (Nat.le_refl _) (by decide) rfl
  refine wpList_app _ hgd s x t ho w.heap.size e i z bytes ht hi hz hsize hby hzs _ 0 [] hs hlit w.heap.size A m c news hx hl (hr.alloc (Nat.le_refl _) _) h1 (by omega) (by rw [Nat.zero_add]; exact hbytes) (by simp) ?_
  intro v' w' hown hg _
  rw [Nat.zero_add, List.nil_append] at hown
  obtain ⟨A', c', rfl⟩ := owns_slice hown
  exact h A' c' w' hown (((Below.refl _ _).alloc (Nat.le_refl _) _).grown hg (by simp) (fun g e => by have e : some w.heap.size = some g := e; injection e with e; omega))

/-- One cell of a row of the call's own: it is there, and may be written. -/
theorem owns_at {w : World} {base : Nat} {e : TypeId} {A : Option Addr} {n c k : Nat} {xs : List Value} (h : w.ownsRow base e 1 (.slice A n c) n xs) (hk : k < n) :
    ∃ g v, A = some ⟨g, 0, none⟩ ∧ base ≤ g ∧ w.cell? ⟨g, k, none⟩ = some v ∧ w.frozen? ⟨g, k, none⟩ = false ∧ ∀ u, (w.setCell ⟨g, k, none⟩ u).ownsRow base e 1 (.slice A n c) n (xs.set k u) := by
  have hl := h.1
  rcases h.2 with ⟨_, h0⟩ | ⟨g, cap, cur, hv, hb, _⟩
  · omega
  · cases hv
    have hkl : k < xs.length := by omega
    exact ⟨g, xs[k], rfl, hb, by rw [h.cellAt k (by omega), List.getElem?_eq_getElem hkl], h.frozenAt k, fun u => (h.stored k u).1⟩

/-- One number of a row of the call's own. -/
theorem owns_int_at {w : World} {base : Nat} {e : TypeId} {A : Option Addr} {n c j : Nat} {k : IntKind} {zs : List Int} (h : w.ownsRow base e 1 (.slice A n c) n (ints k zs)) (hj : j < n) :
    ∃ g, A = some ⟨g, 0, none⟩ ∧ base ≤ g ∧ w.cell? ⟨g, j, none⟩ = some (.int k (zs.getD j 0)) ∧ w.frozen? ⟨g, j, none⟩ = false ∧ ∀ x, (w.setCell ⟨g, j, none⟩ (.int k x)).ownsRow base e 1 (.slice A n c) n (ints k (zs.set j x)) := by
  have hl := h.1
  rw [ints_length] at hl
  obtain ⟨g, v, rfl, hb, hc, hf, hset⟩ := owns_at h hj
  refine ⟨g, rfl, hb, ?_, hf, fun x => ?_⟩
  · have := h.cellAt j (by omega)
    rw [this, ints_getD k zs j (by omega)]
  · have := hset (.int k x)
    rwa [show (ints k zs).set j (.int k x) = ints k (zs.set j x) from by simp [ints, List.map_set]] at this

/-- A row of the call's own stays where another one is laid. -/
theorem _root_.Go.World.ownsRow.allocated {w : World} {base : Nat} {e : TypeId} {size : Nat} {v : Value} {n : Nat} {xs : List Value} (h : w.ownsRow base e size v n xs) (o : Obj) : (w.alloc o).ownsRow base e size v n xs :=
  owns_below h ((Below.refl _ _).alloc (Nat.le_refl _) o)

end Go.Proofs.Yteinfkjlcpfeiaa
