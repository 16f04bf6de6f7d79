/- Rows of elements of two cells, of the call's own. No statement is proved here. -/
import Derived.Test.YteinfkjlcpfeiaaDup
import Derived.Test.YteinfkjlcpfeiaaBase2
import Derived.Test.YteinfkjlcpfeiaaDiskMath
import Derived.Deep.Matrix
import Derived.Lib.SmallJoins
namespace Go.Proofs.Yteinfkjlcpfeiaa
open Go.RowKit Go.OpenShut Go.ChangeShapes Go.WideShapes Go.Deep
set_option linter.unusedVariables false

/-- A cell of a row of the call's own. -/
theorem owns_cell {w : World} {base : Nat} {e : TypeId} {s : Nat} {A : Option Addr} {n c j : Nat} {xs : List Value} {v : Value} (h : w.ownsRow base e s (.slice A n c) n xs) (hj : xs[j]? = some v) :
    ∃ g, A = some ⟨g, 0, none⟩ ∧ g < w.heap.size ∧ w.cell? ⟨g, j, none⟩ = some v := by
  have hl := h.1
  have hjl := (List.getElem?_eq_some_iff.1 hj).1
  rcases h.2 with ⟨e, h0⟩ | ⟨g, cap, cur, hv, hb, hg, _⟩
  · rw [h0, Nat.zero_mul] at hl; omega
  · cases hv
    exact ⟨g, rfl, (Array.getElem?_eq_some_iff.1 hg).1, (h.cellAt j (by rw [← hl]; exact hjl)).trans hj⟩
theorem owns_at2 {w : World} {base : Nat} {e : TypeId} {A : Option Addr} {n c k : Nat} {xs : List Value} (h : w.ownsRow base e 2 (.slice A n c) n xs) (hk : k < n * 2) :
    ∃ g v, A = some ⟨g, 0, none⟩ ∧ base ≤ g ∧ w.cell? ⟨g, k, none⟩ = some v ∧ w.frozen? ⟨g, k, none⟩ = false ∧ ∀ u, (w.setCell ⟨g, k, none⟩ u).ownsRow base e 2 (.slice A n c) n (xs.set k u) := by
  have hl := h.1
  rcases h.2 with ⟨_, h0⟩ | ⟨g, cap, cur, hv, hb, _⟩
  · omega
  · cases hv
    have hkl : k < xs.length := by omega
    exact ⟨g, xs[k], rfl, hb, by rw [h.cellAt k (by omega), List.getElem?_eq_getElem hkl], h.frozenAt k, fun u => (h.stored k u).1⟩
theorem owns_other2 {w : World} {e e' : TypeId} (he : e ≠ e') {b b' : Nat} {v v' : Value} {k k' s s' : Nat} {xs xs' : List Value} (h : w.ownsRow b e s v k xs) (h' : w.ownsRow b' e' s' v' k' xs') : v.ownBlock = none ∨ v.ownBlock ≠ v'.ownBlock := by
  rcases h.2 with ⟨rfl, _⟩ | ⟨g, cap, cur, rfl, _, hg, _⟩
  · exact .inl rfl
  rcases h'.2 with ⟨rfl, _⟩ | ⟨g', cap', cur', rfl, _, hg', _⟩
  · exact .inr (by simp [Value.ownBlock])
  · refine .inr fun e2 => ?_
    have e3 : g = g' := by simpa [Value.ownBlock] using e2
    rw [e3, hg'] at hg
    simp at hg
    exact he hg.2.symm
theorem owns_under {w w' : World} {base : Nat} {e : TypeId} {s : Nat} {v : Value} {k : Nat} {xs : List Value} (hx : w.ownsRow base e s v k xs) {row : Option Nat} (hg : w.grownBy w' row) (hr : ∀ g, row = some g → g < base) : w'.ownsRow base e s v k xs := hx.kept hg (by
  rcases hy : v.ownBlock with _ | gc
  · exact .inl rfl
  · refine .inr (fun e2 => ?_)
    have h1 := (hx.lt gc hy).1
    have h2 := hr gc e2.symm
    omega)
theorem owns_other_box {w : World} {e t : TypeId} {base g s : Nat} {v : Value} {k : Nat} {xs cs : List Value} (h : w.ownsRow base e s v k xs) (hb : Blk w g t cs) (ht : t ≠ e) (i : Nat) (u : Value) : (w.setCell ⟨g, i, none⟩ u).ownsRow base e s v k xs := by
  refine h.kept (grownBy_set w g i u) ?_
  rcases h.2 with ⟨rfl, _⟩ | ⟨g', cap, cur, rfl, _, hg, _⟩
  · exact .inl rfl
  · refine .inr fun e2 => ?_
    have e3 : g' = g := by simpa [Value.ownBlock] using e2
    unfold Blk at hb
    rw [e3, hb] at hg
    simp at hg
    exact ht hg.2
theorem ownsRow_some {W : World} {base : Nat} {e : TypeId} {size : Nat} {v : Value} {k : Nat} {xs : List Value} (h : W.ownsRow base e size v (k + 1) xs) : ∃ g cap, v = .slice (some ⟨g, 0, none⟩) (k + 1) cap := by
  rcases h.2 with ⟨_, h0⟩ | ⟨g, cap, _, rfl, _⟩
  · omega
  · exact ⟨g, cap, rfl⟩
/-- append(out, a literal of one element of two cells). -/
theorem run_app2 {P : Program} (w : World) (base : Nat) (t ty e : TypeId) (i : TypeInfo) (z : Value) (bytes : Nat) (ht : P.underlying t = some (.slice e)) (hi : P.info? e = some i) (hz : i.zero = some z)
    (hsize : i.size = 2) (hby : i.bytes = bytes) (hzs : z.cells.size = 2) (v : Value) (n : Nat) (xs : List Value) (hown : w.ownsRow base e 2 v n xs)
    (b : Nat) (x y : Value) (hlit : Blk w b e [x, y]) (h1 : x.oneCell' = true) (h2 : y.oneCell' = true)
    (h63 : n + 1 ≤ maxLen) (hbytes : (n + 1) * bytes ≤ 140737488355328) (hbase : base ≤ w.heap.size) :
    ∃ v' w', (Builtin.append_ #[t, t] ty #[v, .slice (some ⟨b, 0, none⟩) 1 1]).run P w = .ok v' w' ∧ w'.ownsRow base e 2 v' (n + 1) (xs ++ [x, y]) ∧ w.grownBy w' v.ownBlock ∧ (v'.ownBlock = v.ownBlock ∨ v'.ownBlock = some w.heap.size) := by
  have hcs : ∀ j u, [x, y][j]? = some u → w.cell? ((⟨b, 0, none⟩ : Addr).add j) = some u := by
    intro j u hu
    have e2 : (⟨b, 0, none⟩ : Addr).add j = ⟨b, 0 + j, none⟩ := by unfold Addr.add; split <;> simp_all
    rw [e2, Nat.zero_add, hlit.cell j]
    exact hu
  obtain ⟨v', w', h, r2, r3, _, r5⟩ := run_append_own_at (P := P) w base t ty e i z 2 bytes ht hi hz hsize hby hzs (by omega) v n xs hown ⟨b, 0, none⟩ 1 1 [x, y] rfl hcs (by intro u hu; simp at hu; rcases hu with rfl | rfl <;> assumption) h63 hbytes hbase
  exact ⟨v', w', h, r2, r3, r5⟩

end Go.Proofs.Yteinfkjlcpfeiaa
