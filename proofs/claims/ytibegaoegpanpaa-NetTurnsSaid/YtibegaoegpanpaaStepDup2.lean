/- append([]T{}, x...) in a world where the empty literal lies anywhere; nothing of the program. No statement is proved here. -/
import Derived.Test.YtibegaoegpanpaaStepDup
import Derived.Laws.Append
import Derived.Deep.Upon
namespace Go.Proofs.Ytibegaoegpanpaa
open Go.RowKit
set_option linter.unusedVariables false

theorem run_dup_at {P : Program} (w : World) (base : Nat) (t ty e : TypeId) (i : TypeInfo) (z : Value) (bytes : Nat) (ht : P.underlying t = some (.slice e)) (hi : P.info? e = some i) (hz : i.zero = some z)
    (hsize : i.size = 1) (hby : i.bytes = bytes) (hzs : z.cells.size = 1) (A0 : Option Addr) (hown : w.ownsRow base e 1 (.slice A0 0 0) 0 [])
    (B : Nat) (A : Option Addr) (m c : Nat) (news : List Value) (hl : news.length = m) (hr : Seq w B A news) (h1 : ∀ u ∈ news, u.oneCell' = true)
    (h63 : m ≤ maxLen) (hbytes : m * bytes ≤ 140737488355328) (hbase : base ≤ w.heap.size) :
    ∃ A' c' w', (Builtin.append_ #[t, t] ty #[.slice A0 0 0, .slice A m c]).run P w = .ok (.slice A' m c') w' ∧ w'.ownsRow base e 1 (.slice A' m c') m news ∧ Below w.heap.size w w' := by
  obtain ⟨v', w', hrun, hown', hg, _⟩ := run_app (P := P) w base t ty e i z bytes ht hi hz hsize hby hzs _ 0 [] hown B A m c news hl hr h1 (by omega) (by rw [Nat.zero_add]; exact hbytes) hbase
  rw [Nat.zero_add, List.nil_append] at hown'
  obtain ⟨A', c', rfl⟩ := owns_slice hown'
  refine ⟨A', c', w', hrun, hown', ?_⟩
  have hml : maxLen ≤ 9223372036854775807 := by decide
  by_cases hm : m = 0
  · subst hm
    have hn : news = [] := List.eq_nil_of_length_eq_zero hl
    have e2 : (Builtin.append_ #[t, t] ty #[.slice A0 0 0, .slice A 0 c]).run P w = .ok (.slice A0 0 0) w := by
      have hlc : ∀ a : Addr, (loadCells a 0).run P w = .ok #[] w := fun a => by simpa using run_loadCells_list (P := P) w a [] (by simp)
      cases A <;> cases A0 <;> simp [Builtin.append_, run_underlying ht, sizeOf, typeInfo, hi, Builtin.lenOf, Builtin.firstCells, storeCells, hlc]
    rw [e2] at hrun
    injection hrun with _ hw
    subst hw
    exact Below.refl _ _
  · cases A with
    | none =>
      exfalso
      cases news with
      | nil => exact hm hl.symm
      | cons x r =>
        obtain ⟨_, _, e, _⟩ := hr 0 x rfl
        cases e
    | some a =>
      have hcs : ∀ j u, news[j]? = some u → w.cell? (a.add j) = some u := by
        intro j u hu
        obtain ⟨b, o, e, _, hc⟩ := hr j u hu
        injection e with e
        subst e
        have e2 : (⟨b, o, none⟩ : Addr).add j = ⟨b, o + j, none⟩ := by unfold Addr.add; split <;> simp_all
        rw [e2]; exact hc
      have hfit : Builtin.nextslicecap (0 + m) 0 * i.bytes ≤ 281474976710656 := by
        rw [hby]
        exact growslice_fits (by omega) (by rw [Nat.zero_add]; exact hbytes)
      cases A0 with
      | none =>
        have e2 := run_append_nil (P := P) (w := w) t ty e i z ht hi hz a m c news (by rw [hsize, Nat.mul_one]; exact hl) hcs (by omega) (by omega) (by rw [hby]; omega)
        rw [e2] at hrun
        injection hrun with _ hw
        subst hw
        exact ((Below.refl _ w).drew).alloc (Nat.le_refl _) _
      | some b =>
        have e2 := run_append_grow (P := P) (w := w) t ty e i z ht hi hz b 0 0 [] (by simp) (by simp) a m c news (by rw [hsize, Nat.mul_one]; exact hl) hcs (by omega) (by omega) hfit
        rw [e2] at hrun
        injection hrun with _ hw
        subst hw
        exact ((Below.refl _ w).drew).alloc (Nat.le_refl _) _
/-- append([]T{}, x...), at a step of a region that draws its order. -/
theorem step_dup_at {P : Program} (w : World) {ops : Array Oper} {o : Oper} {a : Act} {K : Act → World → Prop} {Q : Exit → Act → World → Prop} {E : Prop} (hgd : o.guard = none) (s x : Operand) (t : TypeId)
    (ho : o.op = .call { callee := .builtin .append, args := #[s, x], argTypes := #[t, t] })
    (base : Nat) (e : TypeId) (i : TypeInfo) (z : Value) (bytes : Nat) (ht : P.underlying t = some (.slice e)) (hi : P.info? e = some i) (hz : i.zero = some z)
    (hsize : i.size = 1) (hby : i.bytes = bytes) (hzs : z.cells.size = 1) (A0 : Option Addr) (hs : a.eval s = .slice A0 0 0) (hown : w.ownsRow base e 1 (.slice A0 0 0) 0 [])
    (B : Nat) (A : Option Addr) (m c : Nat) (news : List Value) (hx : a.eval x = .slice A m c) (hl : news.length = m) (hr : Seq w B A news) (h1 : ∀ u ∈ news, u.oneCell' = true)
    (h63 : m ≤ maxLen) (hbytes : m * bytes ≤ 140737488355328) (hbase : base ≤ w.heap.size)
    (h : ∀ A' c' w', w'.ownsRow base e 1 (.slice A' m c') m news → Below w.heap.size w w' → K (a.put o.dst (.slice A' m c')) w') :
    if Region.wanted o (yielded ops a.tmps) = true then Oper.wp P o a w K Q else E := by
  have hw : Region.wanted o (yielded ops a.tmps) = true := by simp [Region.wanted, hgd]
  rw [if_pos hw]
  obtain ⟨A', c', w', hrun, h2, h3⟩ := run_dup_at (P := P) w base t o.type e i z bytes ht hi hz hsize hby hzs A0 hown B A m c news hl hr h1 h63 hbytes hbase
  unfold Oper.wp execOp
  simp only [ho, resolve, invoke, builtin, Sem.run_bind, Sem.run_pure, Result.andThen_ok, List.map_toArray, List.map_cons, List.map_nil, hs, hx, hrun]
  exact h A' c' w' h2 h3
end Go.Proofs.Ytibegaoegpanpaa
