/- append at a step of a region that draws its order: a copy of its own, and one text more behind texts. No statement is proved here. -/
import Derived.Test.YtibegaoegpanpaaTexts
import Derived.Test.YtibegaoegpanpaaStepDup
import Derived.Deep.RegionHeld3
namespace Go.Proofs.Ytibegaoegpanpaa
open Go.RowKit
set_option linter.unusedVariables false

theorem step_text {P : Program} (w0 w : World) {ops : Array Oper} {o : Oper} {a : Act} {K : Act → World → Prop} {Q : Exit → Act → World → Prop} {E : Prop} (hgd : o.guard = none) (s x : Operand) (t : TypeId)
    (ho : o.op = .call { callee := .builtin .append, args := #[s, x], argTypes := #[t, t] }) (i : TypeInfo) (z : Value) (ht : P.underlying t = some (.slice 26)) (hi : P.info? 26 = some i) (hz : i.zero = some z)
    (hsize : i.size = 1) (hby : i.bytes = 24) (hzs : z.cells.size = 1) (base : Nat) (A0 : Option Addr) (n c0 : Nat) (zss : List (List Int)) (hs : a.eval s = .slice A0 n c0) (hown : OwnTexts w base A0 n c0 zss)
    (Ai : Option Addr) (ni ci : Nat) (zs : List Int) (hb : ∀ z ∈ zs, isByte z) (hoi : w.ownsRow base 5 1 (.slice Ai ni ci) ni (ints .u8 zs)) (hx : a.eval x = .slice (some ⟨w.heap.size, 0, none⟩) 1 1)
    (h63 : n + 1 ≤ maxLen) (hbytes : (n + 1) * 24 ≤ 140737488355328) (hbel : Below base w0 w) (hw0 : base ≤ w0.heap.size)
    (h : ∀ A' c' w', OwnTexts w' base A' (n + 1) c' (zss ++ [zs]) → Below base w0 w' → K (a.put o.dst (.slice A' (n + 1) c')) w') :
    if Region.wanted o (yielded ops a.tmps) = true then Oper.wp P o a (w.alloc (.cells #[.slice Ai ni ci] 26)) K Q else E := by
  have hw : Region.wanted o (yielded ops a.tmps) = true := by simp [Region.wanted, hgd]
  rw [if_pos hw]
  obtain ⟨A', c', w', hrun, h2, h3⟩ := run_text (P := P) w0 w t o.type i z ht hi hz hsize hby hzs base A0 n c0 zss hown Ai ni ci zs hb hoi h63 hbytes hbel hw0
  unfold Oper.wp execOp
  simp only [ho, resolve, invoke, builtin, Sem.run_bind, Sem.run_pure, Result.andThen_ok, List.map_toArray, List.map_cons, List.map_nil, hs, hx, hrun]
  exact h A' c' w' h2 h3

end Go.Proofs.Ytibegaoegpanpaa
