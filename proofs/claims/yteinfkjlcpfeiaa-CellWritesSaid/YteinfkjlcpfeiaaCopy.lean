/- copy into a row of the call's own, its source a row that is read. No statement is proved here. -/
import Derived.Test.YteinfkjlcpfeiaaBase
import Derived.Laws.CopyOwn
namespace Go.Proofs.Yteinfkjlcpfeiaa
open Go.RowKit

theorem wpList_copy_seq {P : Program} {w : World} {ops : Array Oper} {rest : List Oper} {o : Oper} {a : Act} {Q : Exit → Act → World → Prop} (hgd : o.guard = none) (d s : Operand) (dT sT : TypeId)
    (ho : o.op = .call { callee := .builtin .copy, args := #[d, s], argTypes := #[dT, sT] }) (elem : TypeId) (hu : P.underlying dT = some (.slice elem)) (hsz : (P.info? elem).map (·.size) = some 1)
    (A : Option Addr) (g off dLen dCap sLen sCap : Nat) (hd : a.eval d = .slice (some ⟨g, off, none⟩) dLen dCap) (hs : a.eval s = .slice A sLen sCap)
    (cur : List Value) (t : TypeId) (hg : Blk w g t cur) (cs : List Value) (hn : cs.length = Nat.min sLen dLen) (B0 : Nat) (hsrc : Seq w B0 A cs)
    (hfit : off + cs.length ≤ cur.length) (h1 : ∀ v ∈ cs, v.oneCell' = true) (B : Nat) (w0 : World) (hb : Below B w0 w) (hBg : B ≤ g)
    (h : ∀ w', Hid (Blk w' g t (splice cur off cs)) → Below B w0 w' → wpList P ops Q rest (a.put o.dst (goInt cs.length)) w') :
    wpList P ops Q (o :: rest) a w := by
  refine wpList_copy_splice hgd d s dT sT ho elem hu hsz (some ⟨g, off, none⟩) A dLen dCap sLen sCap hd hs g off cur t hg cs hn ?_ hfit h1 B w0 hb hBg (fun w' hw' hb' => h w' (Lib.hid hw'.out) hb')
  intro hp
  obtain ⟨bb, o, e, hlt, hc⟩ := hsrc.at_ hp
  refine ⟨rfl, _, e, fun j v hv => ?_⟩
  have e2 : (⟨bb, o, none⟩ : Addr).add j = ⟨bb, o + j, none⟩ := by unfold Addr.add; split <;> simp_all
  rw [e2]; exact hc j v hv

end Go.Proofs.Yteinfkjlcpfeiaa
