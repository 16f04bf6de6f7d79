/- What MetaRuns asks beside the texts that it shares with MetaNames. -/
import Derived.Test.YtifgcfepbenpjaaGreatNb50
import Derived.BigQuiet
import Derived.Deep.AppendLies
import Derived.Deep.Draws
import Derived.Deep.Matrix
import Derived.Deep.QuietTactic
import Derived.Deep.RegionHeld3
import Derived.Deep.RegionWith
import Derived.Deep.SlicePairs
import Derived.Deep.Slices
import Derived.Laws.StructEq
import Derived.Lib.Bytes
import Derived.Lib.Hide
import Derived.Lib.SmallJoins
import Derived.Maps.AppendAt
import Derived.OpenShut
import Derived.ScopeJumps
import Derived.StillTailTactics
import Derived.WalkKit
import Derived.WalkLawsBesides
import Derived.WalkMore
import Derived.WalkSpells
set_option maxRecDepth 100000
set_option maxHeartbeats 12800000
namespace Go.Proofs.YtifgcfepbenpjaaGreat
open Go.RowKit

section
variable {w w' : World} {B B' : Nat} {A : Option Addr} {xs ys : List Value}

end

/-- What a law's frame tells of a slice of integers that came in. -/
def IsRow (k : IntKind) (w : World) (a : Option Addr) (len cap : Nat) (zs : List Int) : Prop :=
  (a = none ∧ len = 0 ∧ cap = 0 ∧ zs = []) ∨
  ∃ x, a = some x ∧ len ≤ cap ∧ cap ≤ maxLen ∧ zs.length = cap ∧ (∀ i, i < zs.length → w.cell? (x.add i) = some (.int k (zs.getD i 0))) ∧ ∀ n ∈ zs, (Lit.int k n).wf = true

/-- It reads as the list of its elements, below the heap's end, each fitting its kind. -/
theorem IsRow.read {k : IntKind} {w : World} {a : Option Addr} {len cap : Nat} {zs : List Int} (h : IsRow k w a len cap zs) :
    ∃ l : List Int, l.length = len ∧ len ≤ cap ∧ cap ≤ maxLen ∧ Seq w w.heap.size a (ints k l) ∧ ∀ z ∈ l, (Lit.int k z).wf = true := by
  rcases h with ⟨rfl, rfl, rfl, rfl⟩ | ⟨x, rfl, hl, hm, hz, hc, hw⟩
  · exact ⟨[], rfl, Nat.le_refl _, by decide, Seq.empty, by simp⟩
  · refine ⟨zs.take len, by simp; omega, hl, hm, ?_, fun z hz => hw z (List.mem_of_mem_take hz)⟩
    intro j v hv
    have hj : j < len ∧ j < zs.length := by
      have : j < (ints k (zs.take len)).length := by
        rcases Nat.lt_or_ge j (ints k (zs.take len)).length with h | h
        · exact h
        · rw [List.getElem?_eq_none h] at hv; cases hv
      simp [ints] at this
      omega
    have hv' : v = .int k (zs.getD j 0) := by
      have e := ints_getD k (zs.take len) j (by simp; omega)
      rw [e] at hv
      injection hv with hv
      rw [← hv]
      simp [hj.1]
    subst hv'
    obtain ⟨b, o, spot⟩ := x
    have h0 := hc 0 (by omega)
    have hs : spot = none := by simpa [Addr.add] using World.cell?_spot h0
    subst hs
    have hcj := hc j hj.2
    have e : (⟨b, o, none⟩ : Addr).add j = ⟨b, o + j, none⟩ := by unfold Addr.add; split <;> simp_all
    rw [e] at hcj
    exact ⟨b, o, rfl, World.block_lt_of_cell? w _ hcj, hcj⟩

section
variable {w w' : World} {g : Nat} {t : TypeId} {cs : List Value}
end
end Go.Proofs.YtifgcfepbenpjaaGreat

namespace Go.Proofs.YtifgcfepbenpjaaGreat
open Go.RowKit

end Go.Proofs.YtifgcfepbenpjaaGreat

namespace Go.Proofs.YtifgcfepbenpjaaGreat
open Go.RowKit Go.OpenShut
set_option linter.unusedVariables false

theorem IsRow.arg {k : IntKind} {w : World} {a : Option Addr} {len cap : Nat} {zs : List Int} (h : IsRow k w a len cap zs) : ∃ l : List Int, Arg w k a len cap l ∧ ∀ z ∈ l, (Lit.int k z).wf = true := by
  obtain ⟨l, h1, h2, h3, h4, h5⟩ := h.read
  exact ⟨l, ⟨h4, h1, h2, h3⟩, h5⟩
theorem wf_byte {z : Int} (h : (Lit.int .u8 z).wf = true) : isByte z := by
  have := bounds_u8 h
  exact ⟨this.1, by omega⟩
end Go.Proofs.YtifgcfepbenpjaaGreat

namespace Go.Proofs.YtifgcfepbenpjaaGreat
open Go.RowKit
set_option linter.unusedVariables false

end Go.Proofs.YtifgcfepbenpjaaGreat

namespace Go.Proofs.YtifgcfepbenpjaaGreat
open Go.RowKit Go.OpenShut
set_option linter.unusedVariables false

section
variable {w w' : World} {base base' : Nat} {A : Option Addr} {n c : Nat} {zs : List Int}
end
end Go.Proofs.YtifgcfepbenpjaaGreat

namespace Go.Proofs.YtifgcfepbenpjaaGreat
open Go.RowKit Go.OpenShut Go.ChangeShapes Go.WideShapes Go.Deep
set_option linter.unusedVariables false

end Go.Proofs.YtifgcfepbenpjaaGreat

namespace Go.Proofs.YtifgcfepbenpjaaGreat

end Go.Proofs.YtifgcfepbenpjaaGreat

namespace Go.Proofs.YtifgcfepbenpjaaGreat
open Go.RowKit Go.OpenShut Go.ChangeShapes Go.WideShapes Go.Deep
set_option linter.unusedVariables false

section
variable {w w' : World} {A : Option Addr} {n c : Nat} {ss : List Sec}
end

section
variable {w w' : World} {base base' : Nat} {A : Option Addr} {n c : Nat} {ss : List Sec}
end

end Go.Proofs.YtifgcfepbenpjaaGreat

namespace Go.Proofs.YtifgcfepbenpjaaGreat
open Go.RowKit Go.OpenShut Go.ChangeShapes Go.WideShapes Go.Deep
set_option linter.unusedVariables false

section
variable {w w' : World} {A : Option Addr} {n c : Nat} {ss : List Pnd}
end

section
variable {w w' : World} {base base' : Nat} {A : Option Addr} {n c : Nat} {ss : List Pnd}
end

end Go.Proofs.YtifgcfepbenpjaaGreat

namespace Go.Proofs.YtifgcfepbenpjaaGreat
open Go.RowKit Go.OpenShut Go.ChangeShapes Go.WideShapes Go.Deep Go.Joins
set_option linter.unusedVariables false

section
variable {w w' : World} {base base' : Nat} {A A' : Option Addr} {n c n' c' : Nat} {S : List Sec} {C : List Pnd}
end
/-- What a law's frame hands over: a row of bytes. -/
theorem open_text {H : Type} {enc : TypeId × Value → H} {W : World} {fuel : Nat} {v : Value} {y : DataW H × List MemPlace} (h : DataW.trod enc Tryz.prog W 0 (fun _ => true) true fuel 42 [v] = some y) :
    ∃ A n c zs, v = .slice A n c ∧ Arg W .u8 A n c zs ∧ ∀ z ∈ zs, isByte z := by
  rcases open_ints Tryz.underlying42 Tryz.underlying5 (by kernel_rfl) h with ⟨hcs, _⟩ | ⟨x, l, c, zs, hcs, _, hl, hm, hz, _, hcell, hwz⟩
  · have hv : v = .slice none 0 0 := by simpa using hcs
    exact ⟨none, 0, 0, [], hv, Arg.nil _ _, by simp⟩
  · have hv : v = .slice (some x) l c := by simpa using hcs
    have hrow : IsRow .u8 W (some x) l c zs := .inr ⟨_, rfl, hl, hm, by simpa using hz, hcell, hwz⟩
    obtain ⟨ls, h1, h2⟩ := hrow.arg
    exact ⟨some x, l, c, ls, hv, h1, fun z hz => wf_byte (h2 z hz)⟩

theorem add_none (b o i : Nat) : (⟨b, o, none⟩ : Addr).add i = ⟨b, o + i, none⟩ := by unfold Addr.add; split <;> simp_all

end Go.Proofs.YtifgcfepbenpjaaGreat

namespace Go.Proofs.YtifgcfepbenpjaaGreat
open Go.RowKit Go.OpenShut Go.ChangeShapes Go.WideShapes Go.Deep Go.Joins
set_option linter.unusedVariables false

theorem array6 {α : Type} {cs : Array α} (h : cs.size = 6) : ∃ c0 c1 c2 c3 c4 c5, cs = #[c0, c1, c2, c3, c4, c5] := by
  obtain ⟨l⟩ := cs
  match l, h with
  | [c0, c1, c2, c3, c4, c5], _ => exact ⟨c0, c1, c2, c3, c4, c5, rfl⟩
section
variable {P : Program} {w : World} {base : Nat} {H : Type} {enc : TypeId × Value → H}
theorem trod_six {t : TypeId} {f0 f1 f2 f3 f4 f5 : Field} {fuel : Nat} {cs : List Value} {x : DataW H × List MemPlace} (ht : P.underlying t = some (.struct #[f0, f1, f2, f3, f4, f5])) (h : DataW.trod enc P w base (fun _ => true) true fuel t cs = some x) :
    ∃ y0 y1 y2 y3 y4 y5 n, DataW.trod enc P w base (fun _ => true) true n f0.type ((cs.drop f0.offset).take (P.cellsOf f0.type)) = some y0 ∧
      DataW.trod enc P w base (fun _ => true) true n f1.type ((cs.drop f1.offset).take (P.cellsOf f1.type)) = some y1 ∧ DataW.trod enc P w base (fun _ => true) true n f2.type ((cs.drop f2.offset).take (P.cellsOf f2.type)) = some y2 ∧
      DataW.trod enc P w base (fun _ => true) true n f3.type ((cs.drop f3.offset).take (P.cellsOf f3.type)) = some y3 ∧ DataW.trod enc P w base (fun _ => true) true n f4.type ((cs.drop f4.offset).take (P.cellsOf f4.type)) = some y4 ∧
      DataW.trod enc P w base (fun _ => true) true n f5.type ((cs.drop f5.offset).take (P.cellsOf f5.type)) = some y5 := by
  obtain ⟨xs, n, _, rfl, hl, hlen, hf⟩ := DataW.trod_struct ht h
  match xs, hlen with
  | [y0, y1, y2, y3, y4, y5], _ => exact ⟨y0, y1, y2, y3, y4, y5, n, by simpa using hf 0 f0 rfl, by simpa using hf 1 f1 rfl, by simpa using hf 2 f2 rfl, by simpa using hf 3 f3 rfl, by simpa using hf 4 f4 rfl, by simpa using hf 5 f5 rfl⟩
theorem open_six {r : Reach} {b0 : Nat} {t : TypeId} {f0 f1 f2 f3 f4 f5 : Field} {v : Value} {d : DataW H} {p : List MemPlace} (hs : P.underlying t = some (.struct #[f0, f1, f2, f3, f4, f5])) (hone : oneCellFields P #[f0, f1, f2, f3, f4, f5] = true) (hC : P.cellsOf t = 6)
    (hv : Value.okWide P w r b0 t v) (h : DataW.Trod enc P w base (fun _ => true) true t v d p) :
    ∃ (v0 v1 v2 v3 v4 v5 : Value) (y0 y1 y2 y3 y4 y5 : DataW H × List MemPlace) (n : Nat), v = .agg #[v0, v1, v2, v3, v4, v5] ∧
      DataW.trod enc P w base (fun _ => true) true n f0.type [v0] = some y0 ∧ DataW.trod enc P w base (fun _ => true) true n f1.type [v1] = some y1 ∧ DataW.trod enc P w base (fun _ => true) true n f2.type [v2] = some y2 ∧
      DataW.trod enc P w base (fun _ => true) true n f3.type [v3] = some y3 ∧ DataW.trod enc P w base (fun _ => true) true n f4.type [v4] = some y4 ∧ DataW.trod enc P w base (fun _ => true) true n f5.type [v5] = some y5 := by
  obtain ⟨cs, rfl, hsz⟩ := okWide_struct hs hv
  obtain ⟨c0, c1, c2, c3, c4, c5, rfl⟩ := array6 (hsz.trans hC)
  obtain ⟨fuel, hf⟩ := h
  obtain ⟨y0, y1, y2, y3, y4, y5, n, h0, h1, h2, h3, h4, h5⟩ := trod_six hs hf
  obtain ⟨o0, k0⟩ := hone_of hone 0 f0 rfl
  obtain ⟨o1, k1⟩ := hone_of hone 1 f1 rfl
  obtain ⟨o2, k2⟩ := hone_of hone 2 f2 rfl
  obtain ⟨o3, k3⟩ := hone_of hone 3 f3 rfl
  obtain ⟨o4, k4⟩ := hone_of hone 4 f4 rfl
  obtain ⟨o5, k5⟩ := hone_of hone 5 f5 rfl
  exact ⟨c0, c1, c2, c3, c4, c5, y0, y1, y2, y3, y4, y5, n, rfl, by simpa [Value.cells, o0, k0] using h0, by simpa [Value.cells, o1, k1] using h1, by simpa [Value.cells, o2, k2] using h2, by simpa [Value.cells, o3, k3] using h3, by simpa [Value.cells, o4, k4] using h4, by simpa [Value.cells, o5, k5] using h5⟩
end
set_option maxRecDepth 100000 in
/-- What a law's frame hands over: a config. -/
theorem open_cfg {H : Type} {enc : TypeId × Value → H} {W : World} {b0 : Nat} {r : Reach} {v : Value} {d : DataW H} {p : List MemPlace} (hv : Value.okWide Tryz.prog W r b0 36 v) (h : DataW.Trod enc Tryz.prog W 0 (fun _ => true) true 36 v d p) :
    ∃ P T A M Wi Q, v = cfgV P T A M Wi Q ∧ (Lit.int .i64 P).wf = true ∧ (Lit.int .i64 T).wf = true ∧ (Lit.int .i64 A).wf = true ∧ (Lit.int .i64 M).wf = true ∧ (Lit.int .i64 Wi).wf = true ∧ (Lit.int .i64 Q).wf = true := by
  obtain ⟨v0, v1, v2, v3, v4, v5, y0, y1, y2, y3, y4, y5, n, rfl, g0, g1, g2, g3, g4, g5⟩ := open_six Tryz.underlying36 (by kernel_rfl) (by kernel_rfl) hv h
  obtain ⟨z0, e0, _, w0⟩ := DataW.trod_int Tryz.underlying3 g0
  obtain ⟨z1, e1, _, w1⟩ := DataW.trod_int Tryz.underlying3 g1
  obtain ⟨z2, e2, _, w2⟩ := DataW.trod_int Tryz.underlying3 g2
  obtain ⟨z3, e3, _, w3⟩ := DataW.trod_int Tryz.underlying3 g3
  obtain ⟨z4, e4, _, w4⟩ := DataW.trod_int Tryz.underlying3 g4
  obtain ⟨z5, e5, _, w5⟩ := DataW.trod_int Tryz.underlying3 g5
  injection e0 with e0 _
  injection e1 with e1 _
  injection e2 with e2 _
  injection e3 with e3 _
  injection e4 with e4 _
  injection e5 with e5 _
  subst e0; subst e1; subst e2; subst e3; subst e4; subst e5
  exact ⟨z0, z1, z2, z3, z4, z5, rfl, w0, w1, w2, w3, w4, w5⟩

end Go.Proofs.YtifgcfepbenpjaaGreat

namespace Go.Proofs.YtifgcfepbenpjaaGreat
open Go.RowKit
set_option linter.unusedVariables false

end Go.Proofs.YtifgcfepbenpjaaGreat

namespace Go.Proofs.YtifgcfepbenpjaaGreat
open Go.RowKit
set_option linter.unusedVariables false

end Go.Proofs.YtifgcfepbenpjaaGreat

namespace Go.Proofs.YtifgcfepbenpjaaGreat
open Go.RowKit Go.OpenShut Go.ChangeShapes Go.WideShapes Go.Deep Go.Joins
set_option linter.unusedVariables false

theorem eq_rec (r s : Rc) (w : World) : (Op.equalIn 10000 64 (recV r) (recV s)).run Tryz.prog w = .ok (decide (r = s)) w := by
  have u1 := Tryz.underlying26
  have u2 := Tryz.underlying3
  have u3 := Tryz.underlying5
  have u4 := Tryz.underlying4
  have hS : Tryz.prog.underlying 64 = some (.struct (Tryz.prog.fieldsOf 64)) := by kernel_rfl
  have hp : Tryz.prog.stoodInHeld 64 = false := by kernel_rfl
  have e : decide (r = s) = (r.p == s.p && r.b == s.b && r.e == s.e && r.l == s.l && r.h == s.h && r.f == s.f && r.q == s.q && r.a == s.a) := by
    rw [Bool.eq_iff_iff]
    simp [Rc.eq_iff, and_assoc]
  rw [e, show (10000 : Nat) = 9999 + 1 from rfl, run_equalIn_agg w 9999 64 _ _ hS hp]
  simp only [Program.fieldsOf, Tryz.underlying64]
  go_simp
  by_cases h1 : r.p = s.p <;> by_cases h2 : r.b = s.b <;> by_cases h3 : r.e = s.e <;> by_cases h4 : r.l = s.l <;> by_cases h5 : r.h = s.h <;> by_cases h6 : r.f = s.f <;> by_cases h7 : r.q = s.q <;> by_cases h8 : r.a = s.a <;> simp [h1, h2, h3, h4, h5, h6, h7, h8]
section
variable {w w' : World} {A : Option Addr} {n c : Nat} {L : List Rc}
end

section
variable {w w' : World} {base base' : Nat} {A : Option Addr} {n c : Nat} {L : List Rc}
end
end Go.Proofs.YtifgcfepbenpjaaGreat

namespace Go.Proofs.YtifgcfepbenpjaaGreat
open Go.RowKit
set_option linter.unusedVariables false

theorem rec_same {a b : List Rc} {n : Nat} (ha : a.length = n) (hb : b.length = n) (h : ∀ y, y < n → a.getD y zR = b.getD y zR) : a = b := by
  refine List.ext_getElem (ha.trans hb.symm) fun i h1 h2 => ?_
  have := h i (by omega)
  simpa [List.getD_eq_getElem?_getD, h1, h2] using this
theorem same_len (A : Option Addr) (n c : Nat) (A' : Option Addr) (n' c' : Nat) (w : World) (hne : n ≠ n') :
    Calls Tryz.prog 30 #[.slice A n c, .slice A' n' c'] w fun e w' => e = .returned (.bool false) ∧ ∃ q, w' = w.drewN q := by
  have h2 : ¬ (n : Int) = (n' : Int) := by omega
  go_enter Tryz.func30, Tryz.ntmps30
  go_wp2
  go_ret
  exact ⟨rfl, 0, rfl⟩
set_option maxRecDepth 100000 in
set_option maxHeartbeats 1600000 in
theorem same11_any (A : Option Addr) (n c : Nat) (a : List Rc) (A' : Option Addr) (n' c' : Nat) (b : List Rc) (w : World) (ha : Recs w A n c a) (hb : Recs w A' n' c' b) :
    Calls Tryz.prog 30 #[.slice A n c, .slice A' n' c'] w fun e w' => e = .returned (.bool (decide (a = b))) ∧ ∃ q, w' = w.drewN q := by
  by_cases hn : n = n'
  · subst hn
    have HA := Lib.hid ha
    have HB := Lib.hid hb
    have hcm := Nat.le_trans ha.cap ha.max
    unfold maxLen at hcm
    have YES := Lib.hid fun h => (show decide (a = b) = true from decide_eq_true (rec_same ha.len hb.len h))
    have NO := Lib.hid fun k (h : a.getD k zR ≠ b.getD k zR) => (show decide (a = b) = false from decide_eq_false fun e => h (by rw [e]))
    obtain ⟨R, hR⟩ : ∃ R, R = decide (a = b) := ⟨_, rfl⟩
    rw [← hR] at YES NO ⊢
    clear ha hb hR
    go_enter Tryz.func30, Tryz.ntmps30
    go_wp2
    go_loopw [5] (fun i wr => ∃ k : Nat, k ≤ n ∧ i = .int .i64 k ∧ (∀ y, y < k → a.getD y zR = b.getD y zR) ∧ ∃ q, wr = w.drewN q) (fun i _ => n - (intOf i).toNat)
    case atStart => exact ⟨0, Nat.zero_le _, rfl, fun y hy => by omega, 0, rfl⟩
    case round =>
      obtain ⟨k, hk, rfl, hall, q, rfl⟩ := hrel
      have ALL := Lib.hid hall
      clear hall
      by_cases hkn : k < n
      · obtain ⟨b1, o1, rfl, hlt1, c0, c1, c2, c3, c4, c5, c6, c7⟩ := HA.out.row hkn
        obtain ⟨b2, o2, rfl, hlt2, d0, d1, d2, d3, d4, d5, d6, d7⟩ := HB.out.row hkn
        have NOK := Lib.hid (NO.out k)
        obtain ⟨r, hr⟩ : ∃ x, x = a.getD k zR := ⟨_, rfl⟩
        obtain ⟨s, hs⟩ : ∃ x, x = b.getD k zR := ⟨_, rfl⟩
        rw [← hr] at c0 c1 c2 c3 c4 c5 c6 c7 NOK
        rw [← hs] at d0 d1 d2 d3 d4 d5 d6 d7 NOK
        have HX := Lib.hid hr
        have HY := Lib.hid hs
        have eqr := eq_rec r s
        clear hr hs
        by_cases hxy : r = s
        · rw [decide_eq_true hxy] at eqr
          have HXY := Lib.hid hxy
          clear hxy
          go_wp2
          go_quiet (fail)
          go_wp2
          go_roundw
          case rel =>
            refine ⟨k + 1, by omega, by go_num, fun y' hy' => ?_, _, rfl⟩
            rcases Nat.lt_or_ge y' k with h' | h'
            · exact ALL.out y' h'
            · obtain rfl : y' = k := by omega
              rw [← HX.out, ← HY.out]
              exact HXY.out
          case measure => simp [intOf]; omega
        · rw [decide_eq_false hxy] at eqr
          have HN := Lib.hid (NOK.out hxy)
          clear hxy
          go_wp2
          go_quiet (fail)
          go_wp2
          go_ret
          rw [HN.out]
          exact ⟨rfl, _, by rw [World.drewN_drewN]⟩
      · obtain rfl : k = n := by omega
        have HY := Lib.hid (YES.out ALL.out)
        go_wp2
        go_ret
        rw [HY.out]
        exact ⟨rfl, q, rfl⟩
  · rw [show decide (a = b) = false from decide_eq_false fun e => hn (by rw [← ha.len, ← hb.len, e])]
    exact same_len A n c A' n' c' w hn
end Go.Proofs.YtifgcfepbenpjaaGreat

namespace Go.Proofs.YtifgcfepbenpjaaGreat
open Go.RowKit
set_option linter.unusedVariables false

theorem Blk.apart {w : World} {a b : Nat} {t t' : TypeId} {cs cs' : List Value} (h : Blk w a t cs) (h' : Blk w b t' cs') (ht : t ≠ t') : ¬ a = b := fun e => by
  subst e
  exact ht (h.ty h')
end Go.Proofs.YtifgcfepbenpjaaGreat

namespace Go.Proofs.YtifgcfepbenpjaaGreat
set_option linter.unusedVariables false

section
variable {P T A M W Q : Int} {S : List Sec} {s : Sup} {t t' : List Rc} {n B V : Int} {m : Mt} {b : Txt}
end

section
variable {P T A M W Q : Int} {S : List Sec} {m : Mt} {i : Int} {b : Txt} {t' : List Rc}
theorem Inv12.next (I : Inv12 P T A M W Q S m i) : Inv12 P T A M W Q S m (i + 1) := ⟨I.R.mono (Int.le_refl _) (by omega), ⟨I.boot.1, by have := I.boot.2; omega⟩, ⟨I.turn.1, by have := I.turn.2; omega⟩, I.all⟩
end
end Go.Proofs.YtifgcfepbenpjaaGreat

namespace Go.Proofs.YtifgcfepbenpjaaGreat
open Go.RowKit
set_option linter.unusedVariables false

theorem cmL_many {P T A M W Q : Int} {S : List Sec} {m : Mt} {b : Txt} : (cmL P T A M W Q S [] m b).length ≤ 10 := by
  unfold cmL
  split
  · refine cmA_many ?_
    cases h : putR m.t b with
    | none => exact trivial
    | some t' => exact (put_may h).2
  · exact Nat.zero_le _
end Go.Proofs.YtifgcfepbenpjaaGreat

namespace Go.Proofs.YtifgcfepbenpjaaGreat
set_option linter.unusedVariables false

section
variable {P T A M W Q : Int} {S : List Sec} {m : Mt} {b : Txt}
end
open Go.RowKit in
theorem same11_b (A : Option Addr) (n c : Nat) (a : List Rc) (A' : Option Addr) (n' c' : Nat) (b : List Rc) (w : World) (ha : Recs w A n c a) (hb : Recs w A' n' c' b) :
    Calls Tryz.prog 30 #[.slice A n c, .slice A' n' c'] w fun e w' => e = .returned (.bool (decide (a = b))) ∧ Below w.heap.size w w' := by
  refine (same11_any A n c a A' n' c' b w ha hb).mono ?_
  rintro e w' ⟨rfl, q, rfl⟩
  exact ⟨rfl, below_drewN (Below.refl _ _) q⟩
end Go.Proofs.YtifgcfepbenpjaaGreat

namespace Go.Proofs.YtifgcfepbenpjaaGreat
set_option linter.unusedVariables false

section
variable {P T A M W Q : Int} {S : List Sec} {m : Mt} {i : Int} {b : Txt} {t' : List Rc}
/-- A note that is done whole. -/
theorem run_all (I : Inv12 P T A M W Q S m i) (hi : i ≤ 1000) (hp : putR m.t b = some t') (hby : ∀ z ∈ b, isByte z) :
    cmE P T A M W Q S [] m b = 0 ∧ ∃ S', dnA (cmL P T A M W Q S [] m b) (cmL P T A M W Q S [] m b).length S [] = some (S', []) ∧ Inv12 P T A M W Q S' (cmO P T A M W Q S [] m b) (i + 1) := by
  obtain ⟨c1, c2, c3⟩ := I.com hi hp
  rw [c2, c3]
  obtain ⟨S', C', h1, _, _, h4⟩ := I.acts hi hp hby (cmA P T A M W Q S [] m b t').length
  obtain ⟨rfl, h5⟩ := h4 (Nat.le_refl _)
  exact ⟨c1, S', h1, h5⟩
/-- What is told of a disk behind a crash of a run, and behind the boots that follow. -/
structure Crash12 (P T A M W Q : Int) (S : List Sec) (s : Sup) (t : List Rc) (n B V i : Int) : Prop where
  R : Runs12 P T A M W Q S s t n B V
  boot : 0 ≤ s.1 ∧ s.1 + 1 ≤ 2 * i
  gen : B ≤ 65536 * (s.1 + 1)
  ver : V + 1 ≤ 3 * i
  few : 0 ≤ i ∧ i ≤ 1000
  all : allR t
theorem run_crash (I : Inv12 P T A M W Q S m i) (hi : i ≤ 900) (hp : putR m.t b = some t') (hby : ∀ z ∈ b, isByte z) (many : Nat) :
    ∃ S' C', dnA (cmL P T A M W Q S [] m b) many S [] = some (S', C') ∧ mayD S' C' = true ∧ ∀ F, ∃ s n t, s.1 = m.s.1 ∧ (t = m.t ∨ t = (cmO P T A M W Q S [] m b).t) ∧ Crash12 P T A M W Q (crS S' C' F) s t n (nextM m) (2 + 3 * i) (i + 1) := by
  obtain ⟨c1, c2, c3⟩ := I.com (by omega) hp
  obtain ⟨b1, b2, _, _⟩ := cmM_boot (A := A) (m := m) (t' := t')
  rw [c2, c3, b2]
  obtain ⟨S', C', h1, h2, h3, _⟩ := I.acts (by omega) hp hby many
  have hb := I.boot
  have hu := I.turn
  refine ⟨S', C', h1, h2, fun F => ?_⟩
  have hg : nextM m ≤ 65536 * (m.s.1 + 1) := by unfold nextM; omega
  rcases h3 F with R | R
  · exact ⟨m.s, m.n, m.t, rfl, .inl rfl, R, by omega, hg, by omega, by omega, I.all⟩
  · exact ⟨_, _, _, b1, .inr rfl, R, by rw [b1]; omega, by rw [b1]; exact hg, by omega, by omega, put_all hp I.all hby⟩
theorem isS_up {s : Sup} {t : List Rc} {n B V : Int} (R : Runs12 P T A M W Q S s t n B V) (hb : 0 ≤ s.1 ∧ s.1 + 1 ≤ 2 * i) (hB : B ≤ 65536 * (s.1 + 1)) (hi : i ≤ 1000) : isS (s.1 + 1, s.2.1, s.2.2) := by
  have := R.gen
  exact ⟨⟨by dsimp only; omega, by dsimp only; omega⟩, ⟨by dsimp only; omega, by dsimp only; omega⟩⟩
/-- Some of a boot's acts behind a crash, and one more crash. -/
theorem run_half {s : Sup} {t : List Rc} {n B V : Int} (C : Crash12 P T A M W Q S s t n B V i) (many : Nat) :
    bootE P T A M W Q S [] ⟨s, n, 0, t⟩ = 0 ∧ ∃ S' C', dnA (bootA P T A M W Q S [] ⟨s, n, 0, t⟩) many S [] = some (S', C') ∧ mayD S' C' = true ∧ ∀ F, ∃ s', (s'.1 = s.1 ∨ s'.1 = s.1 + 1) ∧ Runs12 P T A M W Q (crS S' C' F) s' t n B (V + 1) ∧ 0 ≤ s'.1 ∧ s'.1 ≤ 2 * i ∧ B ≤ 65536 * (s'.1 + 1) := by
  have hV : V < 4294967295 := by have := C.ver; have := C.few; omega
  have hs := isS_up C.R C.boot C.gen C.few.2
  obtain ⟨h1, _, h3⟩ := C.R.boots_ hV hs
  obtain ⟨_, S', C', g1, g2, g3, _⟩ := C.R.boots hV hs many
  have hb := C.boot
  have hg := C.gen
  refine ⟨h1, S', C', by rw [h3]; exact g1, g2, fun F => ?_⟩
  rcases g3 F with R | R
  · exact ⟨s, .inl rfl, R, by omega, by omega, hg⟩
  · exact ⟨_, .inr rfl, R, by dsimp only; omega, by dsimp only; omega, by dsimp only; omega⟩
/-- A boot that is done whole, behind that. -/
theorem run_boot {s : Sup} {t : List Rc} {n B V : Int} (R : Runs12 P T A M W Q S s t n B V) (hi : 0 ≤ i ∧ i ≤ 1000) (hb : 0 ≤ s.1 ∧ s.1 ≤ 2 * i) (hB : B ≤ 65536 * (s.1 + 1)) (hV : V ≤ 3 * i) (ha : allR t) :
    bootE P T A M W Q S [] ⟨s, n, 0, t⟩ = 0 ∧ bootM P T A M W Q S [] ⟨s, n, 0, t⟩ = ⟨(s.1 + 1, s.2.1, s.2.2), n, 0, t⟩ ∧ ∃ S', dnA (bootA P T A M W Q S [] ⟨s, n, 0, t⟩) (bootA P T A M W Q S [] ⟨s, n, 0, t⟩).length S [] = some (S', []) ∧ Inv12 P T A M W Q S' ⟨(s.1 + 1, s.2.1, s.2.2), n, 0, t⟩ i := by
  obtain ⟨hs, S', h1, h2⟩ := inv_boot R hi hb hB hV ha
  obtain ⟨h3, h4, h5⟩ := R.boots_ (by omega) hs
  refine ⟨h3, h4, S', ?_, h2⟩
  rw [h5]
  exact h1 _ (Nat.le_refl _)
theorem bootA_many {P T A M W Q : Int} {S : List Sec} {m : Mt} : (bootA P T A M W Q S [] m).length ≤ 2 := by
  unfold bootA
  split
  · rw [actsA_length]
    have := sp_one P T A M W Q S [] (bootS m)
    omega
  · exact Nat.zero_le _
end
end Go.Proofs.YtifgcfepbenpjaaGreat

namespace Go.Proofs.YtifgcfepbenpjaaGreat
open Go.RowKit Go.OpenShut Go.ChangeShapes Go.WideShapes Go.Deep Go.Joins
set_option linter.unusedVariables false

/-- A step: a note, how many acts, fates, how many again. -/
abbrev Stp := Txt × Int × Txt × Int
def zStp : Stp := ([], 0, [], 0)
structure Stps (w : World) (A : Option Addr) (n c : Nat) (L : List Stp) : Prop where
  len : L.length = n
  cap : n ≤ c
  max : c ≤ maxLen
  byte : ∀ s ∈ L, (∀ z ∈ s.1, isByte z) ∧ ∀ z ∈ s.2.2.1, isByte z
  at_ : ∀ i, i < n → ∃ b o A1 n1 c1 A2 n2 c2, A = some ⟨b, o, none⟩ ∧ b < w.heap.size ∧ w.cell? ⟨b, o + i * 4, none⟩ = some (.slice A1 n1 c1) ∧ w.cell? ⟨b, o + i * 4 + 1, none⟩ = some (.int .i64 (L.getD i zStp).2.1) ∧ w.cell? ⟨b, o + i * 4 + 2, none⟩ = some (.slice A2 n2 c2) ∧ w.cell? ⟨b, o + i * 4 + 3, none⟩ = some (.int .i64 (L.getD i zStp).2.2.2) ∧ Arg w .u8 A1 n1 c1 (L.getD i zStp).1 ∧ Arg w .u8 A2 n2 c2 (L.getD i zStp).2.2.1
section
variable {w w' : World} {A : Option Addr} {n c : Nat} {L : List Stp}
theorem Stps.below (h : Stps w A n c L) (hb : Below w.heap.size w w') : Stps w' A n c L :=
  ⟨h.len, h.cap, h.max, h.byte, fun i hi => by
    obtain ⟨b, o, A1, n1, c1, A2, n2, c2, e, hlt, h0, h1, h2, h3, a1, a2⟩ := h.at_ i hi
    exact ⟨b, o, A1, n1, c1, A2, n2, c2, e, Nat.lt_of_lt_of_le hlt hb.size, (hb.cell (p := ⟨b, _, none⟩) hlt).trans h0, (hb.cell (p := ⟨b, _, none⟩) hlt).trans h1, (hb.cell (p := ⟨b, _, none⟩) hlt).trans h2, (hb.cell (p := ⟨b, _, none⟩) hlt).trans h3, a1.below hb, a2.below hb⟩⟩
theorem Stps.nil (w : World) : Stps w none 0 0 [] := ⟨rfl, Nat.le_refl _, by decide, by simp, fun i hi => absurd hi (Nat.not_lt_zero _)⟩
theorem Stps.byte_at (h : Stps w A n c L) (i : Nat) : (∀ z ∈ (L.getD i zStp).1, isByte z) ∧ ∀ z ∈ (L.getD i zStp).2.2.1, isByte z := by
  rcases Nat.lt_or_ge i L.length with hi | hi
  · rw [List.getD_eq_getElem?_getD, List.getElem?_eq_getElem hi]
    exact h.byte _ (List.getElem_mem hi)
  · rw [List.getD_eq_getElem?_getD, List.getElem?_eq_none hi]
    exact ⟨fun z hz => absurd hz List.not_mem_nil, fun z hz => absurd hz List.not_mem_nil⟩
end
/-- One step as it lies. -/
structure StpC (w : World) (b o j : Nat) (A1 : Option Addr) (n1 c1 : Nat) (x : Int) (A2 : Option Addr) (n2 c2 : Nat) (y : Int) : Prop where
  lt : b < w.heap.size
  c0 : w.cell? ⟨b, o + j * 4, none⟩ = some (.slice A1 n1 c1)
  c1' : w.cell? ⟨b, o + j * 4 + 1, none⟩ = some (.int .i64 x)
  c2' : w.cell? ⟨b, o + j * 4 + 2, none⟩ = some (.slice A2 n2 c2)
  c3 : w.cell? ⟨b, o + j * 4 + 3, none⟩ = some (.int .i64 y)
theorem StpC.below {w w' : World} {b o j : Nat} {A1 : Option Addr} {n1 c1 : Nat} {x : Int} {A2 : Option Addr} {n2 c2 : Nat} {y : Int} (h : StpC w b o j A1 n1 c1 x A2 n2 c2 y) (hb : Below w.heap.size w w') : StpC w' b o j A1 n1 c1 x A2 n2 c2 y :=
  ⟨Nat.lt_of_lt_of_le h.lt hb.size, (hb.cell (p := ⟨b, _, none⟩) h.lt).trans h.c0, (hb.cell (p := ⟨b, _, none⟩) h.lt).trans h.c1', (hb.cell (p := ⟨b, _, none⟩) h.lt).trans h.c2', (hb.cell (p := ⟨b, _, none⟩) h.lt).trans h.c3⟩
theorem Stps.row {w : World} {A : Option Addr} {n c : Nat} {L : List Stp} (h : Stps w A n c L) {j : Nat} (hj : j < n) : ∃ b o A1 n1 c1 A2 n2 c2, A = some ⟨b, o, none⟩ ∧ StpC w b o j A1 n1 c1 (L.getD j zStp).2.1 A2 n2 c2 (L.getD j zStp).2.2.2 ∧ Arg w .u8 A1 n1 c1 (L.getD j zStp).1 ∧ Arg w .u8 A2 n2 c2 (L.getD j zStp).2.2.1 := by
  obtain ⟨b, o, A1, n1, c1, A2, n2, c2, e, hlt, h0, h1, h2, h3, a1, a2⟩ := h.at_ j hj
  exact ⟨b, o, A1, n1, c1, A2, n2, c2, e, ⟨hlt, h0, h1, h2, h3⟩, a1, a2⟩
section
variable {P : Program} {w : World} {base : Nat} {H : Type} {enc : TypeId × Value → H}
theorem trod_four {t : TypeId} {f0 f1 f2 f3 : Field} {fuel : Nat} {cs : List Value} {x : DataW H × List MemPlace} (ht : P.underlying t = some (.struct #[f0, f1, f2, f3])) (h : DataW.trod enc P w base (fun _ => true) true fuel t cs = some x) :
    ∃ y0 y1 y2 y3 n, DataW.trod enc P w base (fun _ => true) true n f0.type ((cs.drop f0.offset).take (P.cellsOf f0.type)) = some y0 ∧ DataW.trod enc P w base (fun _ => true) true n f1.type ((cs.drop f1.offset).take (P.cellsOf f1.type)) = some y1 ∧ DataW.trod enc P w base (fun _ => true) true n f2.type ((cs.drop f2.offset).take (P.cellsOf f2.type)) = some y2 ∧ DataW.trod enc P w base (fun _ => true) true n f3.type ((cs.drop f3.offset).take (P.cellsOf f3.type)) = some y3 := by
  obtain ⟨xs, n, _, rfl, hl, hlen, hf⟩ := DataW.trod_struct ht h
  match xs, hlen with
  | [y0, y1, y2, y3], _ => exact ⟨y0, y1, y2, y3, n, by simpa using hf 0 f0 rfl, by simpa using hf 1 f1 rfl, by simpa using hf 2 f2 rfl, by simpa using hf 3 f3 rfl⟩
end
set_option maxRecDepth 100000 in
theorem stp_of {H : Type} {enc : TypeId × Value → H} {W : World} {fuel : Nat} {cs : List Value} {y : DataW H × List MemPlace} (hl : cs.length = 4) (h : DataW.trod enc Tryz.prog W 0 (fun _ => true) true fuel 84 cs = some y) :
    ∃ s : Stp, (∃ A1 n1 c1 A2 n2 c2, cs = [.slice A1 n1 c1, .int .i64 s.2.1, .slice A2 n2 c2, .int .i64 s.2.2.2] ∧ Arg W .u8 A1 n1 c1 s.1 ∧ Arg W .u8 A2 n2 c2 s.2.2.1) ∧ (∀ z ∈ s.1, isByte z) ∧ (∀ z ∈ s.2.2.1, isByte z) ∧ (Lit.int .i64 s.2.1).wf = true ∧ (Lit.int .i64 s.2.2.2).wf = true := by
  obtain ⟨y0, y1, y2, y3, n, g0, g1, g2, g3⟩ := trod_four Tryz.underlying84 h
  match cs, hl with
  | [v0, v1, v2, v3], _ =>
    have g0 : DataW.trod enc Tryz.prog W 0 (fun _ => true) true n 42 [v0] = some y0 := g0
    obtain ⟨A1, n1, c1, z1, e0, a0, b0⟩ := open_text g0
    have g1 : DataW.trod enc Tryz.prog W 0 (fun _ => true) true n 3 [v1] = some y1 := g1
    obtain ⟨x1, e1, _, w1⟩ := DataW.trod_int Tryz.underlying3 g1
    have g2 : DataW.trod enc Tryz.prog W 0 (fun _ => true) true n 42 [v2] = some y2 := g2
    obtain ⟨A2, n2, c2, z2, e2, a2, b2⟩ := open_text g2
    have g3 : DataW.trod enc Tryz.prog W 0 (fun _ => true) true n 3 [v3] = some y3 := g3
    obtain ⟨x3, e3, _, w3⟩ := DataW.trod_int Tryz.underlying3 g3
    injection e1 with e1 _
    injection e3 with e3 _
    subst e0; subst e1; subst e2; subst e3
    exact ⟨(z1, x1, z2, x3), ⟨A1, n1, c1, A2, n2, c2, rfl, a0, a2⟩, b0, b2, w1, w3⟩
/-- A row of steps. -/
theorem open_stps {H : Type} {enc : TypeId × Value → H} {W : World} {fuel : Nat} {v : Value} {y : DataW H × List MemPlace} (h : DataW.trod enc Tryz.prog W 0 (fun _ => true) true fuel 81 [v] = some y) :
    ∃ A n c L, v = .slice A n c ∧ Stps W A n c L ∧ ∀ s ∈ L, (Lit.int .i64 s.2.1).wf = true ∧ (Lit.int .i64 s.2.2.2).wf = true := by
  rcases open_slice Tryz.underlying81 h with ⟨hcs, _⟩ | ⟨a, len, cap, m, k, D, Pl, hcs, _, hl, hm, hmm, _, hx⟩
  · have hv : v = .slice none 0 0 := by simpa using hcs
    exact ⟨none, 0, 0, [], hv, Stps.nil W, by simp⟩
  · have hv : v = .slice (some a) len cap := by simpa using hcs
    simp only [if_true] at hmm
    have hce : Tryz.prog.cellsOf 84 = 4 := by kernel_rfl
    have each : ∀ i, i < len → ∃ s : Stp, (∃ A1 n1 c1 A2 n2 c2, (∀ j v, [Value.slice A1 n1 c1, .int .i64 s.2.1, .slice A2 n2 c2, .int .i64 s.2.2.2][j]? = some v → W.cell? ((a.add (i * 4)).add j) = some v) ∧ Arg W .u8 A1 n1 c1 s.1 ∧ Arg W .u8 A2 n2 c2 s.2.2.1) ∧ ((∀ z ∈ s.1, isByte z) ∧ ∀ z ∈ s.2.2.1, isByte z) ∧ (Lit.int .i64 s.2.1).wf = true ∧ (Lit.int .i64 s.2.2.2).wf = true := fun i hi => by
      obtain ⟨cs', h1, h2⟩ := hx i (by omega)
      rw [hce] at h1
      obtain ⟨_, hlen, hcell⟩ := World.cells?_some h1
      obtain ⟨s, ⟨A1, n1, c1, A2, n2, c2, e, a1, a2⟩, b1, b2, w1, w2⟩ := stp_of hlen h2
      refine ⟨s, ⟨A1, n1, c1, A2, n2, c2, fun j v hv => ?_, a1, a2⟩, ⟨b1, b2⟩, w1, w2⟩
      have hj : j < 4 := by
        rcases Nat.lt_or_ge j 4 with hj | hj
        · exact hj
        · rw [List.getElem?_eq_none (by simpa using hj)] at hv; cases hv
      have h3 := hcell j hj
      rw [e] at h3
      rw [h3]
      exact hv
    obtain ⟨s, hs⟩ := choose_lt each
    refine ⟨some a, len, cap, (List.range len).map s, hv, ⟨by simp, hl, hm, ?_, fun i hi => ?_⟩, ?_⟩
    · intro t ht
      obtain ⟨r, hr, rfl⟩ := List.mem_map.1 ht
      exact (hs r (List.mem_range.1 hr)).2.1
    · obtain ⟨b, o, spot⟩ := a
      have hsp : spot = none := by
        obtain ⟨A1, n1, c1, A2, n2, c2, hc0, _⟩ := (hs 0 (by omega)).1
        simpa [Addr.add] using World.cell?_spot (hc0 0 _ rfl)
      subst hsp
      have e2 : ((List.range len).map s).getD i zStp = s i := by simp [List.getD_eq_getElem?_getD, hi]
      rw [e2]
      obtain ⟨A1, n1, c1, A2, n2, c2, hci, a1, a2⟩ := (hs i hi).1
      simp only [add_none] at hci
      exact ⟨b, o, A1, n1, c1, A2, n2, c2, rfl, World.block_lt_of_cell? W _ (hci 0 _ rfl), hci 0 _ rfl, hci 1 _ rfl, hci 2 _ rfl, hci 3 _ rfl, a1, a2⟩
    · intro t ht
      obtain ⟨r, hr, rfl⟩ := List.mem_map.1 ht
      exact (hs r (List.mem_range.1 hr)).2.2
end Go.Proofs.YtifgcfepbenpjaaGreat

namespace Go.Proofs.YtifgcfepbenpjaaGreat
open Go.RowKit

def stD (w w' : World) : Prop := ∃ (H : Nat) (x' y' x y : Value), Blk w H 25 [x', y'] ∧ w' = ((w.setCell ⟨H, 0, none⟩ x).setCell ⟨H, 1, none⟩ y)
theorem stD.two {w : World} {H : Nat} {x' y' : Value} (h : Blk w H 25 [x', y']) (x y : Value) : stD w ((w.setCell ⟨H, 0, none⟩ x).setCell ⟨H, 1, none⟩ y) := ⟨H, x', y', x, y, h, rfl⟩
section
variable {t : World → World → Prop}
end
section
variable {t : TypeId}
section
variable {ia is base i : Nat} {zero : List Value} {F : World → Nat → Prop} {f : Nat → Bool} {x : Value} {w w' : World}
end
end
theorem Blk.offBox {w : World} {G H : Nat} {t t' : TypeId} {cs cs' : List Value} (h : Blk w G t cs) (hb : Blk w H t' cs') (ht : t ≠ t') (i : Nat) (u : Value) : Blk (w.setCell ⟨H, i, none⟩ u) G t cs := h.away (Blk.apart h hb ht) i u
theorem Blk.offSix {w : World} {G H : Nat} {t : TypeId} {cs : List Value} {v' a' g' n' u' : Int} {B' : Option Addr} {k' c' : Nat} (h : Blk w G t cs) (hb : Blk w H 32 (metL v' a' g' n' u' B' k' c')) (ht : t ≠ 32) (v a g n u : Int) (B : Option Addr) (k c : Nat) : Blk ((((((w.setCell ⟨H, 0, none⟩ (.int .u32 v)).setCell ⟨H, 1, none⟩ (.int .i64 a)).setCell ⟨H, 2, none⟩ (.int .u64 g)).setCell ⟨H, 3, none⟩ (.int .i64 n)).setCell ⟨H, 4, none⟩ (.int .i64 u)).setCell ⟨H, 5, none⟩ (.slice B k c)) G t cs := h.sixOff (Blk.apart h hb ht) v a g n u B k c
section
variable {t : TypeId} {is H i : Nat} {old : List Value} {F : World → Prop} {f : Nat → Bool} {w w' : World}
end
end Go.Proofs.YtifgcfepbenpjaaGreat

