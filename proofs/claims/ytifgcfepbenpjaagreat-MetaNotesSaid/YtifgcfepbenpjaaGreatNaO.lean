/- What a frame hands over: records, and what is known. -/
import Derived.Test.YtifgcfepbenpjaaGreatNa51
import Derived.Lib.SmallJoins
namespace Go.Proofs.YtifgcfepbenpjaaGreat
open Go.RowKit Go.OpenShut Go.ChangeShapes Go.WideShapes Go.Deep Go.Joins
set_option linter.unusedVariables false

theorem Recs.nil (w : World) : Recs w none 0 0 [] := ⟨rfl, Nat.le_refl _, by decide, (fun r hr => by cases hr), fun i hi => by omega⟩
/-- Its ints are such. -/
def wfR (r : Rc) : Prop := (Lit.int .i64 r.p).wf = true ∧ (Lit.int .i64 r.l).wf = true ∧ (Lit.int .i64 r.f).wf = true
section
variable {P : Program} {w : World} {base : Nat} {H : Type} {enc : TypeId × Value → H}
theorem trod_eight {t : TypeId} {f0 f1 f2 f3 f4 f5 f6 f7 : Field} {fuel : Nat} {cs : List Value} {x : DataW H × List MemPlace} (ht : P.underlying t = some (.struct #[f0, f1, f2, f3, f4, f5, f6, f7])) (h : DataW.trod enc P w base (fun _ => true) true fuel t cs = some x) :
    ∃ y0 y1 y2 y3 y4 y5 y6 y7 n, DataW.trod enc P w base (fun _ => true) true n f0.type ((cs.drop f0.offset).take (P.cellsOf f0.type)) = some y0 ∧ DataW.trod enc P w base (fun _ => true) true n f1.type ((cs.drop f1.offset).take (P.cellsOf f1.type)) = some y1 ∧ DataW.trod enc P w base (fun _ => true) true n f2.type ((cs.drop f2.offset).take (P.cellsOf f2.type)) = some y2 ∧ DataW.trod enc P w base (fun _ => true) true n f3.type ((cs.drop f3.offset).take (P.cellsOf f3.type)) = some y3 ∧ DataW.trod enc P w base (fun _ => true) true n f4.type ((cs.drop f4.offset).take (P.cellsOf f4.type)) = some y4 ∧ DataW.trod enc P w base (fun _ => true) true n f5.type ((cs.drop f5.offset).take (P.cellsOf f5.type)) = some y5 ∧ DataW.trod enc P w base (fun _ => true) true n f6.type ((cs.drop f6.offset).take (P.cellsOf f6.type)) = some y6 ∧ DataW.trod enc P w base (fun _ => true) true n f7.type ((cs.drop f7.offset).take (P.cellsOf f7.type)) = some y7 := by
  obtain ⟨xs, n, _, rfl, hl, hlen, hf⟩ := DataW.trod_struct ht h
  match xs, hlen with
  | [y0, y1, y2, y3, y4, y5, y6, y7], _ => exact ⟨y0, y1, y2, y3, y4, y5, y6, y7, n, by simpa using hf 0 f0 rfl, by simpa using hf 1 f1 rfl, by simpa using hf 2 f2 rfl, by simpa using hf 3 f3 rfl, by simpa using hf 4 f4 rfl, by simpa using hf 5 f5 rfl, by simpa using hf 6 f6 rfl, by simpa using hf 7 f7 rfl⟩
end
set_option maxRecDepth 100000 in
theorem rec_of {H : Type} {enc : TypeId × Value → H} {W : World} {fuel : Nat} {cs : List Value} {y : DataW H × List MemPlace} (hl : cs.length = 8) (h : DataW.trod enc Tryz.prog W 0 (fun _ => true) true fuel 64 cs = some y) :
    ∃ r, cs = recL r ∧ isR r ∧ wfR r := by
  obtain ⟨y0, y1, y2, y3, y4, y5, y6, y7, n, g0, g1, g2, g3, g4, g5, g6, g7⟩ := trod_eight Tryz.underlying64 h
  match cs, hl with
  | [v0, v1, v2, v3, v4, v5, v6, v7], _ =>
    have g0 : DataW.trod enc Tryz.prog W 0 (fun _ => true) true n 3 [v0] = some y0 := g0
    obtain ⟨z0, e0, _, w0⟩ := DataW.trod_int Tryz.underlying3 g0
    have g1 : DataW.trod enc Tryz.prog W 0 (fun _ => true) true n 26 [v1] = some y1 := g1
    obtain ⟨z1, e1, _, w1⟩ := DataW.trod_int Tryz.underlying26 g1
    have g2 : DataW.trod enc Tryz.prog W 0 (fun _ => true) true n 26 [v2] = some y2 := g2
    obtain ⟨z2, e2, _, w2⟩ := DataW.trod_int Tryz.underlying26 g2
    have g3 : DataW.trod enc Tryz.prog W 0 (fun _ => true) true n 3 [v3] = some y3 := g3
    obtain ⟨z3, e3, _, w3⟩ := DataW.trod_int Tryz.underlying3 g3
    have g4 : DataW.trod enc Tryz.prog W 0 (fun _ => true) true n 5 [v4] = some y4 := g4
    obtain ⟨z4, e4, _, w4⟩ := DataW.trod_int Tryz.underlying5 g4
    have g5 : DataW.trod enc Tryz.prog W 0 (fun _ => true) true n 3 [v5] = some y5 := g5
    obtain ⟨z5, e5, _, w5⟩ := DataW.trod_int Tryz.underlying3 g5
    have g6 : DataW.trod enc Tryz.prog W 0 (fun _ => true) true n 4 [v6] = some y6 := g6
    obtain ⟨z6, e6, _⟩ := DataW.trod_bool Tryz.underlying4 g6
    have g7 : DataW.trod enc Tryz.prog W 0 (fun _ => true) true n 4 [v7] = some y7 := g7
    obtain ⟨z7, e7, _⟩ := DataW.trod_bool Tryz.underlying4 g7
    injection e0 with e0 _
    injection e1 with e1 _
    injection e2 with e2 _
    injection e3 with e3 _
    injection e4 with e4 _
    injection e5 with e5 _
    injection e6 with e6 _
    injection e7 with e7 _
    subst e0; subst e1; subst e2; subst e3; subst e4; subst e5; subst e6; subst e7
    have b1 := bounds_u32 w1
    have b2 := bounds_u32 w2
    have b4 := bounds_u8 w4
    exact ⟨⟨z0, z1, z2, z3, z4, z5, z6, z7⟩, rfl, ⟨⟨b1.1, by have := b1.2; dsimp only; omega⟩, ⟨b2.1, by have := b2.2; dsimp only; omega⟩, ⟨b4.1, by have := b4.2; dsimp only; omega⟩⟩, w0, w3, w5⟩
set_option maxRecDepth 100000 in
/-- A record. -/
theorem open_rec {H : Type} {enc : TypeId × Value → H} {W : World} {b0 : Nat} {r : Reach} {v : Value} {d : DataW H} {p : List MemPlace} (hv : Value.okWide Tryz.prog W r b0 64 v) (h : DataW.Trod enc Tryz.prog W 0 (fun _ => true) true 64 v d p) :
    ∃ x, v = recV x ∧ isR x ∧ wfR x := by
  obtain ⟨cs, rfl, hsz⟩ := okWide_struct Tryz.underlying64 hv
  have h8 : cs.toList.length = 8 := by simpa using hsz.trans (show Tryz.prog.cellsOf 64 = 8 by kernel_rfl)
  obtain ⟨fuel, hf⟩ := h
  obtain ⟨l⟩ := cs
  match l, h8 with
  | [v0, v1, v2, v3, v4, v5, v6, v7], _ =>
    have hf' : DataW.trod enc Tryz.prog W 0 (fun _ => true) true fuel 64 [v0, v1, v2, v3, v4, v5, v6, v7] = some (d, p) := by simpa [Value.cells] using hf
    obtain ⟨x, e, h1, h2⟩ := rec_of (cs := [v0, v1, v2, v3, v4, v5, v6, v7]) rfl hf'
    refine ⟨x, ?_, h1, h2⟩
    show Value.agg ⟨[v0, v1, v2, v3, v4, v5, v6, v7]⟩ = Value.agg ⟨recL x⟩
    rw [e]
/-- A row of records. -/
theorem open_recs {H : Type} {enc : TypeId × Value → H} {W : World} {fuel : Nat} {v : Value} {y : DataW H × List MemPlace} (h : DataW.trod enc Tryz.prog W 0 (fun _ => true) true fuel 30 [v] = some y) :
    ∃ A n c L, v = .slice A n c ∧ Recs W A n c L := by
  rcases open_slice Tryz.underlying30 h with ⟨hcs, _⟩ | ⟨a, len, cap, m, k, D, Pl, hcs, _, hl, hm, hmm, _, hx⟩
  · have hv : v = .slice none 0 0 := by simpa using hcs
    exact ⟨none, 0, 0, [], hv, Recs.nil W⟩
  · have hv : v = .slice (some a) len cap := by simpa using hcs
    simp only [if_true] at hmm
    have hce : Tryz.prog.cellsOf 64 = 8 := by kernel_rfl
    have each : ∀ i, i < len → ∃ r : Rc, (∀ j v, (recL r)[j]? = some v → W.cell? ((a.add (i * 8)).add j) = some v) ∧ isR r := fun i hi => by
      obtain ⟨cs', h1, h2⟩ := hx i (by omega)
      rw [hce] at h1
      obtain ⟨_, hlen, hcell⟩ := World.cells?_some h1
      obtain ⟨r, e, hr, _⟩ := rec_of hlen h2
      refine ⟨r, fun j v hv => ?_, hr⟩
      have hj : j < 8 := by
        rcases Nat.lt_or_ge j 8 with hj | hj
        · exact hj
        · rw [List.getElem?_eq_none (by simpa using hj)] at hv; cases hv
      have h3 := hcell j hj
      rw [e] at h3
      rw [h3]
      exact hv
    obtain ⟨s, hs⟩ := choose_lt each
    refine ⟨some a, len, cap, (List.range len).map s, hv, by simp, hl, hm, ?_, fun i hi => ?_⟩
    · intro t ht
      obtain ⟨r, hr, rfl⟩ := List.mem_map.1 ht
      exact (hs r (List.mem_range.1 hr)).2
    · obtain ⟨b, o, spot⟩ := a
      have hc0 := (hs 0 (by omega)).1 0 _ rfl
      have hsp : spot = none := by simpa [Addr.add] using World.cell?_spot hc0
      subst hsp
      have e2 : ((List.range len).map s).getD i zR = s i := by simp [List.getD_eq_getElem?_getD, hi]
      rw [e2]
      have hci := (hs i hi).1
      simp only [add_none] at hci
      exact ⟨b, o, rfl, World.block_lt_of_cell? W _ (hci 0 _ rfl), hci⟩
end Go.Proofs.YtifgcfepbenpjaaGreat
namespace Go.Proofs.YtifgcfepbenpjaaGreat
open Go.RowKit Go.OpenShut Go.ChangeShapes Go.WideShapes Go.Deep Go.Joins
set_option linter.unusedVariables false

set_option maxRecDepth 100000 in
/-- What is known. -/
theorem open_met {H : Type} {enc : TypeId × Value → H} {W : World} {b0 : Nat} {r : Reach} {v : Value} {d : DataW H} {p : List MemPlace} (hv : Value.okWide Tryz.prog W r b0 32 v) (h : DataW.Trod enc Tryz.prog W 0 (fun _ => true) true 32 v d p) :
    ∃ x y z n u B k c t, v = metV x y z n u B k c ∧ Recs W B k c t ∧ isS (x, y, z) := by
  obtain ⟨cs, rfl, hsz⟩ := okWide_struct Tryz.underlying32 hv
  have h6 : cs.toList.length = 6 := by simpa using hsz.trans (show Tryz.prog.cellsOf 32 = 6 by kernel_rfl)
  obtain ⟨fuel, hf⟩ := h
  obtain ⟨l⟩ := cs
  match l, h6 with
  | [v0, v1, v2, v3, v4, v5], _ =>
    have hf' : DataW.trod enc Tryz.prog W 0 (fun _ => true) true fuel 32 [v0, v1, v2, v3, v4, v5] = some (d, p) := by simpa [Value.cells] using hf
    obtain ⟨y0, y1, y2, y3, n, _, _, g0, g1, g2, g3⟩ := trod_struct4 Tryz.underlying32 hf'
    have g0 : DataW.trod enc Tryz.prog W 0 (fun _ => true) true n 29 [v0, v1, v2] = some y0 := g0
    have g1 : DataW.trod enc Tryz.prog W 0 (fun _ => true) true n 3 [v3] = some y1 := g1
    have g2 : DataW.trod enc Tryz.prog W 0 (fun _ => true) true n 3 [v4] = some y2 := g2
    have g3 : DataW.trod enc Tryz.prog W 0 (fun _ => true) true n 30 [v5] = some y3 := g3
    obtain ⟨s0, s1, s2, n2, _, _, k0, k1, k2⟩ := trod_struct3 Tryz.underlying29 g0
    have k0 : DataW.trod enc Tryz.prog W 0 (fun _ => true) true n2 26 [v0] = some s0 := k0
    have k1 : DataW.trod enc Tryz.prog W 0 (fun _ => true) true n2 3 [v1] = some s1 := k1
    have k2 : DataW.trod enc Tryz.prog W 0 (fun _ => true) true n2 27 [v2] = some s2 := k2
    obtain ⟨z0, e0, _, w0⟩ := DataW.trod_int Tryz.underlying26 k0
    obtain ⟨z1, e1, _, w1⟩ := DataW.trod_int Tryz.underlying3 k1
    obtain ⟨z2, e2, _, w2⟩ := DataW.trod_int Tryz.underlying27 k2
    obtain ⟨z3, e3, _, w3⟩ := DataW.trod_int Tryz.underlying3 g1
    obtain ⟨z4, e4, _, w4⟩ := DataW.trod_int Tryz.underlying3 g2
    obtain ⟨B, k, c, t, e5, ht⟩ := open_recs g3
    injection e0 with e0 _
    injection e1 with e1 _
    injection e2 with e2 _
    injection e3 with e3 _
    injection e4 with e4 _
    subst e0; subst e1; subst e2; subst e3; subst e4; subst e5
    have b0 := bounds_u32 w0
    have b2 := bounds_u64 w2
    exact ⟨z0, z1, z2, z3, z4, B, k, c, t, rfl, ht, ⟨b0.1, by have := b0.2; dsimp only; omega⟩, b2.1, by have := b2.2; dsimp only; omega⟩
end Go.Proofs.YtifgcfepbenpjaaGreat
