/- Layer 16, package net: a net without one of its texts. No statement is proved here. -/
import Derived.Test.YtibegaoegpanpaaNtP3
import Derived.Lib.SliceRun
namespace Go.Proofs.Ytibegaoegpanpaa
open Go.RowKit
set_option linter.unusedVariables false
set_option maxRecDepth 100000

/-- copy at a step of a region that draws its order: what is known behind it is the whole row, and that nothing else turned. -/
theorem step_copy_grown {P : Program} {ops : Array Oper} {o : Oper} {a : Act} {w : World} {K : Act → World → Prop} {Q : Exit → Act → World → Prop} {E : Prop} (hgd : o.guard = none) (d s : Operand) (dT sT : TypeId)
    (ho : o.op = .call { callee := .builtin .copy, args := #[d, s], argTypes := #[dT, sT] }) (elem : TypeId) (hu : P.underlying dT = some (.slice elem)) (hsz : (P.info? elem).map (·.size) = some 1)
    (g off dLen dCap : Nat) (A : Option Addr) (sLen sCap : Nat) (hd : a.eval d = .slice (some ⟨g, off, none⟩) dLen dCap) (hs : a.eval s = .slice A sLen sCap)
    (cur : List Value) (t : TypeId) (hg : Blk w g t cur) (cs : List Value) (hn : cs.length = Nat.min sLen dLen) (B0 : Nat) (hsrc : Seq w B0 A cs) (hfit : off + cs.length ≤ cur.length) (h1 : ∀ v ∈ cs, v.oneCell' = true)
    (h : ∀ w', Blk w' g t (splice cur off cs) → w.grownBy w' (some g) → K (a.put o.dst (goInt cs.length)) w') :
    if Region.wanted o (yielded ops a.tmps) = true then Oper.wp P o a w K Q else E := by
  have hw : Region.wanted o (yielded ops a.tmps) = true := by simp [Region.wanted, hgd]
  rw [if_pos hw]
  by_cases h0 : cs.length = 0
  · obtain rfl : cs = [] := List.eq_nil_of_length_eq_zero h0
    have hrun := run_copy_none (P := P) w dT sT o.type elem (some ⟨g, off, none⟩) A dLen dCap sLen sCap hu hsz (by simpa using hn.symm)
    unfold Oper.wp
    simp [execOp, ho, resolve, invoke, builtin, hd, hs, hrun, Result.andThen]
    exact h w (by unfold splice; simpa using hg) (grownBy_refl _ _)
  · obtain ⟨bb, oo, rfl, hlt, hc⟩ := hsrc.at_ (by omega)
    have hcs : ∀ j v, cs[j]? = some v → w.cell? ((⟨bb, oo, none⟩ : Addr).add j) = some v := fun j v hv => by
      have e2 : (⟨bb, oo, none⟩ : Addr).add j = ⟨bb, oo + j, none⟩ := by unfold Addr.add; split <;> simp_all
      rw [e2]; exact hc j v hv
    have hrun := run_copy_row (P := P) w dT sT o.type elem g off dLen dCap ⟨bb, oo, none⟩ sLen sCap cur.toArray t cs hu hsz hg hn hcs (by simpa using hfit) h1
    unfold Oper.wp
    simp [execOp, ho, resolve, invoke, builtin, hd, hs, hrun, Result.andThen]
    refine h _ ?_ ⟨rfl, rfl, rfl, by simp [World.setRow], fun j hj hne => setRow_other w g j _ (fun e => hne (by rw [e]))⟩
    have := setRow_heap w g cur.toArray (cur.take off ++ (cs ++ cur.drop (off + cs.length))).toArray t _ hg
    unfold Blk splice
    simpa using this

/-- clear of one cell of a row. -/
theorem run_clear_one {P : Program} {w : World} (t e ty : TypeId) (z : Value) (ht : P.underlying t = some (.slice e)) (hv : ∀ w, (zeroValue e).run P w = .ok z w) (hz : z.cells = #[z]) (h1 : z.oneCell' = true)
    (g i c : Nat) (v : Value) (hc : w.cell? ⟨g, i, none⟩ = some v) (hf : w.frozen? ⟨g, i, none⟩ = false) : (Builtin.clear_ #[t] ty #[.slice (some ⟨g, i, none⟩) 1 c]).run P w = .ok (.tuple #[]) (w.setCell ⟨g, i, none⟩ z) :=
  Lib.run_clear_slice (P := P) w t e ty z ht hv hz h1 g i 1 c (by omega) (fun j hj => by obtain rfl : j = 0 := (by omega); rw [Nat.add_zero, hc]; rfl) (fun j hj => by obtain rfl : j = 0 := (by omega); rw [Nat.add_zero]; exact hf)

/-- The row behind it. -/
theorem erase_row {cur vs : List Value} {m k : Nat} (h : cur.take (m + 1) = vs) (hl : vs.length = m + 1) (hk : k < m + 1) (u : Value) : ((splice cur k (vs.drop (k + 1))).set m u).take m = vs.eraseIdx k := by
  have hcl : m + 1 ≤ cur.length := by
    have := congrArg List.length h
    rw [List.length_take, hl] at this
    omega
  have hvk : ∀ j, j < m + 1 → vs[j]? = cur[j]? := fun j hj => by rw [← h, List.getElem?_take, if_pos hj]
  have hsl : (splice cur k (vs.drop (k + 1))).length = cur.length := length_splice _ _ _ (by rw [List.length_drop]; omega)
  refine List.ext_getElem? fun j => ?_
  rw [List.getElem?_take]
  by_cases hj : j < m
  · rw [if_pos hj, List.getElem?_set_ne (by omega)]
    unfold splice
    rw [List.getElem?_eraseIdx]
    by_cases hjk : j < k
    · rw [if_pos hjk, List.getElem?_append_left (by rw [List.length_take]; omega), List.getElem?_take, if_pos hjk]
      exact (hvk j (by omega)).symm
    · rw [if_neg hjk, List.getElem?_append_right (by rw [List.length_take]; omega), List.length_take, Nat.min_eq_left (by omega), List.getElem?_append_left (by rw [List.length_drop]; omega), List.getElem?_drop]
      rw [show k + 1 + (j - k) = j + 1 by omega]
  · rw [if_neg hj, List.getElem?_eq_none]
    rw [List.length_eraseIdx, if_pos (by omega)]
    omega

/-- Texts of the call's own without one of them: what the row is behind it. -/
theorem OwnTexts.erase {w w' : World} {base g m c k : Nat} {q : List Text} {vs cur : List Value} (hown : w.ownsRow base 26 1 (.slice (some ⟨g, 0, none⟩) (m + 1) c) (m + 1) vs) (hl : q.length = m + 1) (hby : ∀ zs ∈ q, ∀ z ∈ zs, isByte z)
    (hin : ∀ i, i < m + 1 → ∃ Ai ni ci, vs[i]? = some (.slice Ai ni ci) ∧ w.ownsRow base 5 1 (.slice Ai ni ci) ni (ints .u8 (q.getD i []))) (hk : k < m + 1)
    (hb : base ≤ g) (hcur : cur.take m = vs.eraseIdx k) (hcl : cur.length = c) (hm : m ≤ c) (hcm : c ≤ maxLen) (hblk : Blk w' g 26 cur) (hg : w.grownBy w' (some g)) : OwnTexts w' base (some ⟨g, 0, none⟩) m c (q.eraseIdx k) := by
  have hvl : vs.length = m + 1 := by have := hown.1; omega
  refine ⟨vs.eraseIdx k, ⟨by rw [List.length_eraseIdx, if_pos (by omega)]; omega, .inr ⟨g, c, cur.toArray, rfl, hb, hblk, hm, hcm, by simpa using hcl, by simpa using hcur⟩⟩, by rw [List.length_eraseIdx, if_pos (by omega)]; omega, fun zs hz => hby zs (List.mem_of_mem_eraseIdx hz), fun i hi => ?_⟩
  have hkeep : ∀ {A' : Option Addr} {n' c' : Nat} {xs : List Value}, w.ownsRow base 5 1 (.slice A' n' c') n' xs → w'.ownsRow base 5 1 (.slice A' n' c') n' xs := fun hx =>
    hx.kept hg (by
      have := owns_other (by decide) hx hown
      simpa [Value.ownBlock] using this)
  have e : ∀ {α : Type} (l : List α), (l.eraseIdx k)[i]? = if i < k then l[i]? else l[i + 1]? := fun l => List.getElem?_eraseIdx
  by_cases hik : i < k
  · obtain ⟨Ai, ni, ci, h1, h2⟩ := hin i (by omega)
    refine ⟨Ai, ni, ci, by rw [e, if_pos hik]; exact h1, ?_⟩
    rw [List.getD_eq_getElem?_getD, e, if_pos hik, ← List.getD_eq_getElem?_getD]
    exact hkeep h2
  · obtain ⟨Ai, ni, ci, h1, h2⟩ := hin (i + 1) (by omega)
    refine ⟨Ai, ni, ci, by rw [e, if_neg hik]; exact h1, ?_⟩
    rw [List.getD_eq_getElem?_getD, e, if_neg hik, ← List.getD_eq_getElem?_getD]
    exact hkeep h2

/-- A net of the call's own without a text; the texts' bytes stay. -/
def WithoutOut (w : World) (base g m c : Nat) (q : List Text) (k : Nat) (e : Ending) (w' : World) : Prop :=
  e = .returned (.slice (some ⟨g, 0, none⟩) m c) ∧ OwnTexts w' base (some ⟨g, 0, none⟩) m c (q.eraseIdx k) ∧ w.grownBy w' (some g)

theorem texts_size : (Try.prog.info? 26).map (·.size) = some 1 := by kernel_rfl
set_option maxHeartbeats 1600000 in
theorem without_any (base g m c k : Nat) (q : List Text) (w : World) (hq : OwnTexts w base (some ⟨g, 0, none⟩) (m + 1) c q) (hm : m < 64) (hk : k < m + 1) :
    Calls Try.prog 24 #[.agg #[.slice (some ⟨g, 0, none⟩) (m + 1) c], .int .i64 (k : Int)] w (WithoutOut w base g m c q k) := by
  obtain ⟨vs, hown, hl, hby, hin⟩ := id hq
  have hvl : vs.length = m + 1 := by have := hown.1; omega
  obtain ⟨g', cap, cur, hv, hbg, hgb, hnc, hcm, hcl, hct⟩ := hown.2.resolve_left (fun h => by cases h.1)
  cases hv
  have x := Blk.new w 47 [.slice (some ⟨g, 0, none⟩) (m + 1) c]
  have hgl : g < w.heap.size := (Array.getElem?_eq_some_iff.1 hgb).1
  have hG : Blk w g 26 cur.toList := hgb
  have hbel : Below w.heap.size w (w.alloc (.cells #[.slice (some ⟨g, 0, none⟩) (m + 1) c] 47)) := (Below.refl _ _).alloc (Nat.le_refl _) _
  have hcl2 : cur.toList.length = c := by simpa using hcl
  have hct2 : cur.toList.take (m + 1) = vs := by simpa using hct
  have hck : k < c := by omega
  have hcm2 : c ≤ 9223372036854775807 := by unfold maxLen at hcm; omega
  obtain ⟨wB, hwB⟩ : ∃ x : World, x = w.alloc (.cells #[.slice (some ⟨g, 0, none⟩) (m + 1) c] 47) := ⟨_, rfl⟩
  rw [← hwB] at x hbel
  have hG1 := hG.below hbel hgl
  have hw1 : IntKind.i64.wrap ((k : Int) + 1) = (k : Int) + 1 := Lib.wrap_i64_small (k + 1) (by omega)
  have hw2 : IntKind.i64.wrap ((m : Int) + 1 - 1) = (m : Int) := by rw [Int.add_sub_cancel]; exact Lib.wrap_i64_small m (by omega)
  obtain ⟨vd, hvd⟩ : ∃ vd, vd = vs.drop (k + 1) := ⟨_, rfl⟩
  have hvdl : vd.length = m - k := by rw [hvd, List.length_drop]; omega
  have SEQ := Lib.hid (show ∀ wx : World, Below wB.heap.size wB wx → Seq wx (g + 1) (some ⟨g, 0 + (k + 1), none⟩) vd from fun wx hx => by
    have h1 := ((hG1.below hx hG1.lt).seq 0 (m + 1)).drop (k + 1)
    rw [List.drop_zero, hct2, ← hvd] at h1
    exact h1)
  have H1 := Lib.hid (show ∀ v ∈ vd, v.oneCell' = true from fun v hv => by
    rw [hvd] at hv
    obtain ⟨j, hj, rfl⟩ := List.getElem_of_mem (List.mem_of_mem_drop hv)
    obtain ⟨Ai, ni, ci, e, _⟩ := hin j (by omega)
    rw [List.getElem?_eq_getElem hj] at e
    injection e with e
    rw [e]; rfl)
  have x0 := x.cell 0
  simp only [List.getElem?_cons_zero] at x0
  have keepX : ∀ wx, Below wB.heap.size wB wx → wx.cell? ⟨w.heap.size, 0, none⟩ = some (.slice (some ⟨g, 0, none⟩) (m + 1) c) := fun wx hx => (hx.cell (p := ⟨w.heap.size, 0, none⟩) x.lt).trans x0
  have hcur : Below wB.heap.size wB wB.drew := below_drewN (Below.refl _ _) 1
  have hkX := keepX _ hcur
  have GB := Lib.hid (hG1.below hcur hG1.lt)
  have SRC := Lib.hid (show ∀ A4 : Option Addr, (k + 1 < c → A4 = some ⟨g, k + 1, none⟩) → Seq wB.drew (g + 1) A4 vd from fun A4 h4 => by
    by_cases h : k + 1 < c
    · rw [h4 h]
      have := SEQ.out _ hcur
      rwa [Nat.zero_add] at this
    · obtain rfl : vd = [] := List.eq_nil_of_length_eq_zero (by omega)
      exact Seq.empty)
  have hk0 : (0 : Int) ≤ (k : Int) := by omega
  have hk2 : (0 : Int) ≤ (k : Int) + 1 := by omega
  have hk3 : (k : Int) ≤ (m : Int) + 1 := by omega
  have hk4 : (k : Int) ≤ (m : Int) := by omega
  have hk5 : (k : Int) + 1 ≤ (m : Int) + 1 := by omega
  have hfit : k + vd.length ≤ cur.toList.length := by omega
  have hmin : vd.length = Nat.min (m - k) (m + 1 - k) := by rw [hvdl]; show _ = min _ _; omega
  have HFIT := Lib.hid hfit
  have HMIN := Lib.hid hmin
  have HQQ := Lib.hid hin
  have OWN := Lib.hid hown
  have HBY := Lib.hid hby
  have HCT := Lib.hid hct2
  have HCL := Lib.hid hcl2
  have HVL := Lib.hid hvl
  have HVD := Lib.hid hvd
  have HGB := Lib.hid hG
  have HL := Lib.hid hl
  have HGW := Lib.hid (grown_of_below hbel)
  have HX := Lib.hid x
  clear hq hin hown hby hct hct2 hcl hcl2 hvl hvd hvdl hG hG1 hgb hl x hbel hmin hfit
  have hck2 : ¬ c = k := by omega
  have hcm1 : ¬ c = m := by omega
  have hmc : (m : Int) ≤ (c : Int) := by omega
  have hm1 : (m : Int) ≤ (m : Int) + 1 := by omega
  have hm0 : (0 : Int) ≤ (m : Int) := by omega
  go_enter Try.func24, Try.ntmps24
  go_upto_region 2 with fail
  rw [← hwB]
  clear hwB
  go_region_held3 (fun w' => w'.cell? ⟨w.heap.size, 0, none⟩ = some (.slice (some ⟨g, 0, none⟩) (m + 1) c))
    (first | (with_reducible exact hkX) | go_keep)
    ((first
      | (refine step_copy_grown (by rfl) (.tmp 13) (.tmp 18) _ _ (by rfl) 26 Try.underlying45 texts_size g k _ _ _ _ _ (by rfl) (by rfl) cur.toList _ GB.out vd HMIN.out (g + 1) (SRC.out _ (fun h => if_neg (by omega))) HFIT.out H1.out ?_; intro w3 hb3 hg3; have hx3 := (HX.out.below hcur HX.out.lt).grown hg3 (fun e => by injection e with e; omega); have hkX : w3.cell? ⟨w.heap.size, 0, none⟩ = some (.slice (some ⟨g, 0, none⟩) (m + 1) c) := (hx3.cell 0).trans rfl)
      | fail))
  generalize (if c = k + 1 then some (⟨g, 0, none⟩ : Addr) else some ⟨g, k + 1, none⟩) = A18
  have HB3 := Lib.hid hb3
  have G3 := Lib.hid (grownBy_trans (grownBy_trans (HGW.out.weak (row' := some g) (fun _ e => by cases e)) ((grown_of_below hcur).weak (fun _ e => by cases e))) hg3)
  have c3 := hb3.cell m
  have f3 := hb3.free m
  obtain ⟨v3, hv3⟩ : ∃ v, (splice cur.toList k vd)[m]? = some v := by
    refine ⟨_, List.getElem?_eq_getElem ?_⟩
    rw [length_splice _ _ _ HFIT.out, HCL.out]
    omega
  rw [hv3] at c3
  have hx4 := hx3.away (g' := g) (fun e => by omega) m (.slice none 0 0)
  have x4 := (hx4.cell 0).trans (List.getElem?_cons_zero ..)
  have hb4 := Lib.hid (hb3.set m (.slice none 0 0))
  have G4 := Lib.hid (grownBy_trans G3.out (grownBy_set w3 g m (.slice none 0 0)))
  clear hb3 hg3 hx3 hx4 hv3 keepX hcur x0 HB3 G3 SRC SEQ H1 GB HX HGW HMIN
  have hrun := fun ty => run_clear_one (P := Try.prog) (w := w3) 45 26 ty (.slice none 0 0) Try.underlying45 (fun _ => by kernel_rfl) rfl rfl g m (c - m) v3 c3 f3
  clear c3 f3
  go_wp2
  go_ret
  have e1 := erase_row HCT.out HVL.out hk (.slice none 0 0)
  rw [← HVD.out] at e1
  exact ⟨rfl, OwnTexts.erase OWN.out HL.out HBY.out HQQ.out hk hbg e1 (by rw [List.length_set, length_splice _ _ _ HFIT.out]; exact HCL.out) (by omega) hcm hb4.out G4.out, G4.out⟩
end Go.Proofs.Ytibegaoegpanpaa
