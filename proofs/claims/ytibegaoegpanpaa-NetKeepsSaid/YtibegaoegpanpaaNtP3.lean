/- Layer 16, package net: a net with a text behind the others. No statement is proved here. -/
import Derived.Test.YtibegaoegpanpaaNtP2
import Derived.Deep.RegionHeld3
namespace Go.Proofs.Ytibegaoegpanpaa
open Go.RowKit
set_option linter.unusedVariables false
set_option maxRecDepth 100000

/-- append(out, t) at a step of a region that draws its order: the text is newer than the others, so it lies apart. -/
theorem step_text_apart {P : Program} (wO w : World) {ops : Array Oper} {o : Oper} {a : Act} {K : Act → World → Prop} {Q : Exit → Act → World → Prop} {E : Prop} (hgd : o.guard = none) (s x : Operand) (t : TypeId)
    (ho : o.op = .call { callee := .builtin .append, args := #[s, x], argTypes := #[t, t] }) (i : TypeInfo) (z : Value) (ht : P.underlying t = some (.slice 26)) (hi : P.info? 26 = some i) (hz : i.zero = some z)
    (hsize : i.size = 1) (hby : i.bytes = 24) (hzs : z.cells.size = 1) (base : Nat) (A0 : Option Addr) (n c0 : Nat) (zss : List (List Int)) (hs : a.eval s = .slice A0 n c0) (hown : OwnTexts wO base A0 n c0 zss) (hbO : Below wO.heap.size wO w) (hbase : base ≤ wO.heap.size)
    (Ai : Option Addr) (ni ci : Nat) (zs : List Int) (hb : ∀ z ∈ zs, isByte z) (hoi : w.ownsRow wO.heap.size 5 1 (.slice Ai ni ci) ni (ints .u8 zs)) (hx : a.eval x = .slice (some ⟨w.heap.size, 0, none⟩) 1 1)
    (h63 : n + 1 ≤ maxLen) (hbytes : (n + 1) * 24 ≤ 140737488355328)
    (h : ∀ A' c' w', OwnTexts w' base A' (n + 1) c' (zss ++ [zs]) → LastApart w' A' n → Below base wO w' → (∀ g t cs, Blk wO g t cs → t ≠ 26 → Blk w' g t cs) → K (a.put o.dst (.slice A' (n + 1) c')) w') :
    if Region.wanted o (yielded ops a.tmps) = true then Oper.wp P o a (w.alloc (.cells #[.slice Ai ni ci] 26)) K Q else E := by
  have hw : Region.wanted o (yielded ops a.tmps) = true := by simp [Region.wanted, hgd]
  rw [if_pos hw]
  obtain ⟨vs, hv0, hl, hby2, hin0⟩ := hown
  have hv := owns_below hv0 hbO
  have hin : ∀ i, i < n → ∃ Ai ni ci, vs[i]? = some (.slice Ai ni ci) ∧ w.ownsRow base 5 1 (.slice Ai ni ci) ni (ints .u8 (zss.getD i [])) := fun i hi => by
    obtain ⟨Aj, nj, cj, e, hj⟩ := hin0 i hi
    exact ⟨Aj, nj, cj, e, owns_below hj hbO⟩
  have hwO := hbO.size
  have hb1 : Below w.heap.size w (w.alloc (.cells #[.slice Ai ni ci] 26)) := (Below.refl _ _).alloc (Nat.le_refl _) _
  have hseq : Seq (w.alloc (.cells #[.slice Ai ni ci] 26)) (w.heap.size + 1) (some ⟨w.heap.size, 0, none⟩) [.slice Ai ni ci] := by
    have h := (Blk.new w 26 [.slice Ai ni ci]).seq 0 1
    exact h
  obtain ⟨v', w', hrun, hown', hg, _⟩ := run_app (P := P) (w.alloc (.cells #[.slice Ai ni ci] 26)) base t o.type 26 i z 24 ht hi hz hsize hby hzs _ n vs (hv.allocated _) _ _ 1 1 [.slice Ai ni ci] rfl hseq (by simp [Value.oneCell']) h63 hbytes (by simp; omega)
  obtain ⟨A', c', rfl⟩ := owns_slice hown'
  have hfin : OwnTexts w' base A' (n + 1) c' (zss ++ [zs]) := OwnTexts.snoc (hv.allocated _) hl hby2 (fun i hi => by
    obtain ⟨Aj, nj, cj, e, hj⟩ := hin i hi
    exact ⟨Aj, nj, cj, e, hj.allocated _⟩) hb ((owns_base hoi hbase).allocated _) hg hown'
  have hbel : Below base wO w' := ((hbO.mono hbase).alloc (Nat.le_trans hbase hwO) _).grown hg (by simp; omega) (fun g e => (hv.lt g e).1)
  have hvl : vs.length = n := by have := hv0.1; omega
  have hap : LastApart w' A' n := by
    intro gA j Aj Ak nj cj nk ck g eA hj hcj hck eg e2
    subst eA
    have k1 := hown'.cellAt j (by omega)
    have k2 := hown'.cellAt n (by omega)
    rw [List.getElem?_append_left (by omega)] at k1
    rw [List.getElem?_append_right (by omega), hvl, Nat.sub_self, List.getElem?_cons_zero] at k2
    obtain ⟨Am, nm, cm, em, hm⟩ := hin0 j hj
    have e3 := hcj.symm.trans (k1.trans em)
    have e4 := hck.symm.trans k2
    injection e3 with e3
    injection e4 with e4
    rw [e3] at e2
    rw [e4] at eg
    have l1 := (hm.lt g e2).2
    have l2 := (hoi.lt g eg).1
    omega
  have hbx : ∀ g t cs, Blk wO g t cs → t ≠ 26 → Blk w' g t cs := fun g t cs hx0 hne => by
    have hx1 := hx0.below hbO hx0.lt
    refine (hx1.below hb1 hx1.lt).grown hg fun e => ?_
    have hv1 := hv.allocated (.cells #[.slice Ai ni ci] 26)
    rcases hv1.2 with ⟨e1, _⟩ | ⟨g1, cap1, cur1, e1, _, hg1, _⟩
    · rw [e1] at e; cases e
    · rw [e1] at e
      injection e with e
      have hx2 := hx1.below hb1 hx1.lt
      unfold Blk at hx2
      rw [e, hg1] at hx2
      simp at hx2
      exact hne hx2.2.symm
  unfold Oper.wp execOp
  simp only [ho, resolve, invoke, builtin, Sem.run_bind, Sem.run_pure, Result.andThen_ok, List.map_toArray, List.map_cons, List.map_nil, hs, hx, hrun]
  exact h A' c' w' hfin hap hbel hbx

/-- A net of the call's own with a text behind, as far as there is room. -/
def WithOut (w : World) (base : Nat) (q : List Text) (b : Text) (e : Ending) (w' : World) : Prop :=
  ∃ A c, e = .returned (.slice A (sentN q b).length c) ∧ OwnTexts w' base A (sentN q b).length c (sentN q b) ∧ ((sentN q b).length = q.length + 1 → LastApart w' A q.length) ∧ Below base w w'

set_option maxHeartbeats 1600000 in
theorem with_any (base : Nat) (A : Option Addr) (n c : Nat) (q : List Text) (A' : Option Addr) (n' c' : Nat) (b : Text) (w : World) (hq : OwnTexts w base A n c q) (hbase : base ≤ w.heap.size) (hn : n ≤ 64) (hb : Arg w .u8 A' n' c' b) (hby : ∀ z ∈ b, isByte z) (hn' : n' ≤ 200) :
    Calls Try.prog 22 #[.agg #[.slice A n c], .slice A' n' c'] w (WithOut w base q b) := by
  obtain ⟨i1, hi1, hy0, hy1, hy2⟩ := info_parts texts_info
  have hml : (1000 : Nat) ≤ maxLen := by decide
  have hl : q.length = n := by obtain ⟨_, _, h, _⟩ := hq; exact h
  have hbel : Below w.heap.size w (w.alloc (.cells #[.slice A n c] 47)) := (Below.refl _ _).alloc (Nat.le_refl _) _
  have x := Blk.new w 47 [.slice A n c]
  unfold WithOut
  by_cases h : n = 64
  · have e : sentN q b = q := if_neg (by omega)
    have hne : q.length ≠ q.length + 1 := by omega
    have hi : ((n : Int) == 64) = true := by rw [h]; rfl
    rw [e]
    rw [hl] at hne ⊢
    have O := Lib.hid (hq.below hbel)
    have B := Lib.hid (hbel.mono hbase)
    have x0 := x.cell 0
    simp only [List.getElem?_cons_zero] at x0
    clear e hl h hq hb hby hbel x
    go_enter Try.func22, Try.ntmps22
    go_wp2
    go_ret
    exact ⟨A, c, rfl, O.out, fun h => absurd h hne, B.out⟩
  · have e : sentN q b = q ++ [b] := if_pos (by omega)
    have e2 : (q ++ [b]).length = n + 1 := by rw [List.length_append, hl]; rfl
    have hi : ((n : Int) == 64) = false := beq_eq_false_iff_ne.2 (by omega)
    rw [e, e2, hl]
    obtain ⟨wB, hwB⟩ : ∃ x : World, x = w.alloc (.cells #[.slice A n c] 47) := ⟨_, rfl⟩
    rw [← hwB] at hbel x
    have O := Lib.hid (hq.below hbel)
    have B := Lib.hid (hbel.mono hbase)
    have TW := Lib.hid (ptwin16_any A' n' c' b wB.drew (hb.below (hbel.trans ((below_drewN (Below.refl _ _) 1).mono hbel.size))) (by omega))
    have HBY := Lib.hid hby
    have X := Lib.hid x
    have x0 := x.cell 0
    simp only [List.getElem?_cons_zero] at x0
    have hbB : base ≤ wB.heap.size := Nat.le_trans hbase hbel.size
    have keepX : ∀ wx, Below wB.heap.size wB wx → wx.cell? ⟨w.heap.size, 0, none⟩ = some (.slice A n c) := fun wx hx => (hx.cell (p := ⟨w.heap.size, 0, none⟩) X.out.lt).trans x0
    have hcur : Below wB.heap.size wB wB.drew := below_drewN (Below.refl _ _) 1
    have hkX := keepX _ hcur
    clear e e2 hl h hq hb hby hbel x
    go_enter Try.func22, Try.ntmps22
    go_upto_region 3 with fail
    rw [← hwB]
    clear hwB
    go_region_held3 (fun w' => w'.cell? ⟨w.heap.size, 0, none⟩ = some (.slice A n c))
      (first | (with_reducible exact hkX) | (with_reducible exact keepX _ (hcur.alloc hcur.size _)) | go_keep)
      ((first
        | (go_at_call 27; (with_reducible refine TW.out.mono ?_); rintro e w2 ⟨A2, c2, rfl, hown2, hb2⟩; have hcur := hcur.trans (hb2.mono hcur.size); have hkX := keepX _ hcur)
        | (refine step_text_apart wB w2 (by rfl) (.tmp 12) (.tmp 15) _ (by rfl) i1 _ Try.underlying45 hi1 hy0 hy1 hy2 rfl base A n c q (by rfl) O.out hcur hbB A2 n' c2 b HBY.out hown2 (by rfl) (by omega) (by omega) ?_; intro A3 c3 w3 hown3 hap3 hb3 hbx3; have hkX : w3.cell? ⟨w.heap.size, 0, none⟩ = some (.slice A n c) := ((hbx3 _ _ _ X.out (by decide)).cell 0).trans rfl)
        | fail))
    have O3 := Lib.hid hown3
    have L3 := Lib.hid hap3
    have B3 := Lib.hid (B.out.trans hb3)
    clear hown3 hap3 hb3 hbx3 hkX hcur keepX
    go_wp2
    go_ret
    exact ⟨A3, c3, rfl, O3.out, fun _ => L3.out, B3.out⟩
end Go.Proofs.Ytibegaoegpanpaa
