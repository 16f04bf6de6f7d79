/- Layer 4, package ring: the first text out: Pop. -/
import Derived.Test.YtbbnfbclbhkneaaRingM
import Derived.Deep.Cut
import Derived.Test.YtbbnfbclbhkneaaRingW
namespace Go.Proofs.Ytbbnfbclbhkneaa
open Go.RowKit
set_option linter.unusedVariables false

set_option maxRecDepth 100000 in
set_option maxHeartbeats 1600000 in
theorem ppop_no (A : Option Addr) (n c : Nat) (h m : Int) (q : List Text) (w : World) (hq : Texts w A n c q) (hs : Small q) (hE : popE q h m ≠ 0) :
    Calls Try.prog 8 #[queueV A n c h m] w (PopOut w [] 0 0 [] (popE q h m)) := by
  obtain ⟨x1, x2, hbel⟩ := boxes2 w A n c h m none 0 0 0 0
  have M := pcheck_any A n c h m q _ (hq.below hbel) hs
  have hz : ((w.alloc (.cells #[.slice A n c, .int .i64 h, .int .i64 m] 24)).alloc (.cells #[.slice none 0 0, .int .i64 0, .int .i64 0] 24)).heap.size = w.heap.size + 2 := by simp
  rw [hz] at M
  have X1 := Lib.hid x1
  have X2 := Lib.hid x2
  have BEL := Lib.hid hbel
  have hql := hq.len
  have hc0 := x1.cell 0
  have hc1 := x1.cell 1
  have hc2 := x1.cell 2
  simp only [List.getElem?_cons_zero, List.getElem?_cons_succ] at hc0 hc1 hc2
  unfold popE at hE ⊢
  cases hR : mayB q h m with
  | false =>
    rw [chkQ_no hR] at M
    have M := Lib.hid M
    simp only [Bool.false_eq_true, if_false]
    clear hE hq hs hR hbel x1 x2
    go_enter Try.func8, Try.ntmps8
    go_wp2_with fail
    refine M.out.mono ?_
    rintro e w3 ⟨rfl, hb3⟩
    have x2 := X2.out.below hb3 (by omega)
    have e0 := x2.cell 0
    have e1 := x2.cell 1
    have e2 := x2.cell 2
    have g0 := x2.free 0
    have g1 := x2.free 1
    have g2 := x2.free 2
    simp only [List.getElem?_cons_zero, List.getElem?_cons_succ] at e0 e1 e2
    have XX := Lib.hid x2
    have B3 := Lib.hid (BEL.out.trans (hb3.mono (by omega)))
    clear hb3 x2 hc0 hc1 hc2
    go_wp2
    have y := XX.out.three (.slice none 0 0) (.int .i64 0) (.int .i64 0)
    have z0 := y.cell 0
    have z1 := y.cell 1
    have z2 := y.cell 2
    simp only [List.getElem?_cons_zero, List.getElem?_cons_succ] at z0 z1 z2
    refine bodyPost_ret (v := .tuple #[queueV none 0 0 0 0, .slice none 0 0, .int .i64 8]) ?_ rfl ⟨none, 0, none, 0, rfl, OwnTexts.nil _ _, World.ownsRow_nil _ _ _ _, below_three B3.out (by omega) _ _ _⟩
    clear e0 e1 e2 g0 g1 g2
    simp [results, Try.f8, go_sem, z0, z1, z2]
  | true =>
    rw [chkQ_yes hR] at M
    rw [hR] at hE
    have M := Lib.hid M
    simp only [if_true] at hE ⊢
    have hmn : m = 0 := by
      by_cases hh : m = 0
      · exact hh
      · rw [if_neg hh] at hE; exact absurd rfl hE
    rw [if_pos hmn]
    subst hmn
    clear hE hq hs hR hbel x1 x2
    go_enter Try.func8, Try.ntmps8
    go_wp2_with fail
    refine M.out.mono ?_
    rintro e w3 ⟨rfl, hb3⟩
    have x1 := X1.out.below hb3 (by omega)
    have d0 := x1.cell 0
    have d2 := x1.cell 2
    have x2 := X2.out.below hb3 (by omega)
    have e0 := x2.cell 0
    have e1 := x2.cell 1
    have e2 := x2.cell 2
    have g0 := x2.free 0
    have g1 := x2.free 1
    have g2 := x2.free 2
    simp only [List.getElem?_cons_zero, List.getElem?_cons_succ] at d0 d2 e0 e1 e2
    have XX := Lib.hid x2
    have B3 := Lib.hid (BEL.out.trans (hb3.mono (by omega)))
    clear hb3 x1 x2 hc0 hc1 hc2
    go_wp2
    have y := XX.out.three (.slice none 0 0) (.int .i64 0) (.int .i64 0)
    have z0 := y.cell 0
    have z1 := y.cell 1
    have z2 := y.cell 2
    simp only [List.getElem?_cons_zero, List.getElem?_cons_succ] at z0 z1 z2
    refine bodyPost_ret (v := .tuple #[queueV none 0 0 0 0, .slice none 0 0, .int .i64 6]) ?_ rfl ⟨none, 0, none, 0, rfl, OwnTexts.nil _ _, World.ownsRow_nil _ _ _ _, below_three B3.out (by omega) _ _ _⟩
    clear e0 e1 e2 g0 g1 g2
    simp [results, Try.f8, go_sem, z0, z1, z2]


theorem OwnTexts.inner {w : World} {base : Nat} {A : Option Addr} {n c : Nat} {q : List Text} (h : OwnTexts w base A n c q) {i : Nat} (hi : i < n) : ∃ g Ai ni ci, A = some ⟨g, 0, none⟩ ∧ base ≤ g ∧ g < w.heap.size ∧ w.cell? ⟨g, i, none⟩ = some (.slice Ai ni ci) ∧ w.frozen? ⟨g, i, none⟩ = false ∧
    w.ownsRow base 5 1 (.slice Ai ni ci) ni (ints .u8 (q.getD i [])) ∧ (q.getD i []).length = ni ∧ ((w.setCell ⟨g, i, none⟩ (.slice none 0 0)).ownsRow base 5 1 (.slice Ai ni ci) ni (ints .u8 (q.getD i []))) ∧ OwnTexts (w.setCell ⟨g, i, none⟩ (.slice none 0 0)) base A n c (q.set i []) := by
  obtain ⟨g, e, hbg, hgs⟩ := h.block (by omega)
  obtain ⟨g', v, e', _, hc, hf, hO⟩ := h.set hi (zs := []) (by simp) (World.ownsRow_nil _ _ _ _)
  rw [e] at e'
  cases e'
  obtain ⟨vs, hown, hl, hby, hin⟩ := h
  obtain ⟨Ai, ni, ci, hv, ho⟩ := hin i hi
  have hc2 := hown
  rw [e] at hc2
  have hcell := hc2.cellAt i (by have := hown.1; omega)
  rw [hv] at hcell
  have hl2 : (q.getD i []).length = ni := by
    have := ho.1
    rw [ints_length] at this
    omega
  refine ⟨g, Ai, ni, ci, e, hbg, hgs, hcell, hf, ho, hl2, ho.kept (grownBy_set w g i _) ?_, hO⟩
  have := owns_other (by decide) ho hown
  rw [e] at this
  simpa [Value.ownBlock] using this

set_option maxRecDepth 100000 in
set_option maxHeartbeats 3200000 in
theorem ppop_ok (A : Option Addr) (n c : Nat) (H N : Nat) (q : List Text) (w : World) (hq : Texts w A n c q) (hs : Small q) (hR : mayB q H N = true) (h64 : n ≤ 64) (hH : H < n) (hN0 : 0 < N) (hN : N ≤ n) :
    Calls Try.prog 8 #[queueV A n c (H : Int) (N : Int)] w fun e w' => ∃ A2 c2 A3 c3, e = .returned (.tuple #[queueV A2 n c2 (((H : Int) + 1) % (n : Int)) ((N : Int) - 1), .slice A3 (q.getD H []).length c3, .int .i64 0]) ∧ OwnTexts w' w.heap.size A2 n c2 (q.set H []) ∧ w'.ownsRow w.heap.size 5 1 (.slice A3 (q.getD H []).length c3) (q.getD H []).length (ints .u8 (q.getD H [])) ∧ Below w.heap.size w w' := by
  obtain ⟨x1, x2, hbel⟩ := boxes2 w A n c (H : Int) (N : Int) none 0 0 0 0
  have M := pcheck_any A n c H N q _ (hq.below hbel) hs
  rw [chkQ_yes hR] at M
  have T := fun w3 hx => ptwin_any A n c H N q w3 hx hs
  have hz : ((w.alloc (.cells #[.slice A n c, .int .i64 (H : Int), .int .i64 (N : Int)] 24)).alloc (.cells #[.slice none 0 0, .int .i64 0, .int .i64 0] 24)).heap.size = w.heap.size + 2 := by simp
  rw [hz] at M
  have hc0 := x1.cell 0
  have hc1 := x1.cell 1
  have hc2 := x1.cell 2
  simp only [List.getElem?_cons_zero, List.getElem?_cons_succ] at hc0 hc1 hc2
  have bh : ∀ w2, Calls Try.prog 27 #[.slice A n c, .int .i64 (H : Int), .int .i64 1] w2 fun e w' => e = .returned (.int .i64 (((H + 1) % n : Nat) : Int)) ∧ w' = w2 := fun w2 => behind_any A n c H 1 w2 (by omega) (by omega) (by omega) (by omega)
  obtain ⟨p, hp⟩ : ∃ p, p = (H + 1) % n := ⟨_, rfl⟩
  have hpi : ((H : Int) + 1) % (n : Int) = (p : Int) := by rw [hp]; simp
  rw [← hp] at bh
  rw [hpi]
  have BH := Lib.hid bh
  have hHn2 : (H : Int) < (n : Int) := by omega
  have hNn : ¬ (N : Int) = 0 := by omega
  have HQ := Lib.hid hq
  have M := Lib.hid M
  have T := Lib.hid T
  have X1 := Lib.hid x1
  have X2 := Lib.hid x2
  have BEL := Lib.hid hbel
  clear hq hs hR hbel x1 x2 hp hpi bh
  go_enter Try.func8, Try.ntmps8
  go_wp2_with fail
  refine M.out.mono ?_
  rintro e w3 ⟨rfl, hb3⟩
  have x1 := X1.out.below hb3 (by omega)
  have d0 := x1.cell 0
  have d1 := x1.cell 1
  have d2 := x1.cell 2
  simp only [List.getElem?_cons_zero, List.getElem?_cons_succ] at d0 d1 d2
  have x2 := X2.out.below hb3 (by omega)
  have X1 := Lib.hid x1
  have X2 := Lib.hid x2
  have B3 := Lib.hid (BEL.out.trans (hb3.mono (by omega)))
  have hz3 : w.heap.size + 2 ≤ w3.heap.size := by have := hb3.size; omega
  have T := Lib.hid (T.out w3 (HQ.out.below B3.out))
  clear hb3 x1 x2 hc0 hc1 hc2 BEL hz M
  go_wp2_with fail
  refine T.out.mono ?_
  rintro e w4 ⟨A2, c2, rfl, hown, hb4⟩
  obtain ⟨g, rfl, hg1, hg2⟩ := hown.block (by omega)
  have x1 := X1.out.below hb4 (by omega)
  have x2 := X2.out.below hb4 (by omega)
  have e0 := x2.cell 0
  have e1 := x2.cell 1
  have e2 := x2.cell 2
  have g0 := x2.free 0
  have g1 := x2.free 1
  have g2 := x2.free 2
  simp only [List.getElem?_cons_zero, List.getElem?_cons_succ] at e0 e1 e2
  have y1 := ((x1.away (g' := w.heap.size + 1) (by omega) 0 (.slice (some ⟨g, 0, none⟩) n c2)).away (g' := w.heap.size + 1) (by omega) 1 (.int .i64 (H : Int))).away (g' := w.heap.size + 1) (by omega) 2 (.int .i64 (N : Int))
  have y2 := x2.three (.slice (some ⟨g, 0, none⟩) n c2) (.int .i64 (H : Int)) (.int .i64 (N : Int))
  have O5 := hown.three x2 q_types.1 q_types.2 (.slice (some ⟨g, 0, none⟩) n c2) (.int .i64 (H : Int)) (.int .i64 (N : Int))
  have B5 := below_three (B3.out.trans (hb4.mono B3.out.size)) (show w.heap.size ≤ w.heap.size + 1 by omega) (.slice (some ⟨g, 0, none⟩) n c2) (.int .i64 (H : Int)) (.int .i64 (N : Int))
  have hz4 := hb4.size
  clear d0 d1 d2 hown hb4 B3 T x1 x2
  go_upto_region 7 with fail
  obtain ⟨w5, hw5⟩ : ∃ w5, w5 = (((w4.setCell ⟨w.heap.size + 1, 0, none⟩ (.slice (some ⟨g, 0, none⟩) n c2)).setCell ⟨w.heap.size + 1, 1, none⟩ (.int .i64 (H : Int))).setCell ⟨w.heap.size + 1, 2, none⟩ (.int .i64 (N : Int))) := ⟨_, rfl⟩
  rw [← hw5] at y1 y2 O5 B5 ⊢
  have hz5 : w.heap.size + 2 ≤ w5.heap.size := by have := y2.lt; omega
  clear hw5 e0 e1 e2 g0 g1 g2 hz4 hg2
  obtain ⟨g', Ai, ni, ci, hg', _, hg2, hcg, hfg, _, hnl, hin6, hO6⟩ := O5.inner hH
  cases hg'
  have e0 := y2.cell 0
  have d1 := y1.cell 1
  simp only [List.getElem?_cons_zero, List.getElem?_cons_succ] at e0 d1
  have z1 := y1.away (g' := g) (by omega) H (.slice none 0 0)
  have z2 := y2.away (g' := g) (by omega) H (.slice none 0 0)
  have B6 := B5.setCell (p := ⟨g, H, none⟩) (show w.heap.size ≤ g by omega) (.slice none 0 0)
  have hgB : g ≠ w.heap.size := by omega
  have hgR : g ≠ w.heap.size + 1 := by omega
  have HIN := Lib.hid hin6
  have HO6 := Lib.hid hO6
  have HNL := Lib.hid hnl
  have Z1 := Lib.hid z1
  have Z2 := Lib.hid z2
  have B6 := Lib.hid B6
  clear y1 y2 O5 B5 hin6 hO6 hnl z1 z2
  go_upto_region 9 with fail
  obtain ⟨w6, hw6⟩ : ∃ w6, w6 = w5.setCell ⟨g, H, none⟩ (.slice none 0 0) := ⟨_, rfl⟩
  have hz6 : w.heap.size + 2 ≤ w6.heap.size := by rw [hw6]; simp [World.setCell]; omega
  rw [← hw6] at HIN HO6 Z1 Z2 B6 ⊢
  clear hw6 hcg hfg e0 d1
  have q0 := Z1.out.cell 0
  have q1 := Z1.out.cell 1
  have q2 := Z1.out.cell 2
  simp only [List.getElem?_cons_zero, List.getElem?_cons_succ] at q0 q1 q2
  have keepX : ∀ wx, Below w6.drew.heap.size w6.drew wx → wx.cell? ⟨w.heap.size, 0, none⟩ = some (.slice A n c) ∧ wx.cell? ⟨w.heap.size, 1, none⟩ = some (.int .i64 (H : Int)) ∧ wx.cell? ⟨w.heap.size, 2, none⟩ = some (.int .i64 (N : Int)) := fun wx hx =>
    ⟨(hx.cell (p := ⟨w.heap.size, 0, none⟩) (by show w.heap.size < w6.heap.size; omega)).trans q0, (hx.cell (p := ⟨w.heap.size, 1, none⟩) (by show w.heap.size < w6.heap.size; omega)).trans q1, (hx.cell (p := ⟨w.heap.size, 2, none⟩) (by show w.heap.size < w6.heap.size; omega)).trans q2⟩
  have hcur : Below w6.drew.heap.size w6.drew w6.drew := Below.refl _ _
  have hkX := keepX _ hcur
  have X2D := Lib.hid (show Blk w6.drew (w.heap.size + 1) 24 [.slice (some ⟨g, 0, none⟩) n c2, .int .i64 (H : Int), .int .i64 (N : Int)] from Z2.out)
  have HBX := Lib.hid (show w.heap.size + 1 < w6.drew.heap.size by show w.heap.size + 1 < w6.heap.size; omega)
  have OD := Lib.hid (show OwnTexts w6.drew w3.heap.size (some ⟨g, 0, none⟩) n c2 (q.set H []) from HO6.out.below (below_drewN (Below.refl _ _) 1))
  have ID := Lib.hid (show w6.drew.ownsRow w3.heap.size 5 1 (.slice Ai ni ci) ni (ints .u8 (q.getD H [])) from owns_below HIN.out (below_drewN (Below.refl _ _) 1))
  have BD := Lib.hid (show Below w.heap.size w w6.drew from below_drewN B6.out 1)
  clear q0 q1 q2 HIN HO6 Z1 Z2 B6
  go_region_held3 (fun w' => w'.cell? ⟨w.heap.size, 0, none⟩ = some (.slice A n c) ∧ w'.cell? ⟨w.heap.size, 1, none⟩ = some (.int .i64 (H : Int)) ∧ w'.cell? ⟨w.heap.size, 2, none⟩ = some (.int .i64 (N : Int)))
    (first | exact hkX | go_keep)
    (first
      | (go_at_call 26; refine (around_any _ _ _ _ _ _).mono ?_; rintro e w7 ⟨rfl, hb7⟩; have hcur := hcur.trans (hb7.mono hcur.size); have hkX := keepX _ hcur)
      | (go_at_call 27; refine (BH.out _).mono ?_; rintro e w8 ⟨rfl, rfl⟩; have hkX := keepX _ hcur; have hx2 := X2D.out.below hcur HBX.out; have e1 := hx2.cell 1; have f1 := hx2.free 1; simp only [List.getElem?_cons_zero, List.getElem?_cons_succ] at e1; have HX2 := Lib.hid hx2; clear hx2))
  have y2 := HX2.out.set 1 (.int .i64 (p : Int))
  have O9 := (OD.out.below hcur).box HX2.out q_types.1 q_types.2 1 (.int .i64 (p : Int))
  have I9 := owns_box (i := 1) (u := .int .i64 (p : Int)) (owns_below ID.out hcur) HX2.out q_types.2
  have B9 := (BD.out.trans (hcur.mono BD.out.size)).setCell (p := ⟨w.heap.size + 1, 1, none⟩) (show w.heap.size ≤ w.heap.size + 1 by omega) (.int .i64 (p : Int))
  obtain ⟨w9, hw9⟩ : ∃ w9, w9 = w8.setCell ⟨w.heap.size + 1, 1, none⟩ (.int .i64 (p : Int)) := ⟨_, rfl⟩
  rw [← hw9] at y2 O9 I9 B9 ⊢
  simp only [List.set_cons_zero, List.set_cons_succ] at y2
  have e0 := y2.cell 0
  have e1' := y2.cell 1
  have e2 := y2.cell 2
  have g0 := y2.free 0
  have g1 := y2.free 1
  have g2 := y2.free 2
  simp only [List.getElem?_cons_zero, List.getElem?_cons_succ] at e0 e1' e2
  have Y2 := Lib.hid y2
  have O9 := Lib.hid O9
  have I9 := Lib.hid I9
  have B9 := Lib.hid B9
  clear hw9 y2 e1 f1 hkX hcur keepX hb7
  go_wp2
  have y3 := Y2.out.set 2 (.int .i64 ((N : Int) - 1))
  simp only [List.set_cons_zero, List.set_cons_succ] at y3
  have z := y3.three (.slice (some ⟨g, 0, none⟩) n c2) (.int .i64 (p : Int)) (.int .i64 ((N : Int) - 1))
  have z0 := z.cell 0
  have z1 := z.cell 1
  have z2 := z.cell 2
  simp only [List.getElem?_cons_zero, List.getElem?_cons_succ] at z0 z1 z2
  have O10 := (O9.out.box Y2.out q_types.1 q_types.2 2 (.int .i64 ((N : Int) - 1))).three y3 q_types.1 q_types.2 (.slice (some ⟨g, 0, none⟩) n c2) (.int .i64 (p : Int)) (.int .i64 ((N : Int) - 1))
  have I10 := owns_away (owns_away (owns_away (owns_away I9.out (g := w.heap.size + 1) (by omega) 2 (.int .i64 ((N : Int) - 1))) (g := w.heap.size + 1) (by omega) 0 (.slice (some ⟨g, 0, none⟩) n c2)) (g := w.heap.size + 1) (by omega) 1 (.int .i64 (p : Int))) (g := w.heap.size + 1) (by omega) 2 (.int .i64 ((N : Int) - 1))
  have B10 := below_three (B9.out.setCell (p := ⟨w.heap.size + 1, 2, none⟩) (show w.heap.size ≤ w.heap.size + 1 by omega) (.int .i64 ((N : Int) - 1))) (show w.heap.size ≤ w.heap.size + 1 by omega) (.slice (some ⟨g, 0, none⟩) n c2) (.int .i64 (p : Int)) (.int .i64 ((N : Int) - 1))
  have hnl := HNL.out
  refine bodyPost_ret (v := .tuple #[queueV (some ⟨g, 0, none⟩) n c2 (p : Int) ((N : Int) - 1), .slice Ai ni ci, .int .i64 0]) ?_ rfl ⟨_, _, Ai, ci, by rw [hnl], O10.lower (by omega), ?_, B10⟩
  · clear e0 e1' e2 g0 g1 g2
    simp [results, Try.f8, go_sem, z0, z1, z2]
  · rw [hnl]
    exact owns_base I10 (by omega)

/-- Pop, at all arguments. -/
theorem ppop_any (A : Option Addr) (n c : Nat) (h m : Int) (q : List Text) (w : World) (hq : Texts w A n c q) (hs : Small q) :
    Calls Try.prog 8 #[queueV A n c h m] w (PopOut w (popI q h m) (popH q h m) (popM q h m) (popB q h m) (popE q h m)) := by
  by_cases hE : popE q h m = 0
  · have e := hE
    unfold popE at e
    cases hR : mayB q h m with
    | false => rw [hR] at e; simp at e
    | true =>
      obtain ⟨H, N, rfl, rfl, h1, h2, h3, h4, _⟩ := mayB_nat hR
      have hN : N ≠ 0 := by
        intro e2
        rw [hR, if_pos rfl, if_pos (by omega)] at e
        omega
      have hI : popI q (H : Int) (N : Int) = q.set H [] := by
        unfold popI
        rw [if_pos hE, Int.toNat_natCast]
      have hl : (q.set H []).length = n := by rw [List.length_set, hq.len]
      have hln := hq.len
      rw [hE, show popH q (H : Int) (N : Int) = ((H : Int) + 1) % (n : Int) by unfold popH; rw [if_pos hE, hln], show popM q (H : Int) (N : Int) = (N : Int) - 1 by unfold popM; rw [if_pos hE], show popB q (H : Int) (N : Int) = q.getD H [] by unfold popB; rw [if_pos hE, Int.toNat_natCast], hI]
      refine (ppop_ok A n c H N q w hq hs hR (by omega) (by omega) (by omega) (by omega)).mono ?_
      rintro e w' ⟨A2, c2, A3, c3, rfl, hown, htx, hbel⟩
      exact ⟨A2, c2, A3, c3, by rw [hl], by rw [hl]; exact hown, htx, hbel⟩
  · rw [show popI q h m = [] by unfold popI; rw [if_neg hE], show popH q h m = 0 by unfold popH; rw [if_neg hE], show popM q h m = 0 by unfold popM; rw [if_neg hE], show popB q h m = [] by unfold popB; rw [if_neg hE]]
    exact ppop_no A n c h m q w hq hs hE


/-- The seven calls. -/
theorem ringDoes : RingDoes where
  new := new_any
  check := pcheck_any
  push := fun A n c h m q A' n' c' b w hq hs hb hby hbs => ppush_any A n c h m q A' n' c' b w hq hs hb hby hbs
  pop := ppop_any
  list := plist_any
  same := fun A n c h m a A' n' c' h' m' b w ha hb hsa _ => psame_any A n c h m a A' n' c' h' m' b w ha hb hsa
  twin := ptwin_any

end Go.Proofs.Ytbbnfbclbhkneaa
