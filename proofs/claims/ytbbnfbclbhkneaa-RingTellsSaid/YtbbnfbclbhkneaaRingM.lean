/- Layer 4, package ring: a text more: Push. -/
import Derived.Test.YtbbnfbclbhkneaaRingL2
namespace Go.Proofs.Ytbbnfbclbhkneaa
open Go.RowKit
set_option linter.unusedVariables false

set_option maxRecDepth 100000 in
set_option maxHeartbeats 1600000 in
theorem ppush_no (A : Option Addr) (n c : Nat) (h m : Int) (q : List Text) (A' : Option Addr) (n' c' : Nat) (b : Text) (w : World) (hq : Texts w A n c q) (hs : Small q) (hE : pushE q h m ≠ 0) :
    Calls Try.prog 13 #[queueV A n c h m, .slice A' n' c'] w (QueueOut w [] 0 0 (pushE q h m)) := by
  obtain ⟨x1, x2, hbel⟩ := boxes2 w A n c h m none 0 0 0 0
  have M := pcheck_any A n c h m q _ (hq.below hbel) hs
  have hz : ((w.alloc (.cells #[.slice A n c, .int .i64 h, .int .i64 m] 24)).alloc (.cells #[.slice none 0 0, .int .i64 0, .int .i64 0] 24)).heap.size = w.heap.size + 2 := by simp
  rw [hz] at M
  have X1 := Lib.hid x1
  have X2 := Lib.hid x2
  have BEL := Lib.hid hbel
  have hql := hq.len
  have hc0 := x1.cell 0
  have hc1 := x1.cell 1
  have hc2 := x1.cell 2
  simp only [List.getElem?_cons_zero, List.getElem?_cons_succ] at hc0 hc1 hc2
  unfold pushE at hE ⊢
  cases hR : mayB q h m with
  | false =>
    rw [chkQ_no hR] at M
    have M := Lib.hid M
    simp only [Bool.false_eq_true, if_false]
    clear hE hq hs hR hbel x1 x2
    go_enter Try.func13, Try.ntmps13
    go_wp2_with fail
    refine M.out.mono ?_
    rintro e w3 ⟨rfl, hb3⟩
    have x2 := X2.out.below hb3 (by omega)
    have e0 := x2.cell 0
    have e1 := x2.cell 1
    have e2 := x2.cell 2
    have g0 := x2.free 0
    have g1 := x2.free 1
    have g2 := x2.free 2
    simp only [List.getElem?_cons_zero, List.getElem?_cons_succ] at e0 e1 e2
    have XX := Lib.hid x2
    have B3 := Lib.hid (BEL.out.trans (hb3.mono (by omega)))
    clear hb3 x2 hc0 hc1 hc2
    go_wp2
    have y := XX.out.three (.slice none 0 0) (.int .i64 0) (.int .i64 0)
    have z0 := y.cell 0
    have z1 := y.cell 1
    have z2 := y.cell 2
    simp only [List.getElem?_cons_zero, List.getElem?_cons_succ] at z0 z1 z2
    refine bodyPost_ret (v := .tuple #[queueV none 0 0 0 0, .int .i64 8]) ?_ rfl ⟨none, 0, rfl, OwnTexts.nil _ _, below_three B3.out (by omega) _ _ _⟩
    clear e0 e1 e2 g0 g1 g2
    simp [results, Try.f13, go_sem, z0, z1, z2]
  | true =>
    rw [chkQ_yes hR] at M
    rw [hR] at hE
    have M := Lib.hid M
    simp only [if_true] at hE ⊢
    rw [hql] at hE ⊢
    have hmn : m = (n : Int) := by
      by_cases hh : m = (n : Int)
      · exact hh
      · rw [if_neg hh] at hE; exact absurd rfl hE
    rw [if_pos hmn]
    subst hmn
    clear hE hq hs hR hbel x1 x2
    go_enter Try.func13, Try.ntmps13
    go_wp2_with fail
    refine M.out.mono ?_
    rintro e w3 ⟨rfl, hb3⟩
    have x1 := X1.out.below hb3 (by omega)
    have d0 := x1.cell 0
    have d2 := x1.cell 2
    have x2 := X2.out.below hb3 (by omega)
    have e0 := x2.cell 0
    have e1 := x2.cell 1
    have e2 := x2.cell 2
    have g0 := x2.free 0
    have g1 := x2.free 1
    have g2 := x2.free 2
    simp only [List.getElem?_cons_zero, List.getElem?_cons_succ] at d0 d2 e0 e1 e2
    have XX := Lib.hid x2
    have B3 := Lib.hid (BEL.out.trans (hb3.mono (by omega)))
    clear hb3 x1 x2 hc0 hc1 hc2
    go_wp2
    have y := XX.out.three (.slice none 0 0) (.int .i64 0) (.int .i64 0)
    have z0 := y.cell 0
    have z1 := y.cell 1
    have z2 := y.cell 2
    simp only [List.getElem?_cons_zero, List.getElem?_cons_succ] at z0 z1 z2
    refine bodyPost_ret (v := .tuple #[queueV none 0 0 0 0, .int .i64 9]) ?_ rfl ⟨none, 0, rfl, OwnTexts.nil _ _, below_three B3.out (by omega) _ _ _⟩
    clear e0 e1 e2 g0 g1 g2
    simp [results, Try.f13, go_sem, z0, z1, z2]

set_option maxRecDepth 100000 in
set_option maxHeartbeats 3200000 in
theorem ppush_ok (A : Option Addr) (n c : Nat) (H N : Nat) (q : List Text) (A' : Option Addr) (n' c' : Nat) (b : Text) (w : World) (hq : Texts w A n c q) (hs : Small q) (hb : Arg w .u8 A' n' c' b) (hby : ∀ z ∈ b, isByte z) (hbs : b.length ≤ 200) (hR : mayB q H N = true) (h64 : n ≤ 64) (hH : H < n) (hN : N < n) :
    Calls Try.prog 13 #[queueV A n c (H : Int) (N : Int), .slice A' n' c'] w fun e w' => ∃ A2 c2, e = .returned (.tuple #[queueV A2 n c2 (H : Int) ((N : Int) + 1), .int .i64 0]) ∧ OwnTexts w' w.heap.size A2 n c2 (q.set ((H + N) % n) b) ∧ Below w.heap.size w w' := by
  obtain ⟨i0, hi0, hz0, hz1, hz2⟩ := info_parts byte_info
  have hml : (1000 : Nat) ≤ maxLen := by decide
  obtain ⟨x1, x2, hbel⟩ := boxes2 w A n c (H : Int) (N : Int) none 0 0 0 0
  have M := pcheck_any A n c H N q _ (hq.below hbel) hs
  rw [chkQ_yes hR] at M
  have T := fun w3 hx => ptwin_any A n c H N q w3 hx hs
  have hz : ((w.alloc (.cells #[.slice A n c, .int .i64 (H : Int), .int .i64 (N : Int)] 24)).alloc (.cells #[.slice none 0 0, .int .i64 0, .int .i64 0] 24)).heap.size = w.heap.size + 2 := by simp
  rw [hz] at M
  have hc0 := x1.cell 0
  have hc1 := x1.cell 1
  have hc2 := x1.cell 2
  simp only [List.getElem?_cons_zero, List.getElem?_cons_succ] at hc0 hc1 hc2
  have hpn : (H + N) % n < n := Nat.mod_lt _ (by omega)
  obtain ⟨p, hp⟩ : ∃ p, p = (H + N) % n := ⟨_, rfl⟩
  have hpi : ((H : Int) + (N : Int)) % (n : Int) = (p : Int) := by rw [hp]; simp
  have hpi2 : ((H : Int) + (N : Int)).tmod (n : Int) = (p : Int) := by rw [Int.tmod_eq_emod_of_nonneg (by omega)]; exact hpi
  have hw1 : IntKind.i64.wrap ((H : Int) + (N : Int)) = (H : Int) + (N : Int) := Lib.wrap_i64_small (H + N) (by omega)
  have hw2 : IntKind.i64.wrap (p : Int) = (p : Int) := Lib.wrap_i64_small p (by omega)
  have BH := Lib.hid fun w2 => behind_any A n c H N w2 (by omega) (by omega) (by omega) (by omega)
  rw [← hp] at hpn BH ⊢
  have hp0 : (0 : Int) ≤ (p : Int) := by omega
  have hpn2 : (p : Int) < (n : Int) := by omega
  have hNn : ¬ (N : Int) = (n : Int) := by omega
  have hn1 : ¬ n = 0 := by omega
  have hn0 : ¬ (n : Int) = 0 := by omega
  have HB := Lib.hid hb
  have HBY := Lib.hid hby
  have HQ := Lib.hid hq
  have M := Lib.hid M
  have T := Lib.hid T
  have X1 := Lib.hid x1
  have X2 := Lib.hid x2
  have BEL := Lib.hid hbel
  have hnb : n' ≤ 200 := by rw [← hb.len]; exact hbs
  clear hq hs hb hby hR hbel x1 x2 hp
  go_enter Try.func13, Try.ntmps13
  go_wp2_with fail
  refine M.out.mono ?_
  rintro e w3 ⟨rfl, hb3⟩
  have x1 := X1.out.below hb3 (by omega)
  have d0 := x1.cell 0
  have d1 := x1.cell 1
  have d2 := x1.cell 2
  simp only [List.getElem?_cons_zero, List.getElem?_cons_succ] at d0 d1 d2
  have x2 := X2.out.below hb3 (by omega)
  have X1 := Lib.hid x1
  have X2 := Lib.hid x2
  have B3 := Lib.hid (BEL.out.trans (hb3.mono (by omega)))
  have hz3 : w.heap.size + 2 ≤ w3.heap.size := by have := hb3.size; omega
  have T := Lib.hid (T.out w3 (HQ.out.below B3.out))
  clear hb3 x1 x2 hc0 hc1 hc2 BEL hz M
  go_wp2_with fail
  refine T.out.mono ?_
  rintro e w4 ⟨A2, c2, rfl, hown, hb4⟩
  obtain ⟨g, rfl, hg1, hg2⟩ := hown.block (by omega)
  have x1 := X1.out.below hb4 (by omega)
  have x2 := X2.out.below hb4 (by omega)
  have B4 := Lib.hid (B3.out.trans (hb4.mono B3.out.size))
  have xg := Blk.new w4 24 [.slice (some ⟨g, 0, none⟩) n c2, .int .i64 (H : Int), .int .i64 (N : Int)]
  have x1 := x1.grown (World.grownBy_alloc w4 (.cells #[.slice (some ⟨g, 0, none⟩) n c2, .int .i64 (H : Int), .int .i64 (N : Int)] 24) none) (by simp)
  have x2 := x2.grown (World.grownBy_alloc w4 (.cells #[.slice (some ⟨g, 0, none⟩) n c2, .int .i64 (H : Int), .int .i64 (N : Int)] 24) none) (by simp)
  have hb5 : Below w4.heap.size w4 (w4.alloc (.cells #[.slice (some ⟨g, 0, none⟩) n c2, .int .i64 (H : Int), .int .i64 (N : Int)] 24)) := (Below.refl _ _).alloc (Nat.le_refl _) _
  have O5 := hown.below hb5
  have B5 := B4.out.alloc B4.out.size (.cells #[.slice (some ⟨g, 0, none⟩) n c2, .int .i64 (H : Int), .int .i64 (N : Int)] 24)
  have hz4 := hb4.size
  clear d0 d1 d2 hown hb4 hb5 B3 T
  go_wp2
  obtain ⟨G, hG⟩ : ∃ G, G = w4.heap.size := ⟨_, rfl⟩
  rw [← hG] at xg ⊢
  obtain ⟨w5, hw5⟩ : ∃ w5, w5 = w4.alloc (.cells #[.slice (some ⟨g, 0, none⟩) n c2, .int .i64 (H : Int), .int .i64 (N : Int)] 24) := ⟨_, rfl⟩
  have hz5 : w5.heap.size = G + 1 := by rw [hw5, hG]; exact World.size_alloc _ _
  change Blk (w4.alloc (.cells #[.slice (some ⟨g, 0, none⟩) n c2, .int .i64 (H : Int), .int .i64 (N : Int)] 24)) G 24 [.slice (some ⟨g, 0, none⟩) n c2, .int .i64 (H : Int), .int .i64 (N : Int)] at xg
  rw [← hw5] at x1 x2 xg O5 B5 ⊢
  have hgG : g ≠ G := by omega
  have hgB : g ≠ w.heap.size := by omega
  have hGB : G ≠ w.heap.size := by omega
  have hgR : g ≠ w.heap.size + 1 := by omega
  have hBG : w.heap.size + 1 < G := by omega
  have X1 := Lib.hid (show Blk w5.drew w.heap.size 24 [.slice A n c, .int .i64 (H : Int), .int .i64 (N : Int)] from x1)
  have X2 := Lib.hid (show Blk w5.drew (w.heap.size + 1) 24 [.slice none 0 0, .int .i64 0, .int .i64 0] from x2)
  have XG := Lib.hid (show Blk w5.drew G 24 [.slice (some ⟨g, 0, none⟩) n c2, .int .i64 (H : Int), .int .i64 (N : Int)] from xg)
  have OD := Lib.hid (show OwnTexts w5.drew w3.heap.size (some ⟨g, 0, none⟩) n c2 q from O5.below (below_drewN (Below.refl _ _) 1))
  have BD := Lib.hid (show Below w.heap.size w w5.drew from below_drewN B5 1)
  have HBD := Lib.hid (show Arg w5.drew .u8 A' n' c' b from HB.out.below BD.out)
  have hzd : w5.drew.heap.size = G + 1 := hz5
  have q0 := x1.cell 0
  have q1 := x1.cell 1
  have q2 := x1.cell 2
  have q3 := xg.cell 0
  simp only [List.getElem?_cons_zero, List.getElem?_cons_succ] at q0 q1 q2 q3
  have keepX : ∀ wx, Below w5.drew.heap.size w5.drew wx → wx.cell? ⟨G, 0, none⟩ = some (.slice (some ⟨g, 0, none⟩) n c2) ∧ wx.cell? ⟨w.heap.size, 0, none⟩ = some (.slice A n c) ∧ wx.cell? ⟨w.heap.size, 1, none⟩ = some (.int .i64 (H : Int)) ∧ wx.cell? ⟨w.heap.size, 2, none⟩ = some (.int .i64 (N : Int)) := fun wx hx =>
    ⟨(hx.cell (p := ⟨G, 0, none⟩) (by rw [hzd]; exact Nat.lt_succ_self _)).trans q3, (hx.cell (p := ⟨w.heap.size, 0, none⟩) (by rw [hzd]; show w.heap.size < _; omega)).trans q0, (hx.cell (p := ⟨w.heap.size, 1, none⟩) (by rw [hzd]; show w.heap.size < _; omega)).trans q1, (hx.cell (p := ⟨w.heap.size, 2, none⟩) (by rw [hzd]; show w.heap.size < _; omega)).trans q2⟩
  have hle35 : w3.heap.size ≤ w5.drew.heap.size := by omega
  have HZD := Lib.hid hzd
  clear hw5 x1 x2 xg O5 B5 B4 hG hz5 hzd
  have hcur : Below w5.drew.heap.size w5.drew w5.drew := Below.refl _ _
  have hkX := keepX _ hcur
  go_region_held3 (fun w' => w'.cell? ⟨G, 0, none⟩ = some (.slice (some ⟨g, 0, none⟩) n c2) ∧ w'.cell? ⟨w.heap.size, 0, none⟩ = some (.slice A n c) ∧ w'.cell? ⟨w.heap.size, 1, none⟩ = some (.int .i64 (H : Int)) ∧ w'.cell? ⟨w.heap.size, 2, none⟩ = some (.int .i64 (N : Int)))
    (first | exact hkX | go_keep)
    (first
      | (go_at_call 26; refine (around_any _ _ _ _ _ _).mono ?_; rintro e w7 ⟨rfl, hb7⟩; have hcur := hcur.trans (hb7.mono hcur.size); have hkX := keepX _ hcur)
      | (go_at_call 27; refine (BH.out _).mono ?_; rintro e w8 ⟨rfl, rfl⟩; have hkX := keepX _ hcur)
      | (go_at_call 30; refine (twinB_any A' n' c' b _ (HBD.out.below hcur) (by omega)).mono ?_; rintro e w6 ⟨A6, c6, rfl, hown6, hb6⟩; have hown7 := owns_base hown6 (Nat.le_trans hle35 hcur.size); have hcur := hcur.trans (hb6.mono hcur.size); have hkX := keepX _ hcur; obtain ⟨g', v6, hg', hg1', hcg, hfg, hO7⟩ := (OD.out.below hcur).set hpn HBY.out hown7; cases hg'))
  have hzd := HZD.out
  have y1 := (X1.out.below hcur (by omega)).away (g' := g) (Ne.symm hgB) p (.slice A6 n' c6)
  have y2 := (X2.out.below hcur (by omega)).away (g' := g) (Ne.symm hgR) p (.slice A6 n' c6)
  have yg := (XG.out.below hcur (by omega)).away (g' := g) (Ne.symm hgG) p (.slice A6 n' c6)
  have B7 := (BD.out.trans (hcur.mono BD.out.size)).setCell (p := ⟨g, p, none⟩) (show w.heap.size ≤ g by omega) (.slice A6 n' c6)
  obtain ⟨w7, hw7⟩ : ∃ w7, w7 = w6.setCell ⟨g, p, none⟩ (.slice A6 n' c6) := ⟨_, rfl⟩
  rw [← hw7] at y1 y2 yg B7 hO7 ⊢
  have d2 := y1.cell 2
  have k0 := yg.cell 0
  have k1 := yg.cell 1
  have k2 := yg.cell 2
  have f2 := yg.free 2
  have e0 := y2.cell 0
  have e1 := y2.cell 1
  have e2 := y2.cell 2
  have g0 := y2.free 0
  have g1 := y2.free 1
  have g2 := y2.free 2
  simp only [List.getElem?_cons_zero, List.getElem?_cons_succ] at d2 k0 k1 k2 e0 e1 e2
  have Y2 := Lib.hid y2
  have YG := Lib.hid yg
  have B7 := Lib.hid B7
  have O7 := Lib.hid hO7
  clear hw7 y1 y2 yg hO7 hown6 hown7 hb6 hcur hkX hcg hfg keepX q0 q1 q2 q3
  clear hzd
  go_wp2
  have z := (Y2.out.away (g' := G) (by omega) 2 (.int .i64 ((N : Int) + 1))).three (.slice (some ⟨g, 0, none⟩) n c2) (.int .i64 (H : Int)) (.int .i64 ((N : Int) + 1))
  have z0 := z.cell 0
  have z1 := z.cell 1
  have z2 := z.cell 2
  simp only [List.getElem?_cons_zero, List.getElem?_cons_succ] at z0 z1 z2
  have O8 := (O7.out.box YG.out q_types.1 q_types.2 2 (.int .i64 ((N : Int) + 1))).three (Y2.out.away (g' := G) (by omega) 2 (.int .i64 ((N : Int) + 1))) q_types.1 q_types.2 (.slice (some ⟨g, 0, none⟩) n c2) (.int .i64 (H : Int)) (.int .i64 ((N : Int) + 1))
  have B8 := below_three (B7.out.setCell (p := ⟨G, 2, none⟩) (show w.heap.size ≤ G by omega) (.int .i64 ((N : Int) + 1))) (show w.heap.size ≤ w.heap.size + 1 by omega) (.slice (some ⟨g, 0, none⟩) n c2) (.int .i64 (H : Int)) (.int .i64 ((N : Int) + 1))
  refine bodyPost_ret (v := .tuple #[queueV (some ⟨g, 0, none⟩) n c2 (H : Int) ((N : Int) + 1), .int .i64 0]) ?_ rfl ⟨_, _, rfl, O8.lower (by omega), B8⟩
  clear e0 e1 e2 g0 g1 g2 d2 k0 k1 k2 f2
  simp [results, Try.f13, go_sem, z0, z1, z2]

/-- Push, at all arguments. -/
theorem ppush_any (A : Option Addr) (n c : Nat) (h m : Int) (q : List Text) (A' : Option Addr) (n' c' : Nat) (b : Text) (w : World) (hq : Texts w A n c q) (hs : Small q) (hb : Arg w .u8 A' n' c' b) (hby : ∀ z ∈ b, isByte z) (hbs : b.length ≤ 200) :
    Calls Try.prog 13 #[queueV A n c h m, .slice A' n' c'] w (QueueOut w (pushI q h m b) (pushH q h m) (pushM q h m) (pushE q h m)) := by
  by_cases hE : pushE q h m = 0
  · have e := hE
    unfold pushE at e
    cases hR : mayB q h m with
    | false => rw [hR] at e; simp at e
    | true =>
      obtain ⟨H, N, rfl, rfl, h1, h2, h3, h4, _⟩ := mayB_nat hR
      have hN : N ≠ q.length := by
        intro e2
        rw [hR, if_pos rfl, if_pos (by omega)] at e
        omega
      have hI : pushI q (H : Int) (N : Int) b = q.set ((H + N) % n) b := by
        unfold pushI
        rw [if_pos hE, Int.toNat_natCast, Int.toNat_natCast, hq.len]
      have hl : (q.set ((H + N) % n) b).length = n := by rw [List.length_set, hq.len]
      have hln := hq.len
      rw [hE, show pushH q (H : Int) (N : Int) = H by unfold pushH; rw [if_pos hE], show pushM q (H : Int) (N : Int) = (N : Int) + 1 by unfold pushM; rw [if_pos hE], hI]
      refine (ppush_ok A n c H N q A' n' c' b w hq hs hb hby hbs hR (by omega) (by omega) (by omega)).mono ?_
      rintro e w' ⟨A2, c2, rfl, hown, hbel⟩
      exact ⟨A2, c2, by rw [hl], by rw [hl]; exact hown, hbel⟩
  · rw [show pushI q h m b = [] by unfold pushI; rw [if_neg hE], show pushH q h m = 0 by unfold pushH; rw [if_neg hE], show pushM q h m = 0 by unfold pushM; rw [if_neg hE]]
    exact ppush_no A n c h m q A' n' c' b w hq hs hE

end Go.Proofs.Ytbbnfbclbhkneaa
