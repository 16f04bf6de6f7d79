/- Layer 4: the document's own: the first text out. -/
import Derived.Test.YtbbnfbclbhkneaaRingR4
namespace Go.Proofs.Ytbbnfbclbhkneaa
open Go.RowKit
set_option linter.unusedVariables false

/-- What Pop hands back: a queue and a text of its own, and an error. -/
def PopOut (w : World) (q : List Text) (h m : Int) (b : Text) (E : Int) (e : Ending) (w' : World) : Prop :=
  ∃ A c A2 c2, e = .returned (.tuple #[queueV A q.length c h m, .slice A2 b.length c2, .int .i64 E]) ∧ OwnTexts w' w.heap.size A q.length c q ∧ w'.ownsRow w.heap.size 5 1 (.slice A2 b.length c2) b.length (ints .u8 b) ∧ Below w.heap.size w w'

set_option maxRecDepth 100000 in
set_option maxHeartbeats 1600000 in
theorem rpop_no (A : Option Addr) (n c : Nat) (h m : Int) (q : List Text) (w : World) (hq : Texts w A n c q) (hE : popE q h m ≠ 0) :
    Calls Try.prog 15 #[queueV A n c h m] w (PopOut w [] 0 0 [] (popE q h m)) := by
  obtain ⟨x1, x2, hbel⟩ := boxes2 w A n c h m none 0 0 0 0
  have M := may_any A n c h m q _ (hq.below hbel)
  have hz : ((w.alloc (.cells #[.slice A n c, .int .i64 h, .int .i64 m] 24)).alloc (.cells #[.slice none 0 0, .int .i64 0, .int .i64 0] 24)).heap.size = w.heap.size + 2 := by simp
  rw [hz] at M
  have X1 := Lib.hid x1
  have X2 := Lib.hid x2
  have BEL := Lib.hid hbel
  have hql := hq.len
  have hc0 := x1.cell 0
  have hc1 := x1.cell 1
  have hc2 := x1.cell 2
  simp only [List.getElem?_cons_zero, List.getElem?_cons_succ] at hc0 hc1 hc2
  unfold popE at hE ⊢
  cases hR : mayB q h m with
  | false =>
    rw [hR] at M
    have M := Lib.hid M
    simp only [Bool.false_eq_true, if_false]
    clear hE hq hR hbel x1 x2
    go_enter Try.func15, Try.ntmps15
    go_wp2_with fail
    refine M.out.mono ?_
    rintro e w3 ⟨rfl, hb3⟩
    have x2 := X2.out.below hb3 (by omega)
    have e0 := x2.cell 0
    have e1 := x2.cell 1
    have e2 := x2.cell 2
    have g0 := x2.free 0
    have g1 := x2.free 1
    have g2 := x2.free 2
    simp only [List.getElem?_cons_zero, List.getElem?_cons_succ] at e0 e1 e2
    have XX := Lib.hid x2
    have B3 := Lib.hid (BEL.out.trans (hb3.mono (by omega)))
    clear hb3 x2 hc0 hc1 hc2
    go_wp2
    have y := XX.out.three (.slice none 0 0) (.int .i64 0) (.int .i64 0)
    have z0 := y.cell 0
    have z1 := y.cell 1
    have z2 := y.cell 2
    simp only [List.getElem?_cons_zero, List.getElem?_cons_succ] at z0 z1 z2
    refine bodyPost_ret (v := .tuple #[queueV none 0 0 0 0, .slice none 0 0, .int .i64 8]) ?_ rfl ⟨none, 0, none, 0, rfl, OwnTexts.nil _ _, World.ownsRow_nil _ _ _ _, below_three B3.out (by omega) _ _ _⟩
    clear e0 e1 e2 g0 g1 g2
    simp [results, Try.f15, go_sem, z0, z1, z2]
  | true =>
    rw [hR] at M hE
    have M := Lib.hid M
    simp only [if_true] at hE ⊢
    have hmn : m = 0 := by
      by_cases hh : m = 0
      · exact hh
      · rw [if_neg hh] at hE; exact absurd rfl hE
    rw [if_pos hmn]
    subst hmn
    clear hE hq hR hbel x1 x2
    go_enter Try.func15, Try.ntmps15
    go_wp2_with fail
    refine M.out.mono ?_
    rintro e w3 ⟨rfl, hb3⟩
    have x1 := X1.out.below hb3 (by omega)
    have d0 := x1.cell 0
    have d2 := x1.cell 2
    have x2 := X2.out.below hb3 (by omega)
    have e0 := x2.cell 0
    have e1 := x2.cell 1
    have e2 := x2.cell 2
    have g0 := x2.free 0
    have g1 := x2.free 1
    have g2 := x2.free 2
    simp only [List.getElem?_cons_zero, List.getElem?_cons_succ] at d0 d2 e0 e1 e2
    have XX := Lib.hid x2
    have B3 := Lib.hid (BEL.out.trans (hb3.mono (by omega)))
    clear hb3 x1 x2 hc0 hc1 hc2
    go_wp2
    have y := XX.out.three (.slice none 0 0) (.int .i64 0) (.int .i64 0)
    have z0 := y.cell 0
    have z1 := y.cell 1
    have z2 := y.cell 2
    simp only [List.getElem?_cons_zero, List.getElem?_cons_succ] at z0 z1 z2
    refine bodyPost_ret (v := .tuple #[queueV none 0 0 0 0, .slice none 0 0, .int .i64 6]) ?_ rfl ⟨none, 0, none, 0, rfl, OwnTexts.nil _ _, World.ownsRow_nil _ _ _ _, below_three B3.out (by omega) _ _ _⟩
    clear e0 e1 e2 g0 g1 g2
    simp [results, Try.f15, go_sem, z0, z1, z2]


theorem owns_away {w : World} {base : Nat} {e : TypeId} {v : Value} {k : Nat} {xs : List Value} (h : w.ownsRow base e 1 v k xs) {g : Nat} (hg : g < base) (i : Nat) (u : Value) : (w.setCell ⟨g, i, none⟩ u).ownsRow base e 1 v k xs := by
  refine h.kept (grownBy_set w g i u) ?_
  rcases hy : v.ownBlock with _ | gc
  · exact .inl rfl
  · refine .inr (fun e2 => ?_)
    have h1 := (h.lt gc hy).1
    injection e2 with e2
    omega

set_option maxRecDepth 100000 in
set_option maxHeartbeats 3200000 in
theorem rpop_ok (A : Option Addr) (n c : Nat) (H N : Nat) (q : List Text) (w : World) (hq : Texts w A n c q) (hs : Small q) (hR : mayB q H N = true) (h64 : n ≤ 64) (hH : H < n) (hN0 : 0 < N) (hN : N ≤ n) :
    Calls Try.prog 15 #[queueV A n c (H : Int) (N : Int)] w fun e w' => ∃ A2 c2 A3 c3, e = .returned (.tuple #[queueV A2 n c2 (((H : Int) + 1) % (n : Int)) ((N : Int) - 1), .slice A3 (q.getD H []).length c3, .int .i64 0]) ∧ OwnTexts w' w.heap.size A2 n c2 (q.set H []) ∧ w'.ownsRow w.heap.size 5 1 (.slice A3 (q.getD H []).length c3) (q.getD H []).length (ints .u8 (q.getD H [])) ∧ Below w.heap.size w w' := by
  obtain ⟨i0, hi0, hz0, hz1, hz2⟩ := info_parts byte_info
  have hml : (1000 : Nat) ≤ maxLen := by decide
  obtain ⟨x1, x2, hbel⟩ := boxes2 w A n c (H : Int) (N : Int) none 0 0 0 0
  have M := may_any A n c H N q _ (hq.below hbel)
  rw [hR] at M
  have T := fun w3 hx => twin_any A n c H N q w3 hx hs
  have hz : ((w.alloc (.cells #[.slice A n c, .int .i64 (H : Int), .int .i64 (N : Int)] 24)).alloc (.cells #[.slice none 0 0, .int .i64 0, .int .i64 0] 24)).heap.size = w.heap.size + 2 := by simp
  rw [hz] at M
  have hc0 := x1.cell 0
  have hc1 := x1.cell 1
  have hc2 := x1.cell 2
  simp only [List.getElem?_cons_zero, List.getElem?_cons_succ] at hc0 hc1 hc2
  obtain ⟨p, hp⟩ : ∃ p, p = (H + 1) % n := ⟨_, rfl⟩
  have hpi : ((H : Int) + 1) % (n : Int) = (p : Int) := by rw [hp]; simp
  have hpi2 : ((H : Int) + 1).tmod (n : Int) = (p : Int) := by rw [Int.tmod_eq_emod_of_nonneg (by omega)]; exact hpi
  rw [hpi]
  have hp64 : p < 64 := by rw [hp]; exact Nat.lt_of_lt_of_le (Nat.mod_lt _ (by omega)) h64
  have hHn2 : (H : Int) < (n : Int) := by omega
  have hNn : ¬ (N : Int) = 0 := by omega
  have hn1 : ¬ n = 0 := by omega
  have hn0 : ¬ (n : Int) = 0 := by omega
  have hsm := hs.at_ H
  have hby := hq.byte_at H
  obtain ⟨bq, oq, Ai, ni, ci, hA, hlt, hcq, haq⟩ := hq.at_ H hH
  subst hA
  obtain ⟨t, ht⟩ : ∃ t, t = q.getD H [] := ⟨_, rfl⟩
  rw [← ht] at hsm hby haq ⊢
  have hni : ni ≤ 200 := by rw [← haq.len]; exact hsm
  have HT := Lib.hid haq.len
  have HAQ := Lib.hid haq
  have HCQ := Lib.hid hcq
  have HBY := Lib.hid hby
  have HQ := Lib.hid hq
  have M := Lib.hid M
  have T := Lib.hid T
  have X1 := Lib.hid x1
  have X2 := Lib.hid x2
  have BEL := Lib.hid hbel
  clear hq hs hby hR hbel x1 x2 hp haq hcq ht hsm
  go_enter Try.func15, Try.ntmps15
  go_wp2_with fail
  refine M.out.mono ?_
  rintro e w3 ⟨rfl, hb3⟩
  have x1 := X1.out.below hb3 (by omega)
  have d0 := x1.cell 0
  have d1 := x1.cell 1
  have d2 := x1.cell 2
  simp only [List.getElem?_cons_zero, List.getElem?_cons_succ] at d0 d1 d2
  have x2 := X2.out.below hb3 (by omega)
  have X1 := Lib.hid x1
  have X2 := Lib.hid x2
  have B3 := Lib.hid (BEL.out.trans (hb3.mono (by omega)))
  have hz3 : w.heap.size + 2 ≤ w3.heap.size := by have := hb3.size; omega
  have T := Lib.hid (T.out w3 (HQ.out.below B3.out))
  clear hb3 x1 x2 hc0 hc1 hc2 BEL hz M
  go_wp2_with fail
  refine T.out.mono ?_
  rintro e w4 ⟨A2, c2, rfl, hown, hb4⟩
  obtain ⟨g, rfl, hg1, hg2⟩ := hown.block (by omega)
  have x1 := X1.out.below hb4 (by omega)
  have x2 := X2.out.below hb4 (by omega)
  have B4 := Lib.hid (B3.out.trans (hb4.mono B3.out.size))
  have xg := Blk.new w4 24 [.slice (some ⟨g, 0, none⟩) n c2, .int .i64 (H : Int), .int .i64 (N : Int)]
  have x1 := x1.grown (World.grownBy_alloc w4 (.cells #[.slice (some ⟨g, 0, none⟩) n c2, .int .i64 (H : Int), .int .i64 (N : Int)] 24) none) (by simp)
  have x2 := x2.grown (World.grownBy_alloc w4 (.cells #[.slice (some ⟨g, 0, none⟩) n c2, .int .i64 (H : Int), .int .i64 (N : Int)] 24) none) (by simp)
  have hb5 : Below w4.heap.size w4 (w4.alloc (.cells #[.slice (some ⟨g, 0, none⟩) n c2, .int .i64 (H : Int), .int .i64 (N : Int)] 24)) := (Below.refl _ _).alloc (Nat.le_refl _) _
  have O5 := hown.below hb5
  have B5 := B4.out.alloc B4.out.size (.cells #[.slice (some ⟨g, 0, none⟩) n c2, .int .i64 (H : Int), .int .i64 (N : Int)] 24)
  have hz4 := hb4.size
  clear d0 d1 d2 hown hb4 hb5 B3 T
  obtain ⟨G, hG⟩ : ∃ G, G = w4.heap.size := ⟨_, rfl⟩
  obtain ⟨w5, hw5⟩ : ∃ w5, w5 = w4.alloc (.cells #[.slice (some ⟨g, 0, none⟩) n c2, .int .i64 (H : Int), .int .i64 (N : Int)] 24) := ⟨_, rfl⟩
  have hz5 : w5.heap.size = G + 1 := by rw [hw5, hG]; exact World.size_alloc _ _
  rw [← hG] at xg
  change Blk (w4.alloc (.cells #[.slice (some ⟨g, 0, none⟩) n c2, .int .i64 (H : Int), .int .i64 (N : Int)] 24)) G 24 [.slice (some ⟨g, 0, none⟩) n c2, .int .i64 (H : Int), .int .i64 (N : Int)] at xg
  rw [← hw5] at x1 x2 xg O5 B5
  have hgG : g ≠ G := by omega
  have hgB : g ≠ w.heap.size := by omega
  have hGB : G ≠ w.heap.size := by omega
  have hgR : g ≠ w.heap.size + 1 := by omega
  have hBG : w.heap.size + 1 < G := by omega
  have l1 := (x1.grown (World.grownBy_alloc w5 (.cells #[] 5) none) (by simp))
  have q0 := l1.cell 0
  have q1 := l1.cell 1
  simp only [List.getElem?_cons_zero, List.getElem?_cons_succ] at q0 q1
  have qc : (w5.alloc (.cells #[] 5)).cell? ⟨bq, oq + H, none⟩ = some (.slice Ai ni ci) := (World.cell?_alloc_lt w5 _ _ (Nat.lt_of_lt_of_le hlt B5.size)).trans ((B5.cell (p := ⟨bq, oq + H, none⟩) hlt).trans HCQ.out)
  have HAQ5 := Lib.hid (HAQ.out.below B5)
  have X1 := Lib.hid x1
  have X2 := Lib.hid x2
  have XG := Lib.hid xg
  have O5 := Lib.hid O5
  have B5 := Lib.hid B5
  have HZ5 := Lib.hid hz5
  have HG := Lib.hid hG
  have hle35 : w3.heap.size ≤ w5.heap.size := by omega
  have hz5' := hz5
  clear x1 x2 xg hz5 l1 B4
  have hsz : w4.heap.size < w5.heap.size := by rw [hz5']; omega
  have HSZ := Lib.hid hsz
  clear hsz hz5'
  subst hw5
  subst hG
  have hsz5 := World.size_alloc w4 (.cells #[.slice (some ⟨g, 0, none⟩) n c2, .int .i64 (H : Int), .int .i64 (N : Int)] 24)
  have HSZ5 := Lib.hid hsz5
  clear hsz5
  have hH64 : H < 64 := by omega
  go_wp2_with (at_builtin; refine wpList_dup_h _ (w4.heap.size + 1) HSZ5.out rfl (.tmp 17) (.tmp 23) _ rfl 5 i0 _ 1 Try.underlying28 hi0 hz0 hz1 hz2 rfl rfl Ai ni ci (ints .u8 t) rfl (by rw [ints_length, HT.out]) HAQ5.out.seq (ints_one _ _) (by omega) (by omega) ?_
               intro A6 c6 w6 hown6 hb6
               have y1 := X1.out.below hb6 (by have := HSZ.out; omega)
               have y2 := X2.out.below hb6 (by have := HSZ.out; omega)
               have yg := XG.out.below hb6 HSZ.out
               obtain ⟨g', v6, hg', hg1', hcg, hfg, hO7⟩ := (O5.out.below hb6).set hH (zs := []) (by simp) (World.ownsRow_nil _ _ _ _)
               cases hg'
               have d0 := y1.cell 0
               have d1 := y1.cell 1
               have d2 := y1.cell 2
               have k0 := yg.cell 0
               have k1 := yg.cell 1
               have k2 := yg.cell 2
               have f1 := yg.free 1
               have f2 := yg.free 2
               have e0 := y2.cell 0
               have e1 := y2.cell 1
               have e2 := y2.cell 2
               have g0 := y2.free 0
               have g1 := y2.free 1
               have g2 := y2.free 2
               simp only [List.getElem?_cons_zero, List.getElem?_cons_succ] at d0 d1 d2 k0 k1 k2 e0 e1 e2
               have Y2 := Lib.hid y2
               have YG := Lib.hid yg
               have O7 := Lib.hid hO7
               have O6 := Lib.hid hown6
               have BB := Lib.hid hb6
               clear hown6 hb6 y1 y2 yg hO7)
  have hsz := HSZ.out
  have v1 := Y2.out.away (g' := g) (Ne.symm hgR) H (.slice none 0 0)
  have v2 := v1.away (g' := w4.heap.size) (by omega) 1 (.int .i64 (p : Int))
  have v3 := v2.away (g' := w4.heap.size) (by omega) 2 (.int .i64 ((N : Int) - 1))
  have z := v3.three (.slice (some ⟨g, 0, none⟩) n c2) (.int .i64 (p : Int)) (.int .i64 ((N : Int) - 1))
  have u1 := YG.out.away (g' := g) (Ne.symm hgG) H (.slice none 0 0)
  have z0 := z.cell 0
  have z1 := z.cell 1
  have z2 := z.cell 2
  simp only [List.getElem?_cons_zero, List.getElem?_cons_succ] at z0 z1 z2
  have O8 := ((O7.out.box u1 q_types.1 q_types.2 1 (.int .i64 (p : Int))).box (u1.set 1 (.int .i64 (p : Int))) q_types.1 q_types.2 2 (.int .i64 ((N : Int) - 1))).three v3 q_types.1 q_types.2 (.slice (some ⟨g, 0, none⟩) n c2) (.int .i64 (p : Int)) (.int .i64 ((N : Int) - 1))
  have r1 := owns_away (owns_away (owns_away O6.out (g := g) (by omega) H (.slice none 0 0)) (g := w4.heap.size) (by omega) 1 (.int .i64 (p : Int))) (g := w4.heap.size) (by omega) 2 (.int .i64 ((N : Int) - 1))
  have r2 := owns_away (owns_away (owns_away r1 (g := w.heap.size + 1) (by omega) 0 (.slice (some ⟨g, 0, none⟩) n c2)) (g := w.heap.size + 1) (by omega) 1 (.int .i64 (p : Int))) (g := w.heap.size + 1) (by omega) 2 (.int .i64 ((N : Int) - 1))
  have B6 := B5.out.trans (BB.out.mono B5.out.size)
  have B8 := below_three (((B6.setCell (p := ⟨g, H, none⟩) (show w.heap.size ≤ g by omega) (.slice none 0 0)).setCell (p := ⟨w4.heap.size, 1, none⟩) (show w.heap.size ≤ w4.heap.size by omega) (.int .i64 (p : Int))).setCell (p := ⟨w4.heap.size, 2, none⟩) (show w.heap.size ≤ w4.heap.size by omega) (.int .i64 ((N : Int) - 1))) (show w.heap.size ≤ w.heap.size + 1 by omega) (.slice (some ⟨g, 0, none⟩) n c2) (.int .i64 (p : Int)) (.int .i64 ((N : Int) - 1))
  have hni2 := HT.out
  refine bodyPost_ret (v := .tuple #[queueV (some ⟨g, 0, none⟩) n c2 (p : Int) ((N : Int) - 1), .slice A6 ni c6, .int .i64 0]) ?_ rfl ⟨_, _, A6, c6, by rw [hni2], O8.lower (by omega), ?_, B8⟩
  · clear e0 e1 e2 g0 g1 g2 d0 d1 d2 k0 k1 k2 f1 f2 hcg hfg
    simp [results, Try.f15, go_sem, z0, z1, z2]
  · rw [hni2]
    exact owns_base r2 (by omega)

/-- The document's Pop. -/
theorem rpop_any (A : Option Addr) (n c : Nat) (h m : Int) (q : List Text) (w : World) (hq : Texts w A n c q) (hs : Small q) :
    Calls Try.prog 15 #[queueV A n c h m] w (PopOut w (popI q h m) (popH q h m) (popM q h m) (popB q h m) (popE q h m)) := by
  by_cases hE : popE q h m = 0
  · have e := hE
    unfold popE at e
    cases hR : mayB q h m with
    | false => rw [hR] at e; simp at e
    | true =>
      obtain ⟨H, N, rfl, rfl, h1, h2, h3, h4, _⟩ := mayB_nat hR
      have hN : N ≠ 0 := by
        intro e2
        rw [hR, if_pos rfl, if_pos (by omega)] at e
        omega
      have hI : popI q (H : Int) (N : Int) = q.set H [] := by
        unfold popI
        rw [if_pos hE, Int.toNat_natCast]
      have hl : (q.set H []).length = n := by rw [List.length_set, hq.len]
      have hln := hq.len
      rw [hE, show popH q (H : Int) (N : Int) = ((H : Int) + 1) % (n : Int) by unfold popH; rw [if_pos hE, hln], show popM q (H : Int) (N : Int) = (N : Int) - 1 by unfold popM; rw [if_pos hE], show popB q (H : Int) (N : Int) = q.getD H [] by unfold popB; rw [if_pos hE, Int.toNat_natCast], hI]
      refine (rpop_ok A n c H N q w hq hs hR (by omega) (by omega) (by omega) (by omega)).mono ?_
      rintro e w' ⟨A2, c2, A3, c3, rfl, hown, htx, hbel⟩
      exact ⟨A2, c2, A3, c3, by rw [hl], by rw [hl]; exact hown, htx, hbel⟩
  · rw [show popI q h m = [] by unfold popI; rw [if_neg hE], show popH q h m = 0 by unfold popH; rw [if_neg hE], show popM q h m = 0 by unfold popM; rw [if_neg hE], show popB q h m = [] by unfold popB; rw [if_neg hE]]
    exact rpop_no A n c h m q w hq hE

end Go.Proofs.Ytbbnfbclbhkneaa
