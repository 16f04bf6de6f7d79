/- Layer 4, package ring: List. -/
import Derived.Test.YtbbnfbclbhkneaaRingK
namespace Go.Proofs.Ytbbnfbclbhkneaa
open Go.RowKit Go.Shelf
set_option linter.unusedVariables false
attribute [local go_sem] Oper.semAt_some

set_option maxRecDepth 100000 in
set_option maxHeartbeats 4000000 in
theorem list_in (A : Option Addr) (n c H M : Nat) (q : List Text) (w : World) (hq : Texts w A n c q) (hs : Small q) (h1 : 1 ≤ n) (h64 : n ≤ 64) (hH : H < n) (hM : M ≤ n) (hC : chkQ q (H : Int) (M : Int) = 0) :
    CallsIn Fence.wide 5 Try.prog 16 #[queueV A n c (H : Int) (M : Int)] w fun e W' => ∃ A' c', e = .returned (.tuple #[.slice A' M c', .int .i64 0]) ∧ OwnTexts W' w.heap.size A' M c' ((upN 0 M).map (itm q H)) ∧ Below w.heap.size w W' := by
  have hbel : Below w.heap.size w (w.alloc (.cells #[.slice A n c, .int .i64 (H : Int), .int .i64 (M : Int)] 24)) := (Below.refl _ _).alloc (Nat.le_refl _) _
  have x := Blk.new w 24 [.slice A n c, .int .i64 (H : Int), .int .i64 (M : Int)]
  have C := pcheck_any A n c (H : Int) (M : Int) q _ (hq.below hbel) hs
  rw [hC] at C
  have C := Lib.hid C
  have d0 := x.cell 0
  have d1 := x.cell 1
  have d2 := x.cell 2
  simp only [List.getElem?_cons_zero, List.getElem?_cons_succ] at d0 d1 d2
  have BEL := Lib.hid hbel
  have X := Lib.hid x
  obtain ⟨s, hsq0, hsa⟩ := hq.vals
  have HSQ := Lib.hid hsq0
  have HSA := Lib.hid hsa
  have hql := hq.len
  have IT := Lib.hid (show ∀ x, itm q H x = q.getD ((H + x) % n) [] from fun x => by unfold itm; rw [hql])
  have IB := Lib.hid fun x => (show ∀ z ∈ itm q H x, isByte z from hq.byte_at _)
  have SM := Lib.hid fun k => hs.at_ k
  obtain ⟨i1, hi1, hy0, hy1, hy2⟩ := info_parts texts_info
  have hml : (1000 : Nat) ≤ maxLen := by decide
  have hz0 : (w.alloc (.cells #[.slice A n c, .int .i64 (H : Int), .int .i64 (M : Int)] 24)).heap.size = w.heap.size + 1 := World.size_alloc _ _
  have HZ0 := Lib.hid hz0
  clear hq hs hbel x hsq0 hsa hql hC hz0
  refine callsIn_of_wp_marks Try.func16 rfl trivial ?_ rfl
  simp only [Try.ntmps16, List.size_toArray, List.length_cons, List.length_nil, Nat.reduceAdd, Nat.reduceSub, Array.replicate_succ, Array.replicate_zero, List.push_toArray, List.append_toArray, List.nil_append, List.cons_append]
  gi_wp2_with (refine ⟨trivial, ?_⟩; first
    | (gi_at_call 10; refine (callsIn_wide.2 C.out).mono ?_; rintro e w1 ⟨rfl, hb1⟩
       have B1 := Lib.hid (BEL.out.trans (hb1.mono BEL.out.size))
       have hz1 := hb1.size
       rw [HZ0.out] at hz1
       have x1 := X.out.below hb1 (by rw [HZ0.out]; exact Nat.lt_succ_self _)
       have x2 := x1.grown (World.grownBy_alloc w1 (.cells #[.slice none 0 0] 22) none) (by simp)
       have e0 := x2.cell 0
       have e1 := x2.cell 1
       have e2 := x2.cell 2
       simp only [List.getElem?_cons_zero, List.getElem?_cons_succ] at e0 e1 e2
       clear hb1 x1 x2 d0 d1 d2 C)
    | (gi_at_call 28; refine (callsIn_wide.2 (part_any A n c H M 0 M _)).mono ?_; rintro e w' ⟨rfl, rfl⟩))
  obtain ⟨L0, hL0⟩ : ∃ L0, L0 = w1.heap.size := ⟨_, rfl⟩
  have hx0 : Boxed (w1.alloc (.cells #[.slice none 0 0] 22)) w1.heap.size 22 (.slice none 0 0) := Boxed.new w1 22 (.slice none 0 0)
  obtain ⟨b0, b1, b2, b3, b4, b5, b6⟩ := boxesP (w1.alloc (.cells #[.slice none 0 0] 22)) A n c (H : Int) (M : Int) 0 (M : Int)
  have hs1 : (w1.alloc (.cells #[.slice none 0 0] 22)).heap.size = w1.heap.size + 1 := World.size_alloc _ _
  rw [hs1] at b0 b1 b2 b3 b4 b5 b6
  have hx := hx0.kept (grown_of_below (by rw [hs1]; exact b5)) (by simp)
  have hB0 := (B1.out.alloc B1.out.size (.cells #[.slice none 0 0] 22)).trans (b5.mono (by omega))
  obtain ⟨W1, hW1⟩ : ∃ W1, W1 = ((((w1.alloc (.cells #[.slice none 0 0] 22)).alloc (.cells #[.slice A n c, .int .i64 (H : Int), .int .i64 (M : Int)] 24)).alloc (.cells #[.int .i64 0] 3)).alloc (.cells #[.int .i64 (M : Int)] 3)) := ⟨_, rfl⟩
  rw [← hW1] at b0 b1 b2 b3 b4 b6 hB0 hx ⊢
  rw [← hL0] at b0 b1 b2 b3 b4 b6 hx hz1 ⊢
  clear hL0 hW1 b5 hx0 hs1 e0 e1 e2 X BEL HZ0
  refine wpIn_rangeFunc_ownF rfl (by omega) (gf := 34) (lb := #[.pointer (some ⟨L0 + 1 + 1, 0, none⟩), .pointer (some ⟨L0 + 1 + 1 + 1, 0, none⟩), .pointer (some ⟨L0 + 1, 0, none⟩)]) rfl trivial (enters_of Try.func34 (by kernel_rfl) rfl)
    (part_stops 4 w.heap.size (L0 + 1) 0 M A n c H (M : Int) s W1 (by omega) (by omega) (by omega) h1 h64 hH (Nat.zero_le _) (by omega) b0 b1 b2 b3 b4 (HSQ.out.below hB0)) (fun h k => h.trans k) (KpT.putObj (by omega) (by omega)) (Below.refl _ _) (fun _ => rfl)
    (fun pre W => (∃ A' c', Boxed W L0 22 (.slice A' pre.length c') ∧ OwnTexts W (L0 + 4) A' pre.length c' (pre.map (itm q H))) ∧ (Below w.heap.size w W ∧ L0 + 4 ≤ W.heap.size))
    (fun _ _ _ => False)
    (OwnFrom.and (Own.from (fun s A B row hs hg hr => by
      obtain ⟨A', c', hv, hO⟩ := hs
      exact ⟨A', c', hv.kept hg (fun e' => by obtain ⟨o, ho, hc⟩ := hr L0 e'.symm; rw [show A.heap[L0]? = _ from hv] at ho; cases ho; cases hc), hO.turned hg hr⟩) _) (OwnFrom.and (ownFrom_below (Nat.le_refl _) (by omega)) (fun s W W' row hs hg hr => Nat.le_trans hs hg.size)))
    (fun _ _ _ _ _ hs _ _ => hs)
    ⟨⟨none, 0, hx, OwnTexts.nil _ _⟩, hB0, by omega⟩
    (fun x => { tmps := #[queueV A n c (H : Int) (M : Int), .pointer (some ⟨w.heap.size, 0, none⟩), .slice none 0 0, .int .i64 0, .int .i64 0, .pointer (some ⟨L0, 0, none⟩), .slice (s ((H + x) % n)).1 (s ((H + x) % n)).2.1 (s ((H + x) % n)).2.2, queueV A n c (H : Int) (M : Int), .int .i64 0, .int .i64 0, .bool false, undef,
      queueV A n c (H : Int) (M : Int), .pointer (some ⟨w.heap.size, 2, none⟩), .int .i64 (M : Int), .func (.func 34) #[] #[.pointer (some ⟨L0 + 1 + 1, 0, none⟩), .pointer (some ⟨L0 + 1 + 1 + 1, 0, none⟩), .pointer (some ⟨L0 + 1, 0, none⟩)],
      .slice (s ((H + x) % n)).1 (s ((H + x) % n)).2.1 (s ((H + x) % n)).2.2, undef, undef, undef, undef, undef, undef], defers := [] }) ?assign ?body ?done ?stop
  case assign =>
    intro l x W K hK
    gi_wp2
    exact hK
  case body =>
    rintro l pre x W ⟨⟨A1, c1, hv, hO⟩, hB, hz⟩ hlt
    have hp : (H + x) % n < n := Nat.mod_lt _ (by omega)
    have harg := (HSA.out _ hp).below hB
    have hsm := SM.out ((H + x) % n)
    rw [← IT.out x] at harg hsm
    have hlen := harg.len
    have HBY := Lib.hid (IB.out x)
    have HPM := Lib.hid (show (pre ++ [x]).map (itm q H) = pre.map (itm q H) ++ [itm q H x] by simp)
    have HPL := Lib.hid (show (pre ++ [x]).length = pre.length + 1 by simp)
    obtain ⟨t, ht⟩ : ∃ t, t = itm q H x := ⟨_, rfl⟩
    obtain ⟨Q, hQ⟩ : ∃ Q, Q = pre.map (itm q H) := ⟨_, rfl⟩
    obtain ⟨ni, hni⟩ : ∃ ni, ni = (s ((H + x) % n)).2.1 := ⟨_, rfl⟩
    obtain ⟨ci, hci⟩ : ∃ ci, ci = (s ((H + x) % n)).2.2 := ⟨_, rfl⟩
    obtain ⟨Ai, hAi⟩ : ∃ Ai, Ai = (s ((H + x) % n)).1 := ⟨_, rfl⟩
    rw [← ht] at harg hsm hlen HBY HPM
    rw [← hQ] at hO HPM
    rw [← hni, ← hci, ← hAi] at harg
    rw [← hni] at hlen
    rw [← hni, ← hci, ← hAi]
    have hn200 : ni ≤ 1000 := by rw [← hlen]; omega
    have hp64 : pre.length < 64 := by omega
    have TB := Lib.hid (twinB_any Ai ni ci t W.drew (harg.below (below_drewN (Below.refl _ _) 1)) hn200)
    have l0 : W.cell? ⟨L0, 0, none⟩ = some (.slice A1 pre.length c1) := hv.cell
    have hv := Lib.hid hv
    have O := Lib.hid hO
    have hB := Lib.hid hB
    clear hni hci hAi ht hQ hO harg hsm hlen b0 b1 b2 b3 b4
    gi_wp2_with fail
    refine wpIn_region_any (by kernel_rfl) ?_
    change wpAnyIn _ _ _ _ _ _ _ _ _ (World.drew _)
    refine wpAnyIn_ready (rs := [0, 1]) (by kernel_rfl) (by simp) ?_
    refine AllReadyIn.cons rfl (fun K hK => ?_) ?_
    · go_simp
      refine hK _ _ ?_
      clear hK K
      refine wpAnyIn_ready (rs := [1]) (by kernel_rfl) (by simp) ?_
      refine AllReadyIn.cons rfl (fun K hK => ?_) ?_
      · go_simp
        refine hK _ _ ?_
        clear hK K
        refine wpAnyIn_ready (rs := [2]) (by kernel_rfl) (by simp) ?_
        refine AllReadyIn.cons rfl (fun K hK => ?_) ?_
        · go_simp
          refine ⟨trivial, ?_⟩
          refine (CallsIn.inRound l (callsIn_wide.2 TB.out)).mono ?_
          rintro e w2 ⟨A3, c3, rfl, hown3, hb3⟩
          have l2 := (hb3.cell (p := ⟨L0, 0, none⟩) (by show L0 < W.heap.size; omega)).trans l0
          have hz2 : W.heap.size ≤ w2.heap.size := hb3.size
          have l3 := (World.cell?_alloc_lt w2 (.cells #[.slice A3 ni c3] 28) ⟨L0, 0, none⟩ (by show L0 < w2.heap.size; omega)).trans l2
          refine hK _ _ ?_
          clear hK K
          refine wpAnyIn_ready (rs := [3]) (by kernel_rfl) (by simp) ?_
          refine AllReadyIn.cons rfl (fun K hK => ?_) ?_
          · go_simp
            refine hK _ _ ?_
            clear hK K
            refine wpAnyIn_ready (rs := [4]) (by kernel_rfl) (by simp) ?_
            refine AllReadyIn.cons rfl (fun K hK => ?_) ?_
            · refine step_text_in w2 (by rfl) (.tmp 17) (.tmp 20) _ (by rfl) i1 _ Try.underlying22 hi1 hy0 hy1 hy2 rfl (L0 + 4) A1 pre.length c1 Q (by rfl) (O.out.below ((below_drewN (Below.refl _ _) 1).trans (hb3.mono (Nat.le_refl _)))) A3 ni c3 t HBY.out (owns_base hown3 (by show L0 + 4 ≤ W.heap.size; omega)) (by rfl) (by omega) (by omega) (by omega) ?_
              intro g4 c4 w4 hO4 hg4
              have hv4 := ((hv.out.kept (grown_of_below ((below_drewN (Below.refl _ _) 1).trans (hb3.mono (Nat.le_refl _)))) (by simp)).alloc (.cells #[.slice A3 ni c3] 28)).kept hg4 (O.out.not_boxed hv.out)
              have l4 := hv4.cell
              have f4 := hv4.frozen
              refine hK _ _ ?_
              clear hK K
              refine wpAnyIn_ready (rs := [5]) (by kernel_rfl) (by simp) ?_
              refine AllReadyIn.cons rfl (fun K hK => ?_) ?_
              · go_simp
                refine hK _ _ ?_
                clear hK K
                refine wpAnyIn_done (by kernel_rfl) ?_ _
                clear l0 l2 l3 l4 f4
                obtain ⟨r1, r2, r3, r4, r5, r6⟩ := list_leaf hv.out O.out hB.out hz (by omega) hb3 hg4 hO4 hv4
                exact ⟨r1, r2, ⟨_, _, by rw [HPL.out]; exact r3, by rw [HPL.out, HPM.out]; exact r4⟩, r5, r6⟩
              exact AllReadyIn.nil
            exact AllReadyIn.nil
          exact AllReadyIn.nil
        exact AllReadyIn.nil
      exact AllReadyIn.nil
    refine AllReadyIn.cons rfl (fun K hK => ?_) ?_
    · go_simp
      refine hK _ _ ?_
      clear hK K
      refine wpAnyIn_ready (rs := [0, 2]) (by kernel_rfl) (by simp) ?_
      refine AllReadyIn.cons rfl (fun K hK => ?_) ?_
      · go_simp
        refine hK _ _ ?_
        clear hK K
        refine wpAnyIn_ready (rs := [2]) (by kernel_rfl) (by simp) ?_
        refine AllReadyIn.cons rfl (fun K hK => ?_) ?_
        · go_simp
          refine ⟨trivial, ?_⟩
          refine (CallsIn.inRound l (callsIn_wide.2 TB.out)).mono ?_
          rintro e w2 ⟨A3, c3, rfl, hown3, hb3⟩
          have l2 := (hb3.cell (p := ⟨L0, 0, none⟩) (by show L0 < W.heap.size; omega)).trans l0
          have hz2 : W.heap.size ≤ w2.heap.size := hb3.size
          have l3 := (World.cell?_alloc_lt w2 (.cells #[.slice A3 ni c3] 28) ⟨L0, 0, none⟩ (by show L0 < w2.heap.size; omega)).trans l2
          refine hK _ _ ?_
          clear hK K
          refine wpAnyIn_ready (rs := [3]) (by kernel_rfl) (by simp) ?_
          refine AllReadyIn.cons rfl (fun K hK => ?_) ?_
          · go_simp
            refine hK _ _ ?_
            clear hK K
            refine wpAnyIn_ready (rs := [4]) (by kernel_rfl) (by simp) ?_
            refine AllReadyIn.cons rfl (fun K hK => ?_) ?_
            · refine step_text_in w2 (by rfl) (.tmp 17) (.tmp 20) _ (by rfl) i1 _ Try.underlying22 hi1 hy0 hy1 hy2 rfl (L0 + 4) A1 pre.length c1 Q (by rfl) (O.out.below ((below_drewN (Below.refl _ _) 1).trans (hb3.mono (Nat.le_refl _)))) A3 ni c3 t HBY.out (owns_base hown3 (by show L0 + 4 ≤ W.heap.size; omega)) (by rfl) (by omega) (by omega) (by omega) ?_
              intro g4 c4 w4 hO4 hg4
              have hv4 := ((hv.out.kept (grown_of_below ((below_drewN (Below.refl _ _) 1).trans (hb3.mono (Nat.le_refl _)))) (by simp)).alloc (.cells #[.slice A3 ni c3] 28)).kept hg4 (O.out.not_boxed hv.out)
              have l4 := hv4.cell
              have f4 := hv4.frozen
              refine hK _ _ ?_
              clear hK K
              refine wpAnyIn_ready (rs := [5]) (by kernel_rfl) (by simp) ?_
              refine AllReadyIn.cons rfl (fun K hK => ?_) ?_
              · go_simp
                refine hK _ _ ?_
                clear hK K
                refine wpAnyIn_done (by kernel_rfl) ?_ _
                clear l0 l2 l3 l4 f4
                obtain ⟨r1, r2, r3, r4, r5, r6⟩ := list_leaf hv.out O.out hB.out hz (by omega) hb3 hg4 hO4 hv4
                exact ⟨r1, r2, ⟨_, _, by rw [HPL.out]; exact r3, by rw [HPL.out, HPM.out]; exact r4⟩, r5, r6⟩
              exact AllReadyIn.nil
            exact AllReadyIn.nil
          exact AllReadyIn.nil
        exact AllReadyIn.nil
      refine AllReadyIn.cons rfl (fun K hK => ?_) ?_
      · go_simp
        refine ⟨trivial, ?_⟩
        refine (CallsIn.inRound l (callsIn_wide.2 TB.out)).mono ?_
        rintro e w2 ⟨A3, c3, rfl, hown3, hb3⟩
        have l2 := (hb3.cell (p := ⟨L0, 0, none⟩) (by show L0 < W.heap.size; omega)).trans l0
        have hz2 : W.heap.size ≤ w2.heap.size := hb3.size
        have l3 := (World.cell?_alloc_lt w2 (.cells #[.slice A3 ni c3] 28) ⟨L0, 0, none⟩ (by show L0 < w2.heap.size; omega)).trans l2
        refine hK _ _ ?_
        clear hK K
        refine wpAnyIn_ready (rs := [0, 3]) (by kernel_rfl) (by simp) ?_
        refine AllReadyIn.cons rfl (fun K hK => ?_) ?_
        · go_simp
          refine hK _ _ ?_
          clear hK K
          refine wpAnyIn_ready (rs := [3]) (by kernel_rfl) (by simp) ?_
          refine AllReadyIn.cons rfl (fun K hK => ?_) ?_
          · go_simp
            refine hK _ _ ?_
            clear hK K
            refine wpAnyIn_ready (rs := [4]) (by kernel_rfl) (by simp) ?_
            refine AllReadyIn.cons rfl (fun K hK => ?_) ?_
            · refine step_text_in w2 (by rfl) (.tmp 17) (.tmp 20) _ (by rfl) i1 _ Try.underlying22 hi1 hy0 hy1 hy2 rfl (L0 + 4) A1 pre.length c1 Q (by rfl) (O.out.below ((below_drewN (Below.refl _ _) 1).trans (hb3.mono (Nat.le_refl _)))) A3 ni c3 t HBY.out (owns_base hown3 (by show L0 + 4 ≤ W.heap.size; omega)) (by rfl) (by omega) (by omega) (by omega) ?_
              intro g4 c4 w4 hO4 hg4
              have hv4 := ((hv.out.kept (grown_of_below ((below_drewN (Below.refl _ _) 1).trans (hb3.mono (Nat.le_refl _)))) (by simp)).alloc (.cells #[.slice A3 ni c3] 28)).kept hg4 (O.out.not_boxed hv.out)
              have l4 := hv4.cell
              have f4 := hv4.frozen
              refine hK _ _ ?_
              clear hK K
              refine wpAnyIn_ready (rs := [5]) (by kernel_rfl) (by simp) ?_
              refine AllReadyIn.cons rfl (fun K hK => ?_) ?_
              · go_simp
                refine hK _ _ ?_
                clear hK K
                refine wpAnyIn_done (by kernel_rfl) ?_ _
                clear l0 l2 l3 l4 f4
                obtain ⟨r1, r2, r3, r4, r5, r6⟩ := list_leaf hv.out O.out hB.out hz (by omega) hb3 hg4 hO4 hv4
                exact ⟨r1, r2, ⟨_, _, by rw [HPL.out]; exact r3, by rw [HPL.out, HPM.out]; exact r4⟩, r5, r6⟩
              exact AllReadyIn.nil
            exact AllReadyIn.nil
          exact AllReadyIn.nil
        refine AllReadyIn.cons rfl (fun K hK => ?_) ?_
        · go_simp
          refine hK _ _ ?_
          clear hK K
          refine wpAnyIn_ready (rs := [0]) (by kernel_rfl) (by simp) ?_
          refine AllReadyIn.cons rfl (fun K hK => ?_) ?_
          · go_simp
            refine hK _ _ ?_
            clear hK K
            refine wpAnyIn_ready (rs := [4]) (by kernel_rfl) (by simp) ?_
            refine AllReadyIn.cons rfl (fun K hK => ?_) ?_
            · refine step_text_in w2 (by rfl) (.tmp 17) (.tmp 20) _ (by rfl) i1 _ Try.underlying22 hi1 hy0 hy1 hy2 rfl (L0 + 4) A1 pre.length c1 Q (by rfl) (O.out.below ((below_drewN (Below.refl _ _) 1).trans (hb3.mono (Nat.le_refl _)))) A3 ni c3 t HBY.out (owns_base hown3 (by show L0 + 4 ≤ W.heap.size; omega)) (by rfl) (by omega) (by omega) (by omega) ?_
              intro g4 c4 w4 hO4 hg4
              have hv4 := ((hv.out.kept (grown_of_below ((below_drewN (Below.refl _ _) 1).trans (hb3.mono (Nat.le_refl _)))) (by simp)).alloc (.cells #[.slice A3 ni c3] 28)).kept hg4 (O.out.not_boxed hv.out)
              have l4 := hv4.cell
              have f4 := hv4.frozen
              refine hK _ _ ?_
              clear hK K
              refine wpAnyIn_ready (rs := [5]) (by kernel_rfl) (by simp) ?_
              refine AllReadyIn.cons rfl (fun K hK => ?_) ?_
              · go_simp
                refine hK _ _ ?_
                clear hK K
                refine wpAnyIn_done (by kernel_rfl) ?_ _
                clear l0 l2 l3 l4 f4
                obtain ⟨r1, r2, r3, r4, r5, r6⟩ := list_leaf hv.out O.out hB.out hz (by omega) hb3 hg4 hO4 hv4
                exact ⟨r1, r2, ⟨_, _, by rw [HPL.out]; exact r3, by rw [HPL.out, HPM.out]; exact r4⟩, r5, r6⟩
              exact AllReadyIn.nil
            exact AllReadyIn.nil
          exact AllReadyIn.nil
        exact AllReadyIn.nil
      exact AllReadyIn.nil
    exact AllReadyIn.nil
  case done =>
    rintro D ys W hD rfl ⟨⟨A1, c1, hv, hO⟩, hB, hz⟩ hK
    have hyl : (upN 0 (M - 0)).length = M := by rw [upN_length]; rfl
    rw [hyl] at hv hO
    have hc := hv.cell
    have hfin := hB.trans (belowK_b (w := w) (Nat.le_refl _) W D _ (.deferred none) (by omega) hK rfl rfl)
    have hfin := Lib.hid hfin
    have hrow := Lib.hid ((hO.turned (grownBy_putObj' W D (.deferred none)) (fun r e => by cases e; exact ⟨_, hK, rfl⟩)).lower (show w.heap.size ≤ L0 + 4 by omega))
    have hK2 := Lib.hid hK
    clear hB hO hv hyl
    gi_wp2
    refine ⟨by simp, .inl ⟨_, _, rfl, run_takeDeferred hK2.out, ?_⟩⟩
    exact ⟨_, results_tmp2 rfl _ _ _, A1, c1, rfl, hrow.out, hfin.out⟩
  case stop =>
    rintro D c pre W _ _ h _
    exact h.elim

end Go.Proofs.Ytbbnfbclbhkneaa
