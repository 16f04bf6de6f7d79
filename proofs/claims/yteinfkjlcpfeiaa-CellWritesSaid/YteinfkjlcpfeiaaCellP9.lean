/- Layer 6, the program: what a slot holds. No statement is proved here. -/
/- Layer 6, the program: what a cell holds. No statement is proved here. -/
import Derived.Test.YteinfkjlcpfeiaaCellP7
namespace Go.Proofs.Yteinfkjlcpfeiaa
open Go.RowKit
set_option linter.unusedVariables false

set_option maxRecDepth 100000 in
set_option maxHeartbeats 6400000 in
theorem content_any (A : Option Addr) (n c : Nat) (l : List (Option Txt)) (w : World) (h : Opts w A n c l) (hn : n ≤ 100) :
    Calls Try.prog 91 #[.slice A n c] w fun e w' => ∃ A' c', e = .returned (contV (slotV l) A' (slotB l).length c') ∧ w'.ownsRow w.heap.size 5 1 (.slice A' (slotB l).length c') (slotB l).length (ints .u8 (slotB l)) ∧ Below w.heap.size w w' := by
  have hmf : ∀ (fn : Fn) (first cap : Array Value) (w : World), (Instr.makeFunc fn first cap).run Try.prog w = .ok (.func fn first cap) w := fun _ _ _ _ => rfl
  have x0 := Blk.new w 109 [.int .u32 0, .slice none 0 0]
  have hb0 : Below w.heap.size w (w.alloc (.cells #[.int .u32 0, .slice none 0 0] 109)) := (Below.refl _ _).alloc (Nat.le_refl _) _
  have x1 := Blk.new (w.alloc (.cells #[.int .u32 0, .slice none 0 0] 109)) 146 [.slice none 0 0]
  have hb1 : Below (w.alloc (.cells #[.int .u32 0, .slice none 0 0] 109)).heap.size (w.alloc (.cells #[.int .u32 0, .slice none 0 0] 109)) ((w.alloc (.cells #[.int .u32 0, .slice none 0 0] 109)).alloc (.cells #[.slice none 0 0] 146)) := (Below.refl _ _).alloc (Nat.le_refl _) _
  have x0 := x0.below hb1 x0.lt
  have hbel := hb0.trans (hb1.mono hb0.size)
  have hsz : ((w.alloc (.cells #[.int .u32 0, .slice none 0 0] 109)).alloc (.cells #[.slice none 0 0] 146)).heap.size = w.heap.size + 2 := by simp
  rw [World.size_alloc] at x1
  obtain ⟨w1, hw1⟩ : ∃ w1, w1 = ((w.alloc (.cells #[.int .u32 0, .slice none 0 0] 109)).alloc (.cells #[.slice none 0 0] 146)) := ⟨_, rfl⟩
  rw [← hw1] at x0 x1 hbel hsz
  have X0 := Lib.hid x0
  have X1 := Lib.hid x1
  have BEL := Lib.hid hbel
  have HSZ := Lib.hid hsz
  have HP := Lib.hid h
  have HLN := Lib.hid h.len
  have HN := Lib.hid hn
  have HM := Lib.hid (show n ≤ 9223372036854775807 by omega)
  clear x0 x1 hb0 hb1 hbel hsz h hn
  go_enter_defers Try.func91, Try.ntmps91
  go_wp2
  rw [← hw1]
  clear hw1
  go_loopw [10, 4, 5, 6] (fun i _ _ _ wr => ∃ (k : Nat) (A1 : Option Addr) (c1 : Nat) (ps : List Prt), k ≤ n ∧ i = .int .i64 k ∧ heldTo l k = some ps ∧ Blk wr w.heap.size 109 [.int .u32 0, .slice none 0 0] ∧ Blk wr (w.heap.size + 1) 146 [.slice A1 k c1] ∧ OwnPrts w wr (w.heap.size + 2) A1 k c1 ps ∧ Below w.heap.size w wr ∧ w.heap.size + 2 ≤ wr.heap.size) (fun i _ _ _ _ => n - (intOf i).toNat)
  case atStart => exact ⟨0, none, 0, [], Nat.zero_le _, rfl, rfl, X0.out, X1.out, OwnPrts.nil _ _ _, BEL.out, Nat.le_of_eq HSZ.out.symm⟩
  case round =>
    obtain ⟨k, A1, c1, ps, hk, rfl, hps, hx0, hx1, hO, hB, hsz⟩ := hrel
    have hnM := HM.out
    have hn100 := HN.out
    clear X0 X1 BEL HSZ
    by_cases hkn : k < n
    · have hki : (k : Int) < (n : Int) := by omega
      obtain ⟨b, o, Ai, ni, ci, eA, hlt, hcs, hai⟩ := HP.out.at_ k hkn
      have e0 := (hB.cell (p := ⟨b, o + k, none⟩) hlt).trans hcs
      subst eA
      have PA := Lib.hid (part_any k (by omega) Ai ni ci (l.getD k none) w wr hai hB)
      obtain ⟨hpl, hps2⟩ := heldTo_small hps
      have K0 := Lib.hid hx0
      have K1 := Lib.hid hx1
      have O := Lib.hid hO
      have B := Lib.hid hB
      have AI := Lib.hid hai
      have HPS := Lib.hid hps
      have HPL := Lib.hid hpl
      clear hx0 hx1 hO hB hai hps hpl hps2 hcs
      go_wp2_with fail
      refine PA.out.mono ?_
      intro e w2 hor
      have hgo : (∃ p Ap cp, partO k (l.getD k none) = some p ∧ e = .returned (contV p.1 Ap p.2.length cp) ∧ Arg w .u8 Ap p.2.length cp p.2 ∧ Below wr.heap.size wr w2) ∨ (partO k (l.getD k none) = none ∧ Panics wr e w2) := hor
      clear hor PA
      rcases hgo with ⟨p, Ap, cp, hp, rfl, hap, hb2⟩ | ⟨hp, ⟨pv, rfl⟩, hb2⟩
      rotate_left
      · skip
        have HST := Lib.hid (heldTo_none (heldTo_stop HPS.out hp) (show k + 1 ≤ l.length by rw [HLN.out]; omega))
        have BX := Lib.hid (B.out.trans (hb2.mono B.out.size))
        have K := Lib.hid (K0.out.below hb2 K0.out.lt)
        clear hb2 hp K0 K1 O B AI HPS e0
        go_wp2
        refine leaves_cons (f := 103) (args := #[.pointer (some ⟨w.heap.size + 1, 0, none⟩), .pointer (some ⟨w.heap.size, 0, none⟩)]) (by simp) (by simp [go_sem]) ?_
        refine (catch_panicking _ _ 26 pv [] _).mono ?_
        rintro e u' w'' ⟨rfl, rfl, rfl⟩
        have z0 := K.out.cell 0
        have z1 := K.out.cell 1
        simp only [List.getElem?_cons_zero, List.getElem?_cons_succ] at z0 z1
        have hV : slotV l = 0 ∧ slotB l = [] := by unfold slotV slotB; rw [HST.out]; exact ⟨rfl, rfl⟩
        rw [hV.1, hV.2]
        simp [Leaves, settle, results, Try.f91, go_sem, z0, z1]
        refine ⟨none, 0, ⟨rfl, rfl⟩, ?_, BX.out⟩
        exact World.ownsRow_nil _ _ _ _
      obtain ⟨v, T⟩ := p
      dsimp only at hap ⊢
      obtain ⟨m, hm⟩ : ∃ x, x = T.length := ⟨_, rfl⟩
      rw [← hm] at hap ⊢
      have hb3 : Below w2.heap.size w2 (w2.alloc (.cells #[.int .u32 v, .slice Ap m cp] 109)) := (Below.refl _ _).alloc (Nat.le_refl _) _
      have hbX := hb2.trans (hb3.mono hb2.size)
      have y := Blk.new w2 109 [.int .u32 v, .slice Ap m cp]
      have y0 := y.cell 0
      have y1 := y.cell 1
      simp only [List.getElem?_cons_zero, List.getElem?_cons_succ] at y0 y1
      have K0 := Lib.hid (K0.out.below hbX K0.out.lt)
      have K1 := Lib.hid (K1.out.below hbX K1.out.lt)
      have O := Lib.hid (O.out.below hbX)
      have hszX : w.heap.size + 2 ≤ (w2.alloc (.cells #[.int .u32 v, .slice Ap m cp] 109)).heap.size := Nat.le_trans hsz hbX.size
      have B := Lib.hid (B.out.trans (hbX.mono B.out.size))
      have HAP := Lib.hid hap
      have HP2 := Lib.hid hp
      have HM2 := Lib.hid hm
      have Y := Lib.hid y
      clear hap hp hm hb2 hb3 hbX y e0
      by_cases hk0 : k = 0
      · have hkn0 : ¬ (0 : Int) < (k : Int) := by omega
        have HK0 := Lib.hid hk0
        clear hk0
        go_upto_region 9 with fail
        obtain ⟨vX, hW⟩ : ∃ x : World, x = w2.alloc (.cells #[.int .u32 v, .slice Ap m cp] 109) := ⟨_, rfl⟩
        rw [← hW] at K0 K1 O B Y y0 y1 hszX ⊢
        clear hW y0 y1
        have g0 := K1.out.cell 0
        have y0 := Y.out.cell 0
        have y1 := Y.out.cell 1
        simp only [List.getElem?_cons_zero, List.getElem?_cons_succ] at g0 y0 y1
        go_wp2_with (at_builtin; go_must (refine wpList_prt w vX rfl (.tmp 27) (.tmp 29) rfl (w.heap.size + 2) A1 k c1 ps rfl O.out v Ap m cp T HAP.out rfl (by omega) hszX ?_); intro g9 c9 w9 ho9 hb9; have k1 := K1.out.below hb9 (Nat.lt_succ_self _); have b1 := k1.cell 0; have b2 := k1.free 0; simp only [List.getElem?_cons_zero] at b1; have K9 := Lib.hid k1; have K8 := Lib.hid (K0.out.below hb9 (Nat.lt_succ_of_lt (Nat.lt_succ_self _))); have O9 := Lib.hid ho9; have B9 := Lib.hid hb9; clear k1 ho9 hb9)
        go_roundw
        case rel => exact ⟨k + 1, some ⟨g9, 0, none⟩, c9, ps ++ [(v, T)], by omega, by go_num, heldTo_succ HPS.out HP2.out (.inl HK0.out), K8.out.away (show w.heap.size ≠ w.heap.size + 1 by omega) 0 _, K9.out.set 0 _, O9.out.off (Nat.lt_succ_self _) 0 _, (B.out.trans (B9.out.mono (Nat.le_add_right _ _))).setCell (p := ⟨w.heap.size + 1, 0, none⟩) (Nat.le_succ _) _, Nat.le_trans hszX (by have := B9.out.size; simpa [World.setCell] using this)⟩
        all_goals (try case measure => simp [intOf]; omega)
      · have hkp0 : (0 : Int) < (k : Int) := by omega
        obtain ⟨j, rfl⟩ : ∃ j, k = j + 1 := ⟨k - 1, by omega⟩
        have ewj : IntKind.i64.wrap (j : Int) = (j : Int) := Lib.wrap_i64_small j (by omega)
        have hj1 : (j : Int) < ((j + 1 : Nat) : Int) := by omega
        have hj2 : (j : Int) < (j : Int) + 1 := by omega
        have hj3 : (0 : Int) ≤ (j : Int) := by omega
        have hj4 : ¬ (j : Int) < 0 := by omega
        have hpr := Prts.of_own O.out B.out
        obtain ⟨bb, Al, nl, cl, eA1, hltb, q0, q1, haj⟩ := hpr.at_ j (Nat.lt_succ_self _)
        subst eA1
        obtain ⟨pj, hpj⟩ : ∃ x, x = ps.getD j (0, []) := ⟨_, rfl⟩
        rw [← hpj] at q0 haj
        obtain ⟨vj, Tj⟩ := pj
        dsimp only at q0 haj
        have hnl : nl = Tj.length := haj.len.symm
        subst hnl
        have FO := Lib.hid (follow_any v vj Ap Al cp cl T Tj)
        rw [← HM2.out] at FO
        have HPJ := Lib.hid hpj
        have g0 := K1.out.cell 0
        simp only [List.getElem?_cons_zero] at g0
        clear hpr haj hpj
        go_upto_region 8 with fail
        obtain ⟨v3, hW⟩ : ∃ x : World, x = w2.alloc (.cells #[.int .u32 v, .slice Ap m cp] 109) := ⟨_, rfl⟩
        rw [← hW] at K0 K1 O B Y y0 y1 q0 q1 g0 hltb hszX ⊢
        clear hW
        go_still_tail 6, (by kernel_rfl)
        change wpList _ _ _ _ _ v3.drew
        go_wp2_with fail
        refine (FO.out v3.drew).mono ?_
        intro e w5 hor
        have hgo : (follows (v, T) (vj, Tj) ∧ e = .returned (.tuple #[]) ∧ Below v3.heap.size v3 w5) ∨ (¬ follows (v, T) (vj, Tj) ∧ (∃ pv, e = .panicked [{ v := .iface 26 pv, recovered := false }]) ∧ Below v3.heap.size v3 w5) := by
          have hd : Below v3.heap.size v3 v3.drew := below_drewN (Below.refl _ _) 1
          rcases hor with ⟨h1, h2, h3⟩ | ⟨h1, h2, h3⟩
          · exact .inl ⟨h1, h2, hd.trans (h3.mono hd.size)⟩
          · exact .inr ⟨h1, h2, hd.trans (h3.mono hd.size)⟩
        clear hor FO g0 q0 q1 y0 y1
        rcases hgo with ⟨hfo, rfl, hb5⟩ | ⟨hfo, ⟨pv, rfl⟩, hb5⟩
        rotate_left
        · skip
          have HST := Lib.hid (heldTo_none (heldTo_stop2 HPS.out HP2.out (fun h => h.elim (by omega) (fun h => hfo (by rw [Nat.add_sub_cancel, ← HPJ.out] at h; exact h)))) (show j + 1 + 1 ≤ l.length by rw [HLN.out]; omega))
          have BX := Lib.hid (B.out.trans (hb5.mono B.out.size))
          have K := Lib.hid (K0.out.below hb5 K0.out.lt)
          clear hb5 hfo K0 K1 O B AI HPS HP2 Y
          go_wp2
          refine leaves_cons (f := 103) (args := #[.pointer (some ⟨w.heap.size + 1, 0, none⟩), .pointer (some ⟨w.heap.size, 0, none⟩)]) (by simp) (by simp [go_sem]) ?_
          refine (catch_panicking _ _ 26 pv [] _).mono ?_
          rintro e u' w'' ⟨rfl, rfl, rfl⟩
          have z0 := K.out.cell 0
          have z1 := K.out.cell 1
          simp only [List.getElem?_cons_zero, List.getElem?_cons_succ] at z0 z1
          have hV : slotV l = 0 ∧ slotB l = [] := by unfold slotV slotB; rw [HST.out]; exact ⟨rfl, rfl⟩
          rw [hV.1, hV.2]
          simp [Leaves, settle, results, Try.f91, go_sem, z0, z1]
          refine ⟨none, 0, ⟨rfl, rfl⟩, ?_, BX.out⟩
          exact World.ownsRow_nil _ _ _ _
        have HFO := Lib.hid (show follows (v, T) (ps.getD (j + 1 - 1) (0, [])) by rw [Nat.add_sub_cancel, ← HPJ.out]; exact hfo)
        have K0 := Lib.hid (K0.out.below hb5 K0.out.lt)
        have K1 := Lib.hid (K1.out.below hb5 K1.out.lt)
        have O := Lib.hid (O.out.below hb5)
        have hszX := Nat.le_trans hszX hb5.size
        have B := Lib.hid (B.out.trans (hb5.mono B.out.size))
        have Y := Lib.hid (Y.out.below hb5 Y.out.lt)
        clear hb5 hfo
        go_upto_region 9 with fail
        obtain ⟨vX, hW⟩ : ∃ x : World, x = w5 := ⟨_, rfl⟩
        rw [← hW] at K0 K1 O B Y hszX ⊢
        clear hW
        have g0 := K1.out.cell 0
        have y0 := Y.out.cell 0
        have y1 := Y.out.cell 1
        simp only [List.getElem?_cons_zero, List.getElem?_cons_succ] at g0 y0 y1
        go_wp2_with (at_builtin; go_must (refine wpList_prt w vX rfl (.tmp 27) (.tmp 29) rfl (w.heap.size + 2) _ (j + 1) c1 ps rfl O.out v Ap m cp T HAP.out rfl (by omega) hszX ?_); intro g9 c9 w9 ho9 hb9; have k1 := K1.out.below hb9 (Nat.lt_succ_self _); have b1 := k1.cell 0; have b2 := k1.free 0; simp only [List.getElem?_cons_zero] at b1; have K9 := Lib.hid k1; have K8 := Lib.hid (K0.out.below hb9 (Nat.lt_succ_of_lt (Nat.lt_succ_self _))); have O9 := Lib.hid ho9; have B9 := Lib.hid hb9; clear k1 ho9 hb9)
        go_roundw
        case rel => exact ⟨j + 1 + 1, some ⟨g9, 0, none⟩, c9, ps ++ [(v, T)], by omega, by go_num, heldTo_succ HPS.out HP2.out (.inr HFO.out), K8.out.away (show w.heap.size ≠ w.heap.size + 1 by omega) 0 _, K9.out.set 0 _, O9.out.off (Nat.lt_succ_self _) 0 _, (B.out.trans (B9.out.mono (Nat.le_add_right _ _))).setCell (p := ⟨w.heap.size + 1, 0, none⟩) (Nat.le_succ _) _, Nat.le_trans hszX (by have := B9.out.size; simpa [World.setCell] using this)⟩
        all_goals (try case measure => simp [intOf]; omega)
    · obtain rfl : k = n := by omega
      have K0 := Lib.hid hx0
      have K1 := Lib.hid hx1
      have O := Lib.hid hO
      have B := Lib.hid hB
      have HPS := Lib.hid hps
      have a0 := hx0.cell 0
      have a1 := hx0.cell 1
      have f0 := hx0.free 0
      have f1 := hx0.free 1
      simp only [List.getElem?_cons_zero, List.getElem?_cons_succ] at a0 a1
      clear hx0 hx1 hO hB hps
      go_wp2
      refine leaves_cons (f := 103) (args := #[.pointer (some ⟨w.heap.size + 1, 0, none⟩), .pointer (some ⟨w.heap.size, 0, none⟩)]) (by simp) (by simp [go_sem]) ?_
      have hbz : Below w.heap.size w ((wr.setCell ⟨w.heap.size, 0, none⟩ (.int .u32 0)).setCell ⟨w.heap.size, 1, none⟩ (.slice none 0 0)) := below_two B.out (Nat.le_refl _) _ _
      have oz := (O.out.off (show w.heap.size < w.heap.size + 2 by omega) 0 (.int .u32 0)).off (show w.heap.size < w.heap.size + 2 by omega) 1 (.slice none 0 0)
      have kz := (K1.out.away (show w.heap.size + 1 ≠ w.heap.size by omega) 0 (.int .u32 0)).away (show w.heap.size + 1 ≠ w.heap.size by omega) 1 (.slice none 0 0)
      have rz := K0.out.two (.int .u32 0) (.slice none 0 0)
      obtain ⟨hpl, hps2⟩ := heldTo_small HPS.out
      refine (catch_idle (w.heap.size + 1) w.heap.size A1 _ c1 ps _ (Prts.of_own oz hbz) hn100 (fun p hp => Nat.le_trans (hps2 p hp) (by decide)) kz rz).mono ?_
      rintro e u' w'' ⟨rfl, rfl, A', c', w6, hown, hb6, rfl⟩
      have hV : slotV l = joinV ps ∧ slotB l = joinB ps := by unfold slotV slotB; rw [HLN.out, HPS.out]; exact ⟨rfl, rfl⟩
      rw [hV.1, hV.2]
      have r6 := rz.below hb6 rz.lt
      have r7 := r6.two (.int .u32 (joinV ps)) (.slice A' (joinB ps).length c')
      have z0 := r7.cell 0
      have z1 := r7.cell 1
      simp only [List.getElem?_cons_zero, List.getElem?_cons_succ] at z0 z1
      have o1 := owns_other_box hown r6 (by decide) 0 (.int .u32 (joinV ps))
      have o2 := owns_other_box o1 (r6.set 0 (.int .u32 (joinV ps))) (by decide) 1 (.slice A' (joinB ps).length c')
      have BF := Lib.hid (below_two (hbz.trans (hb6.mono hbz.size)) (Nat.le_refl _) (.int .u32 (joinV ps)) (.slice A' (joinB ps).length c'))
      have OF := Lib.hid (owns_base o2 hbz.size)
      clear hbz oz kz rz hps2 hpl hown hb6 r6 r7 o1 o2 a0 a1 f0 f1
      simp [Leaves, settle, results, Try.f91, go_sem, z0, z1]
      exact ⟨A', c', ⟨rfl, rfl⟩, OF.out, BF.out⟩

end Go.Proofs.Yteinfkjlcpfeiaa

namespace Go.Proofs.Yteinfkjlcpfeiaa
open Go.RowKit
set_option linter.unusedVariables false

theorem Opts.sub {w : World} {b o n c m s : Nat} {l : List (Option Txt)} (h : Opts w (some ⟨b, o, none⟩) n c l) (hs : s + m ≤ n) : Opts w (some ⟨b, o + s, none⟩) m m ((l.drop s).take m) := by
  have hl := h.len
  have hc := h.cap
  have hm := h.max
  refine ⟨by rw [List.length_take, List.length_drop]; omega, Nat.le_refl _, by omega, fun i hi => ?_⟩
  obtain ⟨b', o', Ai, ni, ci, e, hlt, hcs, ha⟩ := h.at_ (s + i) (by omega)
  injection e with e
  injection e with e1 e2 _
  subst e1
  subst e2
  refine ⟨b, o + s, Ai, ni, ci, rfl, hlt, by rw [Nat.add_assoc]; exact hcs, ?_⟩
  have e3 : ((l.drop s).take m).getD i none = l.getD (s + i) none := by
    rw [List.getD_eq_getElem?_getD, List.getD_eq_getElem?_getD, List.getElem?_take_of_lt hi, List.getElem?_drop]
  rw [e3]
  exact ha
theorem slot0_any (b o n c m : Nat) (w : World) (hn : n = 2 * m) (hm1 : 1 ≤ m) (hm : m ≤ 100) (hc : n ≤ c) (hcm : c ≤ maxLen) :
    Calls Try.prog 92 #[.slice (some ⟨b, o, none⟩) n c, .int .i64 0] w fun e w' => e = .returned (.slice (some ⟨b, o, none⟩) m m) ∧ w' = w := by
  have hq : (n : Int) / 2 = (m : Int) := by omega
  have hq2 : n / 2 = m := by omega
  have hm0 : (0 : Int) ≤ (m : Int) := by omega
  have hm2 : (m : Int) ≤ 2 * (m : Int) := by omega
  have hmc : (m : Int) ≤ (c : Int) := by omega
  unfold maxLen at hcm
  clear hn
  go_enter Try.func92, Try.ntmps92
  go_wp2
  go_ret
  exact ⟨rfl, rfl⟩
theorem slot1_any (b o n c m : Nat) (w : World) (hn : n = 2 * m) (hm1 : 1 ≤ m) (hm : m ≤ 100) (hc : n ≤ c) (hcm : c ≤ maxLen) :
    Calls Try.prog 92 #[.slice (some ⟨b, o, none⟩) n c, .int .i64 1] w fun e w' => e = .returned (.slice (some ⟨b, o + m, none⟩) m m) ∧ w' = w := by
  have hq : (n : Int) / 2 = (m : Int) := by omega
  have hq2 : n / 2 = m := by omega
  have hm0 : (0 : Int) ≤ (m : Int) := by omega
  have hm2 : (m : Int) ≤ 2 * (m : Int) := by omega
  have hmc : (2 : Int) * (m : Int) ≤ (c : Int) := by omega
  unfold maxLen at hcm
  have hmm : 2 * m - m = m := by omega
  clear hn
  go_enter Try.func92, Try.ntmps92
  go_wp2
  go_ret
  refine ⟨?_, rfl⟩
  show Ending.returned (Value.slice (some ⟨b, o + m, none⟩) (2 * m - m) (2 * m - m)) = _
  rw [hmm]

/-- What a cell holds of its sectors as they are read: version, bytes, and the slot that is free. -/
def hV (m : Nat) (l : List (Option Txt)) : Int := if slotV (l.take m) = 0 ∨ slotV (l.take m) < slotV (l.drop m) then slotV (l.drop m) else slotV (l.take m)
def hB (m : Nat) (l : List (Option Txt)) : Txt := if slotV (l.take m) = 0 ∨ slotV (l.take m) < slotV (l.drop m) then slotB (l.drop m) else slotB (l.take m)
def hF (m : Nat) (l : List (Option Txt)) : Int := if slotV (l.take m) = 0 ∨ slotV (l.take m) < slotV (l.drop m) then 0 else 1

set_option maxRecDepth 100000 in
set_option maxHeartbeats 3200000 in
theorem held_any (b o n c m : Nat) (l : List (Option Txt)) (w : World) (h : Opts w (some ⟨b, o, none⟩) n c l) (hn : n = 2 * m) (hm1 : 1 ≤ m) (hm : m ≤ 50) :
    Calls Try.prog 73 #[.slice (some ⟨b, o, none⟩) n c] w fun e w' => ∃ A' c', e = .returned (.tuple #[contV (hV m l) A' (hB m l).length c', .int .i64 (hF m l)]) ∧ w'.ownsRow w.heap.size 5 1 (.slice A' (hB m l).length c') (hB m l).length (ints .u8 (hB m l)) ∧ Below w.heap.size w w' := by
  have x := Blk.new w 109 [.int .u32 0, .slice none 0 0]
  have hb0 : Below w.heap.size w (w.alloc (.cells #[.int .u32 0, .slice none 0 0] 109)) := (Below.refl _ _).alloc (Nat.le_refl _) _
  have X := Lib.hid x
  have B := Lib.hid hb0
  have S0 := Lib.hid (fun w => slot0_any b o n c m w hn hm1 (by omega) h.cap h.max)
  have S1 := Lib.hid (fun w => slot1_any b o n c m w hn hm1 (by omega) h.cap h.max)
  have l0 := (h.sub (m := m) (s := 0) (by omega))
  have l1 := (h.sub (m := m) (s := m) (by omega))
  rw [Nat.add_zero, List.drop_zero] at l0
  have e1 : (l.drop m).take m = l.drop m := List.take_of_length_le (by rw [List.length_drop, h.len]; omega)
  rw [e1] at l1
  have C0 := Lib.hid (fun wx (hx : Below w.heap.size w wx) => content_any (some ⟨b, o, none⟩) m m (l.take m) wx (l0.below hx) (by omega))
  have C1 := Lib.hid (fun wx (hx : Below w.heap.size w wx) => content_any (some ⟨b, o + m, none⟩) m m (l.drop m) wx (l1.below hx) (by omega))
  clear x hb0 h hn hm1 hm l0 l1 e1
  unfold hV hB hF
  obtain ⟨v0, hv0⟩ : ∃ x, x = slotV (l.take m) := ⟨_, rfl⟩
  obtain ⟨b0, hb0⟩ : ∃ x, x = slotB (l.take m) := ⟨_, rfl⟩
  obtain ⟨v1, hv1⟩ : ∃ x, x = slotV (l.drop m) := ⟨_, rfl⟩
  obtain ⟨b1, hb1⟩ : ∃ x, x = slotB (l.drop m) := ⟨_, rfl⟩
  rw [← hv0, ← hb0] at C0
  rw [← hv1, ← hb1] at C1
  rw [← hv0, ← hb0, ← hv1, ← hb1]
  clear hv0 hb0 hv1 hb1
  obtain ⟨rv, hrv⟩ : ∃ x, x = if v0 = 0 ∨ v0 < v1 then v1 else v0 := ⟨_, rfl⟩
  obtain ⟨rb, hrb⟩ : ∃ x, x = if v0 = 0 ∨ v0 < v1 then b1 else b0 := ⟨_, rfl⟩
  obtain ⟨rf, hrf⟩ : ∃ x, x = if v0 = 0 ∨ v0 < v1 then (0 : Int) else 1 := ⟨_, rfl⟩
  rw [← hrv, ← hrb, ← hrf]
  have HY := Lib.hid (show v0 = 0 ∨ v0 < v1 → rv = v1 ∧ rb = b1 ∧ rf = 0 from fun h => by rw [if_pos h] at hrv hrb hrf; exact ⟨hrv, hrb, hrf⟩)
  have HX := Lib.hid (show ¬ (v0 = 0 ∨ v0 < v1) → rv = v0 ∧ rb = b0 ∧ rf = 1 from fun h => by rw [if_neg h] at hrv hrb hrf; exact ⟨hrv, hrb, hrf⟩)
  clear hrv hrb hrf
  obtain ⟨n0, hn0⟩ : ∃ x, x = b0.length := ⟨_, rfl⟩
  obtain ⟨n1, hn1⟩ : ∃ x, x = b1.length := ⟨_, rfl⟩
  rw [← hn0] at C0
  rw [← hn1] at C1
  have HN0 := Lib.hid hn0
  have HN1 := Lib.hid hn1
  clear hn0 hn1
  go_enter Try.func73, Try.ntmps73
  go_wp2_with fail
  refine (S0.out _).mono ?_
  rintro e w' ⟨rfl, rfl⟩
  go_wp2_with fail
  refine (C0.out _ B.out).mono ?_
  rintro e w2 ⟨A0, c0, rfl, hown0, hb2⟩
  have B2 := Lib.hid (B.out.trans (hb2.mono B.out.size))
  have X2 := Lib.hid (X.out.below hb2 X.out.lt)
  have O0 := Lib.hid (owns_base hown0 B.out.size)
  clear hown0 hb2 X B S0
  go_wp2_with fail
  refine (S1.out _).mono ?_
  rintro e w' ⟨rfl, rfl⟩
  go_wp2_with fail
  refine (C1.out _ B2.out).mono ?_
  rintro e w3 ⟨A1, c1, rfl, hown1, hb3⟩
  have B3 := Lib.hid (B2.out.trans (hb3.mono B2.out.size))
  have X3 := Lib.hid (X2.out.below hb3 X2.out.lt)
  have O0 := Lib.hid (owns_below O0.out hb3)
  have O1 := Lib.hid (owns_base hown1 B2.out.size)
  clear hown1 hb3 X2 B2 S1 C0 C1
  have y0 := Blk.new w3 109 [.int .u32 v0, .slice A0 n0 c0]
  have hb4 : Below w3.heap.size w3 (w3.alloc (.cells #[.int .u32 v0, .slice A0 n0 c0] 109)) := (Below.refl _ _).alloc (Nat.le_refl _) _
  have y1 := Blk.new (w3.alloc (.cells #[.int .u32 v0, .slice A0 n0 c0] 109)) 109 [.int .u32 v1, .slice A1 n1 c1]
  have hb5 : Below (w3.alloc (.cells #[.int .u32 v0, .slice A0 n0 c0] 109)).heap.size (w3.alloc (.cells #[.int .u32 v0, .slice A0 n0 c0] 109)) ((w3.alloc (.cells #[.int .u32 v0, .slice A0 n0 c0] 109)).alloc (.cells #[.int .u32 v1, .slice A1 n1 c1] 109)) := (Below.refl _ _).alloc (Nat.le_refl _) _
  have y0 := y0.below hb5 y0.lt
  have hb6 := hb4.trans (hb5.mono hb4.size)
  rw [World.size_alloc] at y1
  go_upto_region 2 with fail
  obtain ⟨w4, hW⟩ : ∃ x : World, x = (w3.alloc (.cells #[.int .u32 v0, .slice A0 n0 c0] 109)).alloc (.cells #[.int .u32 v1, .slice A1 n1 c1] 109) := ⟨_, rfl⟩
  rw [← hW] at y0 y1 hb6 ⊢
  clear hW hb4 hb5
  have x4 := X3.out.below hb6 X3.out.lt
  have X4 := Lib.hid x4
  have B4 := Lib.hid (B3.out.trans (hb6.mono B3.out.size))
  have O0 := Lib.hid (owns_below O0.out hb6)
  have O1 := Lib.hid (owns_below O1.out hb6)
  have p0 := y0.cell 0
  have p1 := y0.cell 1
  have q0 := y1.cell 0
  have q1 := y1.cell 1
  have r0 := x4.cell 0
  have r1 := x4.cell 1
  have f0 := x4.free 0
  have f1 := x4.free 1
  simp only [List.getElem?_cons_zero, List.getElem?_cons_succ] at p0 p1 q0 q1 r0 r1
  clear y0 y1 hb6 x4 X3 B3
  by_cases hz : v0 = 0
  · have HR := Lib.hid (HY.out (.inl hz))
    have hz2 : (v0 == 0) = true := beq_iff_eq.2 hz
    clear hz
    obtain ⟨rfl, rfl, rfl⟩ := HR.out
    go_wp2
    have z := X4.out.two (.int .u32 rv) (.slice A1 n1 c1)
    have z0 := z.cell 0
    have z1 := z.cell 1
    simp only [List.getElem?_cons_zero, List.getElem?_cons_succ] at z0 z1
    have o1 := owns_other_box O1.out X4.out (by decide) 0 (.int .u32 rv)
    have o2 := owns_other_box o1 (X4.out.set 0 (.int .u32 rv)) (by decide) 1 (.slice A1 n1 c1)
    refine bodyPost_ret (v := .tuple #[contV rv A1 n1 c1, .int .i64 0]) ?_ rfl ⟨A1, c1, by rw [HN1.out], by rw [← HN1.out]; exact o2, below_two B4.out (Nat.le_refl _) _ _⟩
    clear p0 p1 q0 q1 r0 r1 f0 f1
    simp [results, Try.f73, go_sem, z0, z1]
  · have hz2 : (v0 == 0) = false := beq_eq_false_iff_ne.2 hz
    by_cases hl : v0 < v1
    · have HR := Lib.hid (HY.out (.inr hl))
      clear hz
      obtain ⟨rfl, rfl, rfl⟩ := HR.out
      go_wp2
      have z := X4.out.two (.int .u32 rv) (.slice A1 n1 c1)
      have z0 := z.cell 0
      have z1 := z.cell 1
      simp only [List.getElem?_cons_zero, List.getElem?_cons_succ] at z0 z1
      have o1 := owns_other_box O1.out X4.out (by decide) 0 (.int .u32 rv)
      have o2 := owns_other_box o1 (X4.out.set 0 (.int .u32 rv)) (by decide) 1 (.slice A1 n1 c1)
      refine bodyPost_ret (v := .tuple #[contV rv A1 n1 c1, .int .i64 0]) ?_ rfl ⟨A1, c1, by rw [HN1.out], by rw [← HN1.out]; exact o2, below_two B4.out (Nat.le_refl _) _ _⟩
      clear p0 p1 q0 q1 r0 r1 f0 f1
      simp [results, Try.f73, go_sem, z0, z1]
    · have HR := Lib.hid (HX.out (fun h => h.elim hz hl))
      clear hz
      obtain ⟨rfl, rfl, rfl⟩ := HR.out
      go_wp2
      have z := X4.out.two (.int .u32 rv) (.slice A0 n0 c0)
      have z0 := z.cell 0
      have z1 := z.cell 1
      simp only [List.getElem?_cons_zero, List.getElem?_cons_succ] at z0 z1
      have o1 := owns_other_box O0.out X4.out (by decide) 0 (.int .u32 rv)
      have o2 := owns_other_box o1 (X4.out.set 0 (.int .u32 rv)) (by decide) 1 (.slice A0 n0 c0)
      refine bodyPost_ret (v := .tuple #[contV rv A0 n0 c0, .int .i64 1]) ?_ rfl ⟨A0, c0, by rw [HN0.out], by rw [← HN0.out]; exact o2, below_two B4.out (Nat.le_refl _) _ _⟩
      clear p0 p1 q0 q1 r0 r1 f0 f1
      simp [results, Try.f73, go_sem, z0, z1]

end Go.Proofs.Yteinfkjlcpfeiaa
