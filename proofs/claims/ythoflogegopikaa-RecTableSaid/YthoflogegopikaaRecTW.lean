/- Layer 11, RecTables: the walk, given RecDoes. -/
import Derived.Test.YthoflogegopikaaRecW
import Derived.Test.YthoflogegopikaaRecSm
import Derived.Test.YthoflogegopikaaStepDup
import Derived.Deep.Cut
namespace Go.Proofs.Ythoflogegopikaa
open Go.RowKit
set_option linter.unusedVariables false

theorem small11 {l : List Txt} {n : Nat} (hl : l.length = n) (hn : n ≤ 100) (h : ShortT l n) : SmallT l := by
  refine ⟨by omega, fun t ht => ?_⟩
  obtain ⟨i, hi, rfl⟩ := List.getElem_of_mem ht
  have := h i (by omega)
  rw [List.getD_eq_getElem?_getD, List.getElem?_eq_getElem hi] at this
  exact Nat.le_trans this (by omega)
theorem same11_yes (A : Option Addr) (n c : Nat) (a : List Rc) (A' : Option Addr) (n' c' : Nat) (w : World) (ha : Recs w A n c a) (hb : Recs w A' n' c' a) :
    Calls Try.prog 27 #[.slice A n c, .slice A' n' c'] w fun e w' => e = .returned (.bool true) ∧ Below w.heap.size w w' := by
  refine (same11_any A n c a A' n' c' a w ha hb).mono ?_
  rintro e w' ⟨rfl, q, rfl⟩
  exact ⟨by rw [decide_eq_true rfl], below_drewN (Below.refl _ _) q⟩
theorem sall11_yes (A : Option Addr) (n c : Nat) (a : List Txt) (A' : Option Addr) (n' c' : Nat) (w : World) (ha : Texts w A n c a) (hb : Texts w A' n' c' a) :
    Calls Try.prog 28 #[.slice A n c, .slice A' n' c'] w fun e w' => e = .returned (.bool true) ∧ Below w.heap.size w w' := by
  refine (sall11_any A n c a A' n' c' a w ha hb).mono ?_
  rintro e w' ⟨rfl, q, rfl⟩
  exact ⟨by rw [decide_eq_true rfl], below_drewN (Below.refl _ _) q⟩
/-- append([]Rec{}, t...): a copy of its own. -/
theorem wpList_dup_recs (w : World) {ops : Array Oper} {rest : List Oper} {o : Oper} {a : Act} {Q : Exit → Act → World → Prop} (hw : Region.wanted o (yielded ops a.tmps) = true) (s x : Operand)
    (ho : o.op = .call { callee := .builtin .append, args := #[s, x], argTypes := #[30, 30] }) (hs : a.eval s = .slice (some ⟨w.heap.size, 0, none⟩) 0 0)
    (A : Option Addr) (m c : Nat) (L : List Rc) (hx : a.eval x = .slice A m c) (hr : Recs w A m c L) (h63 : m ≤ 100000)
    (h : ∀ A' c' w', OwnRecs w' w.heap.size A' m c' L → Below w.heap.size w w' → wpList Try.prog ops Q rest (a.put o.dst (.slice A' m c')) w') : wpList Try.prog ops Q (o :: rest) a (w.alloc (.cells #[] 24)) := by
  refine wpList_want hw fun K hK => ?_
  obtain ⟨i, hi, hz, hsize, hby⟩ := info_parts rec_info
  have hml : (100000 : Nat) ≤ maxLen := by decide
  have hb1 : Below w.heap.size w (w.alloc (.cells #[] 24)) := (Below.refl _ _).alloc (Nat.le_refl _) _
  have hlit : (w.alloc (.cells #[] 24)).ownsRow w.heap.size 24 8 (.slice (some ⟨w.heap.size, 0, none⟩) 0 0) 0 [] := ⟨rfl, .inr ⟨w.heap.size, 0, #[], rfl, Nat.le_refl _, heap_alloc_new w _, Nat.le_refl _, by decide, rfl, rfl⟩⟩
  have key : ∃ A' c' w', (Builtin.append_ #[30, 30] o.type #[.slice (some ⟨w.heap.size, 0, none⟩) 0 0, .slice A m c]).run Try.prog (w.alloc (.cells #[] 24)) = .ok (.slice A' m c') w' ∧ OwnRecs w' w.heap.size A' m c' L ∧ Below w.heap.size w w' := by
    cases A with
    | none =>
      have hm0 : m = 0 := by
        rcases Nat.eq_zero_or_pos m with h0 | h0
        · exact h0
        · obtain ⟨_, _, e, _⟩ := hr.at_ 0 h0
          cases e
      subst hm0
      have hL : L = [] := List.eq_nil_of_length_eq_zero hr.len
      subst hL
      refine ⟨some ⟨w.heap.size, 0, none⟩, 0, _, ?_, ⟨hlit, rfl, fun r hr => by cases hr⟩, hb1⟩
      simp [Builtin.append_, run_underlying Try.underlying30, sizeOf, typeInfo, hi, Builtin.lenOf, Builtin.firstCells, storeCells]
    | some ad =>
      have hsq := (hr.below hb1).seq
      have hcs : ∀ j u, (recsV L)[j]? = some u → (w.alloc (.cells #[] 24)).cell? (ad.add j) = some u := by
        intro j u hu
        obtain ⟨b, o', e, _, hc⟩ := hsq j u hu
        have e := Option.some.inj e
        subst e
        have e2 : (⟨b, o', none⟩ : Addr).add j = ⟨b, o' + j, none⟩ := by unfold Addr.add; split <;> simp_all
        rw [e2]
        exact hc
      obtain ⟨v', w', hrun, h2, h3, _, h5⟩ := run_append_own_at (P := Try.prog) (w.alloc (.cells #[] 24)) w.heap.size 30 o.type 24 i _ 8 48 Try.underlying30 hi hz hsize hby rfl (by omega) _ 0 [] hlit ad m c (recsV L) (by rw [recsV_length, hr.len]) hcs (one_recs L) (by omega) (by omega) (by simp)
      rw [Nat.zero_add, List.nil_append] at h2
      have hv : ∃ A' c', v' = .slice A' m c' := by
        rcases h2.2 with ⟨rfl, rfl⟩ | ⟨g, cap, cur, rfl, _⟩
        · exact ⟨_, _, rfl⟩
        · exact ⟨_, _, rfl⟩
      obtain ⟨A', c', rfl⟩ := hv
      exact ⟨A', c', w', hrun, ⟨h2, hr.len, hr.is⟩, hb1.grown h3 hb1.size (fun g e => by have e : some w.heap.size = some g := e; injection e with e; omega)⟩
  obtain ⟨A', c', w', hrun, h2, h3⟩ := key
  unfold Oper.wp execOp
  simp only [ho, resolve, invoke, builtin, Sem.run_bind, Sem.run_pure, Result.andThen_ok, List.map_toArray, List.map_cons, List.map_nil, hs, hx, hrun]
  exact hK _ _ (h A' c' w' h2 h3)
theorem OwnRecs.row {w : World} {base : Nat} {A : Option Addr} {n c : Nat} {L : List Rc} (h : OwnRecs w base A n c L) : w.ownsRow base 24 8 (.slice A n c) n (recsV L) := h.1
theorem row_pair {w : World} {base n c j : Nat} {A : Option Addr} {xs : List Value} (h : w.ownsRow base 24 8 (.slice A n c) n xs) (hj : j < n) :
    ∃ g v, A = some ⟨g, 0, none⟩ ∧ base ≤ g ∧ w.cell? ⟨g, j * 8, none⟩ = some v ∧ w.frozen? ⟨g, j * 8, none⟩ = false ∧ (∀ u, (w.setCell ⟨g, j * 8, none⟩ u).ownsRow base 24 8 (.slice A n c) n (xs.set (j * 8) u)) := by
  have hl := h.1
  rcases h.2 with ⟨_, h0⟩ | ⟨g, cap, cur, hv, hb, _⟩
  · omega
  · cases hv
    have hkl : j * 8 < xs.length := by omega
    exact ⟨g, xs[j * 8], rfl, hb, by rw [h.cellAt (j * 8) (by omega), List.getElem?_eq_getElem hkl], h.frozenAt (j * 8), fun u => (h.stored (j * 8) u).1⟩

set_option maxRecDepth 100000 in
set_option maxHeartbeats 6400000 in
theorem rectables_of (dz : RecDoes) (Al : Option Addr) (nl cl : Nat) (l : List Txt) (At : Option Addr) (nt ct : Nat) (t : List Rc) (Ab : Option Addr) (nb cb : Nat) (b : Txt) (p : Int) (w : World) (hl : Texts w Al nl cl l) (ht : Recs w At nt ct t) (hb : Arg w .u8 Ab nb cb b) (hby : ∀ z ∈ b, isByte z) (hp : (Lit.int .i64 p).wf = true) :
    Calls Try.prog 5 #[.slice Al nl cl, .slice At nt ct, .slice Ab nb cb, .int .i64 p] w fun e w' => e = .returned (.bool true) ∧ Below w.heap.size w w' := by
  obtain ⟨ib, hib, hbz, hb1, hb2⟩ := info_parts byte_info
  have GR := Lib.hid (rgreat11_any Al nl cl l w hl)
  unfold GreatOut at GR
  have L := Lib.hid hl
  have T := Lib.hid ht
  have BB := Lib.hid hb
  have BY := Lib.hid hby
  have HP := Lib.hid hp
  clear hl ht hb hby hp
  go_enter Try.func5, Try.ntmps5
  go_wp2_with fail
  refine GR.out.mono ?_
  rintro e w0 ⟨g, rfl, hg, rfl⟩
  clear GR
  cases g with
  | true =>
    clear hg
    go_wp2
    go_ret
    exact ⟨rfl, Below.refl _ _⟩
  | false =>
    obtain ⟨hn, hsh⟩ := hg rfl
    clear hg
    by_cases h1 : 100 < nt
    · have h1i : (100 : Int) < (nt : Int) := by omega
      clear hn hsh h1
      go_wp2
      go_ret
      exact ⟨rfl, Below.refl _ _⟩
    have h1i : ¬ (100 : Int) < (nt : Int) := by omega
    by_cases h2 : 100 < nb
    · have h2i : (100 : Int) < (nb : Int) := by omega
      clear hn hsh h1 h2
      go_wp2
      go_ret
      exact ⟨rfl, Below.refl _ _⟩
    have h2i : ¬ (100 : Int) < (nb : Int) := by omega
    have HN := Lib.hid hn
    have HSH := Lib.hid hsh
    have SM := Lib.hid (small11 L.out.len hn hsh)
    have H1 := Lib.hid (show nt ≤ 100 by omega)
    have H2 := Lib.hid (show nb ≤ 100 by omega)
    have hnt : nt ≤ 100000 := by omega
    have hnb1 : nb ≤ maxLen := by unfold maxLen; omega
    have hnb2 : nb * 1 ≤ 140737488355328 := by omega
    clear hn hsh h1 h2
    have B := Lib.hid (Below.refl w0.heap.size w0)
    go_wp2_with fail
    refine (twin11_all Al nl cl l _ L.out SM.out).mono ?_
    rintro e w1 ⟨Ao, co, rfl, hO, hb⟩
    have L := Lib.hid (L.out.below hb)
    have T := Lib.hid (T.out.below hb)
    have BB := Lib.hid (BB.out.below hb)
    have B := Lib.hid (B.out.trans (hb.mono B.out.size))
    have OT := Lib.hid (hO)
    clear hb hO SM
    go_wp2_with (first
      | (at_builtin; refine wpList_dup_recs w1 rfl (.tmp 44) (.tmp 45) rfl rfl At nt ct t rfl T.out hnt ?_; intro Am cm wm hOm hbm; have OM := Lib.hid hOm; have BM := Lib.hid hbm; clear hOm hbm)
      | (at_builtin; refine wpList_dup_g wm rfl (.tmp 47) (.tmp 48) _ rfl 5 ib _ 1 Try.underlying26 hib hbz hb1 hb2 rfl rfl Ab nb cb (ints .u8 b) rfl (by rw [ints_length, BB.out.len]) (BB.out.below BM.out).seq (ints_one _ _) hnb1 hnb2 ?_; intro An cn wn hOn hbn; have ON := Lib.hid hOn; have BN := Lib.hid hbn; clear hOn hbn)
      | fail)
    have hb := BM.out.trans (BN.out.mono BM.out.size)
    have L := Lib.hid (L.out.below hb)
    have T := Lib.hid (T.out.below hb)
    have BB := Lib.hid (BB.out.below hb)
    have B := Lib.hid (B.out.trans (hb.mono B.out.size))
    have OT := Lib.hid (OT.out.below hb)
    have OM := Lib.hid (OM.out.below BN.out)
    clear hb BM BN hnt hnb1 hnb2 hib hbz hb1 hb2
    have W0 := Lib.hid (show w0.heap.size ≤ wn.heap.size from B.out.size)
    obtain ⟨X, hX⟩ : ∃ X, X = tabR l := ⟨_, rfl⟩
    obtain ⟨Y, hY⟩ : ∃ Y, Y = putR t b := ⟨_, rfl⟩
    obtain ⟨N, hN⟩ : ∃ N, N = rnL t := ⟨_, rfl⟩
    obtain ⟨E3, hE3⟩ : ∃ N, N = rnE t := ⟨_, rfl⟩
    obtain ⟨F, hF⟩ : ∃ N, N = fdR t p := ⟨_, rfl⟩
    obtain ⟨Q, hQ⟩ : ∃ N, N = fdB t p := ⟨_, rfl⟩
    have C1 := Lib.hid (fun (A : Option Addr) (c : Nat) wx (h : Texts wx A nl c l) => dz.table A nl c l wx h (by have := HN.out; omega) HSH.out)
    have C2 := Lib.hid (fun wx (h : Texts wx Al nl cl l) => rtable11_any Al nl cl l wx h)
    have C3 := Lib.hid (fun (A : Option Addr) (c : Nat) (A' : Option Addr) (c' : Nat) wx (h : Recs wx A nt c t) (h' : Arg wx .u8 A' nb c' b) => dz.put A nt c t A' nb c' b wx h H1.out h' BY.out H2.out)
    have C4 := Lib.hid (fun wx (h : Recs wx At nt ct t) (h' : Arg wx .u8 Ab nb cb b) => rput11_any At nt ct t Ab nb cb b wx h (by have := H1.out; omega) h' BY.out)
    have C5 := Lib.hid (fun (A : Option Addr) (c : Nat) wx (h : Recs wx A nt c t) => dz.notes A nt c t wx h H1.out)
    have C6 := Lib.hid (fun wx (h : Recs wx At nt ct t) => rnotes11_any At nt ct t wx h (by have := H1.out; omega))
    have C7 := Lib.hid (fun (A : Option Addr) (c : Nat) wx (h : Recs wx A nt c t) => dz.find A nt c t p wx h H1.out HP.out)
    have C8 := Lib.hid (fun wx (h : Recs wx At nt ct t) => rfind11_any At nt ct t p wx h (by have := H1.out; omega))
    unfold PutOut at C1 C2 C3 C4
    unfold NotesOut at C5 C6
    unfold FindOut at C7 C8
    rw [← hX] at C1 C2
    rw [← hY] at C3 C4
    rw [← hN, ← hE3] at C5 C6
    rw [← hF, ← hQ] at C7 C8
    obtain ⟨LX, hLX⟩ : ∃ N, N = ansL X := ⟨_, rfl⟩
    obtain ⟨E1, hE1⟩ : ∃ N, N = ansE X := ⟨_, rfl⟩
    obtain ⟨LY, hLY⟩ : ∃ N, N = ansL Y := ⟨_, rfl⟩
    obtain ⟨E2, hE2⟩ : ∃ N, N = ansE Y := ⟨_, rfl⟩
    rw [← hLX, ← hE1] at C1 C2
    rw [← hLY, ← hE2] at C3 C4
    obtain ⟨nx, hnx⟩ : ∃ N, N = LX.length := ⟨_, rfl⟩
    obtain ⟨ny, hny⟩ : ∃ N, N = LY.length := ⟨_, rfl⟩
    obtain ⟨nn, hnn⟩ : ∃ k, k = N.length := ⟨_, rfl⟩
    rw [← hnx] at C1 C2
    rw [← hny] at C3 C4
    rw [← hnn] at C5 C6
    have ER := eq_rec F F
    rw [decide_eq_true rfl] at ER
    clear hX hY hN hE3 hF hQ hLX hE1 hLY hE2 hnx hny hnn dz HN HSH H1 H2 HP
    go_wp2_with fail
    refine (C1.out Ao co _ (Texts.of_own OT.out)).mono ?_
    rintro e w2 ⟨Ax, cx, rfl, hO, hb⟩
    have L := Lib.hid (L.out.below hb)
    have T := Lib.hid (T.out.below hb)
    have BB := Lib.hid (BB.out.below hb)
    have B := Lib.hid (B.out.trans (hb.mono B.out.size))
    have OT := Lib.hid (OT.out.below hb)
    have OM := Lib.hid (OM.out.below hb)
    have ON := Lib.hid (owns_below ON.out hb)
    have OX := Lib.hid (hO)
    clear hb hO
    go_wp2_with fail
    refine (C2.out _ L.out).mono ?_
    rintro e w3 ⟨Ay, cy, rfl, hO, hb⟩
    have L := Lib.hid (L.out.below hb)
    have T := Lib.hid (T.out.below hb)
    have BB := Lib.hid (BB.out.below hb)
    have B := Lib.hid (B.out.trans (hb.mono B.out.size))
    have OT := Lib.hid (OT.out.below hb)
    have OM := Lib.hid (OM.out.below hb)
    have ON := Lib.hid (owns_below ON.out hb)
    have OX := Lib.hid (OX.out.below hb)
    have OY := Lib.hid (hO)
    clear hb hO
    have M2 := Lib.hid (OT.out)
    have M3 := Lib.hid OM.out
    have M4 := Lib.hid ON.out
    have M5 := Lib.hid L.out
    have M6 := Lib.hid T.out
    have M7 := Lib.hid BB.out
    have BP := Lib.hid (Below.refl w3.heap.size w3)
    have BZ := Lib.hid B.out
    have WP := Lib.hid (show w0.heap.size ≤ w3.heap.size from B.out.size)
    go_wp2_with fail
    refine (C3.out Am cm An cn _ (Recs.of_own OM.out) (Arg.own ON.out)).mono ?_
    rintro e w4 ⟨Ap, cp, rfl, hO, hb⟩
    have L := Lib.hid (L.out.below hb)
    have T := Lib.hid (T.out.below hb)
    have BB := Lib.hid (BB.out.below hb)
    have B := Lib.hid (B.out.trans (hb.mono B.out.size))
    have OT := Lib.hid (OT.out.below hb)
    have OM := Lib.hid (OM.out.below hb)
    have ON := Lib.hid (owns_below ON.out hb)
    have OX := Lib.hid (OX.out.below hb)
    have OY := Lib.hid (OY.out.below hb)
    have BP := Lib.hid (BP.out.trans (hb.mono BP.out.size))
    have OP := Lib.hid (hO)
    clear hb hO
    go_wp2_with fail
    refine (C4.out _ T.out BB.out).mono ?_
    rintro e w5 ⟨Aq, cq, rfl, hO, hb⟩
    have L := Lib.hid (L.out.below hb)
    have T := Lib.hid (T.out.below hb)
    have BB := Lib.hid (BB.out.below hb)
    have B := Lib.hid (B.out.trans (hb.mono B.out.size))
    have OT := Lib.hid (OT.out.below hb)
    have OM := Lib.hid (OM.out.below hb)
    have ON := Lib.hid (owns_below ON.out hb)
    have OX := Lib.hid (OX.out.below hb)
    have OY := Lib.hid (OY.out.below hb)
    have BP := Lib.hid (BP.out.trans (hb.mono BP.out.size))
    have OP := Lib.hid (OP.out.below hb)
    have OQ := Lib.hid (hO)
    clear hb hO
    go_wp2_with fail
    refine (C5.out Am cm _ (Recs.of_own OM.out)).mono ?_
    rintro e w6 ⟨Ann, cnn, rfl, hO, hb⟩
    have L := Lib.hid (L.out.below hb)
    have T := Lib.hid (T.out.below hb)
    have BB := Lib.hid (BB.out.below hb)
    have B := Lib.hid (B.out.trans (hb.mono B.out.size))
    have OT := Lib.hid (OT.out.below hb)
    have OM := Lib.hid (OM.out.below hb)
    have ON := Lib.hid (owns_below ON.out hb)
    have OX := Lib.hid (OX.out.below hb)
    have OY := Lib.hid (OY.out.below hb)
    have BP := Lib.hid (BP.out.trans (hb.mono BP.out.size))
    have OP := Lib.hid (OP.out.below hb)
    have OQ := Lib.hid (OQ.out.below hb)
    have ONN := Lib.hid (hO)
    clear hb hO
    go_wp2_with fail
    refine (C6.out _ T.out).mono ?_
    rintro e w7 ⟨Amm, cmm, rfl, hO, hb⟩
    have L := Lib.hid (L.out.below hb)
    have T := Lib.hid (T.out.below hb)
    have BB := Lib.hid (BB.out.below hb)
    have B := Lib.hid (B.out.trans (hb.mono B.out.size))
    have OT := Lib.hid (OT.out.below hb)
    have OM := Lib.hid (OM.out.below hb)
    have ON := Lib.hid (owns_below ON.out hb)
    have OX := Lib.hid (OX.out.below hb)
    have OY := Lib.hid (OY.out.below hb)
    have BP := Lib.hid (BP.out.trans (hb.mono BP.out.size))
    have OP := Lib.hid (OP.out.below hb)
    have OQ := Lib.hid (OQ.out.below hb)
    have ONN := Lib.hid (ONN.out.below hb)
    have OMM := Lib.hid (hO)
    clear hb hO
    go_wp2_with fail
    refine (C7.out Am cm _ (Recs.of_own OM.out)).mono ?_
    rintro e w8 ⟨rfl, hb⟩
    have L := Lib.hid (L.out.below hb)
    have T := Lib.hid (T.out.below hb)
    have BB := Lib.hid (BB.out.below hb)
    have B := Lib.hid (B.out.trans (hb.mono B.out.size))
    have OT := Lib.hid (OT.out.below hb)
    have OM := Lib.hid (OM.out.below hb)
    have ON := Lib.hid (owns_below ON.out hb)
    have OX := Lib.hid (OX.out.below hb)
    have OY := Lib.hid (OY.out.below hb)
    have BP := Lib.hid (BP.out.trans (hb.mono BP.out.size))
    have OP := Lib.hid (OP.out.below hb)
    have OQ := Lib.hid (OQ.out.below hb)
    have ONN := Lib.hid (ONN.out.below hb)
    have OMM := Lib.hid (OMM.out.below hb)
    clear hb
    obtain ⟨x, hb⟩ := rec_box w8 F
    obtain ⟨vg1, hvg1⟩ : ∃ v, v = w8.alloc (.cells #[.int .i64 F.p, .int .u32 F.b, .int .u32 F.e, .int .i64 F.l, .int .u8 F.h, .int .i64 F.f, .bool F.q, .bool F.a] 24) := ⟨_, rfl⟩
    rw [← hvg1] at x hb
    have L := Lib.hid (L.out.below hb)
    have T := Lib.hid (T.out.below hb)
    have BB := Lib.hid (BB.out.below hb)
    have B := Lib.hid (B.out.trans (hb.mono B.out.size))
    have OT := Lib.hid (OT.out.below hb)
    have OM := Lib.hid (OM.out.below hb)
    have ON := Lib.hid (owns_below ON.out hb)
    have OX := Lib.hid (OX.out.below hb)
    have OY := Lib.hid (OY.out.below hb)
    have BP := Lib.hid (BP.out.trans (hb.mono BP.out.size))
    have OP := Lib.hid (OP.out.below hb)
    have OQ := Lib.hid (OQ.out.below hb)
    have ONN := Lib.hid (ONN.out.below hb)
    have OMM := Lib.hid (OMM.out.below hb)
    have X1 := Lib.hid x
    obtain ⟨g1, hg1⟩ : ∃ g, g = w8.heap.size := ⟨_, rfl⟩
    rw [← hg1] at X1
    clear x hb
    go_wp2_with fail
    rw [← hvg1, ← hg1]
    clear hvg1 hg1
    refine (C8.out _ T.out).mono ?_
    rintro e w9 ⟨rfl, hb⟩
    have L := Lib.hid (L.out.below hb)
    have T := Lib.hid (T.out.below hb)
    have BB := Lib.hid (BB.out.below hb)
    have B := Lib.hid (B.out.trans (hb.mono B.out.size))
    have OT := Lib.hid (OT.out.below hb)
    have OM := Lib.hid (OM.out.below hb)
    have ON := Lib.hid (owns_below ON.out hb)
    have OX := Lib.hid (OX.out.below hb)
    have OY := Lib.hid (OY.out.below hb)
    have BP := Lib.hid (BP.out.trans (hb.mono BP.out.size))
    have OP := Lib.hid (OP.out.below hb)
    have OQ := Lib.hid (OQ.out.below hb)
    have ONN := Lib.hid (ONN.out.below hb)
    have OMM := Lib.hid (OMM.out.below hb)
    have X1 := Lib.hid (X1.out.below hb X1.out.lt)
    clear hb
    obtain ⟨x, hb⟩ := rec_box w9 F
    obtain ⟨vg2, hvg2⟩ : ∃ v, v = w9.alloc (.cells #[.int .i64 F.p, .int .u32 F.b, .int .u32 F.e, .int .i64 F.l, .int .u8 F.h, .int .i64 F.f, .bool F.q, .bool F.a] 24) := ⟨_, rfl⟩
    rw [← hvg2] at x hb
    have L := Lib.hid (L.out.below hb)
    have T := Lib.hid (T.out.below hb)
    have BB := Lib.hid (BB.out.below hb)
    have B := Lib.hid (B.out.trans (hb.mono B.out.size))
    have OT := Lib.hid (OT.out.below hb)
    have OM := Lib.hid (OM.out.below hb)
    have ON := Lib.hid (owns_below ON.out hb)
    have OX := Lib.hid (OX.out.below hb)
    have OY := Lib.hid (OY.out.below hb)
    have BP := Lib.hid (BP.out.trans (hb.mono BP.out.size))
    have OP := Lib.hid (OP.out.below hb)
    have OQ := Lib.hid (OQ.out.below hb)
    have ONN := Lib.hid (ONN.out.below hb)
    have OMM := Lib.hid (OMM.out.below hb)
    have X1 := Lib.hid (X1.out.below hb X1.out.lt)
    have X2 := Lib.hid x
    obtain ⟨g2, hg2⟩ : ∃ g, g = w9.heap.size := ⟨_, rfl⟩
    rw [← hg2] at X2
    clear x hb
    have q1 : (E1 == E1) = true := beq_self_eq_true _
    have q2 : (E2 == E2) = true := beq_self_eq_true _
    have q3 : (E3 == E3) = true := beq_self_eq_true _
    have q4 : (Q == Q) = true := beq_self_eq_true _
    go_wp2_with fail
    rw [← hvg2, ← hg2]
    clear hvg2 hg2
    refine (same11_yes Ax nx cx LX Ay nx cy _ (Recs.of_own OX.out) (Recs.of_own OY.out)).mono ?_
    rintro e w10 ⟨rfl, hb⟩
    have L := Lib.hid (L.out.below hb)
    have T := Lib.hid (T.out.below hb)
    have BB := Lib.hid (BB.out.below hb)
    have B := Lib.hid (B.out.trans (hb.mono B.out.size))
    have OT := Lib.hid (OT.out.below hb)
    have OM := Lib.hid (OM.out.below hb)
    have ON := Lib.hid (owns_below ON.out hb)
    have OX := Lib.hid (OX.out.below hb)
    have OY := Lib.hid (OY.out.below hb)
    have BP := Lib.hid (BP.out.trans (hb.mono BP.out.size))
    have OP := Lib.hid (OP.out.below hb)
    have OQ := Lib.hid (OQ.out.below hb)
    have ONN := Lib.hid (ONN.out.below hb)
    have OMM := Lib.hid (OMM.out.below hb)
    have X1 := Lib.hid (X1.out.below hb X1.out.lt)
    have X2 := Lib.hid (X2.out.below hb X2.out.lt)
    clear hb
    go_wp2_with fail
    refine (same11_yes Ap ny cp LY Aq ny cq _ (Recs.of_own OP.out) (Recs.of_own OQ.out)).mono ?_
    rintro e w11 ⟨rfl, hb⟩
    have L := Lib.hid (L.out.below hb)
    have T := Lib.hid (T.out.below hb)
    have BB := Lib.hid (BB.out.below hb)
    have B := Lib.hid (B.out.trans (hb.mono B.out.size))
    have OT := Lib.hid (OT.out.below hb)
    have OM := Lib.hid (OM.out.below hb)
    have ON := Lib.hid (owns_below ON.out hb)
    have OX := Lib.hid (OX.out.below hb)
    have OY := Lib.hid (OY.out.below hb)
    have BP := Lib.hid (BP.out.trans (hb.mono BP.out.size))
    have OP := Lib.hid (OP.out.below hb)
    have OQ := Lib.hid (OQ.out.below hb)
    have ONN := Lib.hid (ONN.out.below hb)
    have OMM := Lib.hid (OMM.out.below hb)
    have X1 := Lib.hid (X1.out.below hb X1.out.lt)
    have X2 := Lib.hid (X2.out.below hb X2.out.lt)
    clear hb
    go_wp2_with fail
    refine (sall11_yes Ann nn cnn N Amm nn cmm _ (Texts.of_own ONN.out) (Texts.of_own OMM.out)).mono ?_
    rintro e w12 ⟨rfl, hb⟩
    have L := Lib.hid (L.out.below hb)
    have T := Lib.hid (T.out.below hb)
    have BB := Lib.hid (BB.out.below hb)
    have B := Lib.hid (B.out.trans (hb.mono B.out.size))
    have OT := Lib.hid (OT.out.below hb)
    have OM := Lib.hid (OM.out.below hb)
    have ON := Lib.hid (owns_below ON.out hb)
    have OX := Lib.hid (OX.out.below hb)
    have OY := Lib.hid (OY.out.below hb)
    have BP := Lib.hid (BP.out.trans (hb.mono BP.out.size))
    have OP := Lib.hid (OP.out.below hb)
    have OQ := Lib.hid (OQ.out.below hb)
    have ONN := Lib.hid (ONN.out.below hb)
    have OMM := Lib.hid (OMM.out.below hb)
    have X1 := Lib.hid (X1.out.below hb X1.out.lt)
    have X2 := Lib.hid (X2.out.below hb X2.out.lt)
    clear hb
    obtain ⟨c0, c1, c2, c3, c4, c5, c6, c7⟩ := X1.out.rec
    obtain ⟨d0, d1, d2, d3, d4, d5, d6, d7⟩ := X2.out.rec
    clear OX OY OQ ONN OMM C1 C2 C3 C4 C5 C6 C7 C8
    go_wp2
    clear c0 c1 c2 c3 c4 c5 c6 c7 d0 d1 d2 d3 d4 d5 d6 d7
    have hny : ny ≤ maxLen := Nat.le_trans (Recs.of_own OP.out).cap (Recs.of_own OP.out).max
    unfold maxLen at hny
    go_loopw [29] (fun i wr => ∃ (j : Nat) (xs : List Value), j ≤ ny ∧ i = .int .i64 j ∧ wr.ownsRow w3.heap.size 24 8 (.slice Ap ny cp) ny xs ∧ Below w3.heap.size w3 wr) (fun i _ => ny - (intOf i).toNat)
    case atStart => exact ⟨0, _, Nat.zero_le _, rfl, OP.out.row, BP.out⟩
    case round =>
      clear OT OM ON L T BB B BP OP X1 X2
      obtain ⟨j, xs, hj, rfl, hrow, hbl⟩ := hrel
      have RW := Lib.hid hrow
      have BL := Lib.hid hbl
      clear hrow hbl
      by_cases hjn : j < ny
      · have hji : (j : Int) < (ny : Int) := by omega
        obtain ⟨g, v, rfl, hgb, hc, hf, hset⟩ := row_pair RW.out hjn
        have ST := Lib.hid hset
        clear hset
        go_wp2
        go_roundw
        case rel => exact ⟨j + 1, _, by omega, by go_num, ST.out _, BL.out.setCell (p := ⟨g, j * 8, none⟩) hgb _⟩
        case measure => simp [intOf]; omega
      · obtain rfl : j = ny := by omega
        have OT := Lib.hid (M2.out.below BL.out)
        have OM := Lib.hid (M3.out.below BL.out)
        have ON := Lib.hid (owns_below M4.out BL.out)
        have L := Lib.hid (M5.out.below BL.out)
        have T := Lib.hid (M6.out.below BL.out)
        have BB := Lib.hid (M7.out.below BL.out)
        have B := Lib.hid (BZ.out.trans (BL.out.mono BZ.out.size))
        clear RW BL M2 M3 M4 M5 M6 M7
        obtain ⟨v0, hv0⟩ : ∃ v, v = wr := ⟨_, rfl⟩
        rw [← hv0] at OT OM ON L T BB B ⊢
        clear hv0
        go_wp2_with fail
        refine (sall11_yes Ao nl co l Al nl cl _ (Texts.of_own OT.out) L.out).mono ?_
        rintro e w21 ⟨rfl, hb⟩
        have OT := Lib.hid (OT.out.below hb)
        have OM := Lib.hid (OM.out.below hb)
        have ON := Lib.hid (owns_below ON.out hb)
        have L := Lib.hid (L.out.below hb)
        have T := Lib.hid (T.out.below hb)
        have BB := Lib.hid (BB.out.below hb)
        have B := Lib.hid (B.out.trans (hb.mono B.out.size))
        clear hb
        go_wp2_with fail
        refine (same11_yes Am nt cm t At nt ct _ (Recs.of_own OM.out) T.out).mono ?_
        rintro e w22 ⟨rfl, hb⟩
        have OT := Lib.hid (OT.out.below hb)
        have OM := Lib.hid (OM.out.below hb)
        have ON := Lib.hid (owns_below ON.out hb)
        have L := Lib.hid (L.out.below hb)
        have T := Lib.hid (T.out.below hb)
        have BB := Lib.hid (BB.out.below hb)
        have B := Lib.hid (B.out.trans (hb.mono B.out.size))
        clear hb
        have s1 := str_arg11 (Arg.own ON.out)
        have s2 := str_arg11 BB.out
        have s3 : ((strOfNums b).toList == (strOfNums b).toList) = true := beq_self_eq_true _
        go_wp2
        go_ret
        exact ⟨rfl, B.out⟩
end Go.Proofs.Ythoflogegopikaa
