/- Layer 7: the walk of PlaceTells. -/
import Derived.Test.YtghdcajojbbllaaPlL
namespace Go.Proofs.Ytghdcajojbbllaa
open Go.RowKit
set_option linter.unusedVariables false

set_option maxRecDepth 100000 in
set_option maxHeartbeats 3200000 in
theorem walk_PlaceTells (P T A M W Q : Int) (a1 : Int) (w : World) (w0a : (Lit.int .i64 P).wf = true) (w0b : (Lit.int .i64 T).wf = true) (w0c : (Lit.int .i64 A).wf = true) (w0d : (Lit.int .i64 M).wf = true) (w0e : (Lit.int .i64 W).wf = true) (w0f : (Lit.int .i64 Q).wf = true) (w1 : (Lit.int .i64 a1).wf = true) :
    Calls Try.prog 9 #[cfgV P T A M W Q, .int .i64 a1] w fun e w' => e = .returned (.bool true) ∧ Below w.heap.size w w' := by
  clear w0a w0b w0c w0d w0e w0f
  clear w1
  obtain ⟨x0, hbel⟩ := box_cfg w P T A M W Q
  obtain ⟨c0, c1, c2, c3, c4, c5⟩ := x0.cfg
  have X := Lib.hid x0
  have BEL := Lib.hid hbel
  clear x0 hbel
  have K0 := Lib.hid (fun w' : World => psectors_any P T A M W Q w')
  have K1 := Lib.hid (fun w' : World => rsectors_any P T A M W Q w')
  have K2 := Lib.hid (fun w' : World => ppagesN_any P T A M W Q w')
  have K3 := Lib.hid (fun w' : World => rpages_any P T A M W Q w')
  have K4 := Lib.hid (fun w' : World => pwhat_any P T A M W Q a1 w')
  have K5 := Lib.hid (fun w' : World => rwhat_any P T A M W Q a1 w')
  have K6 := Lib.hid (fun w' : World => pcheck_any P T A M W Q w')
  have K7 := Lib.hid (fun w' : World => rcheck_any P T A M W Q w')
  obtain ⟨sn, hsn⟩ : ∃ x, x = secN P T A M W Q := ⟨_, rfl⟩
  obtain ⟨ck, hck⟩ : ∃ x, x = chkC P T A M W Q := ⟨_, rfl⟩
  obtain ⟨pn, hpn⟩ : ∃ x, x = pagN P T A M W Q := ⟨_, rfl⟩
  obtain ⟨wk, hwk⟩ : ∃ x, x = whaK P T A M W Q a1 := ⟨_, rfl⟩
  obtain ⟨wa, hwa⟩ : ∃ x, x = whaA P T A M W Q a1 := ⟨_, rfl⟩
  obtain ⟨wn, hwn⟩ : ∃ x, x = whaN P T A M W Q a1 := ⟨_, rfl⟩
  obtain ⟨we, hwe⟩ : ∃ x, x = whaE P T A M W Q a1 := ⟨_, rfl⟩
  rw [← hsn, ← hck] at K0 K1
  rw [← hpn, ← hck] at K2 K3
  rw [← hwk, ← hwa, ← hwn, ← hwe] at K4 K5
  rw [← hck] at K6 K7
  clear hsn hck hpn hwk hwa hwn hwe
  go_enter Try.func9, Try.ntmps9
  go_wp2_with fail
  refine (K0.out _).mono ?_
  rintro e w1 ⟨rfl, hb⟩
  have X := Lib.hid (X.out.below (hb.mono (Nat.le_refl _)) X.out.lt)
  have BEL := Lib.hid (BEL.out.trans (hb.mono BEL.out.size))
  clear hb c0 c1 c2 c3 c4 c5
  obtain ⟨c0, c1, c2, c3, c4, c5⟩ := X.out.cfg
  go_wp2_with fail
  refine (K1.out _).mono ?_
  rintro e w2 ⟨rfl, hb⟩
  have X := Lib.hid (X.out.below (hb.mono (Nat.le_refl _)) X.out.lt)
  have BEL := Lib.hid (BEL.out.trans (hb.mono BEL.out.size))
  clear hb c0 c1 c2 c3 c4 c5
  obtain ⟨c0, c1, c2, c3, c4, c5⟩ := X.out.cfg
  go_wp2_with fail
  refine (K2.out _).mono ?_
  rintro e w3 ⟨rfl, hb⟩
  have X := Lib.hid (X.out.below (hb.mono (Nat.le_refl _)) X.out.lt)
  have BEL := Lib.hid (BEL.out.trans (hb.mono BEL.out.size))
  clear hb c0 c1 c2 c3 c4 c5
  obtain ⟨c0, c1, c2, c3, c4, c5⟩ := X.out.cfg
  go_wp2_with fail
  refine (K3.out _).mono ?_
  rintro e w4 ⟨rfl, hb⟩
  have X := Lib.hid (X.out.below (hb.mono (Nat.le_refl _)) X.out.lt)
  have BEL := Lib.hid (BEL.out.trans (hb.mono BEL.out.size))
  clear hb c0 c1 c2 c3 c4 c5
  obtain ⟨c0, c1, c2, c3, c4, c5⟩ := X.out.cfg
  go_wp2_with fail
  refine (K4.out _).mono ?_
  rintro e w5 ⟨rfl, hb⟩
  have X := Lib.hid (X.out.below (hb.mono (Nat.le_refl _)) X.out.lt)
  have BEL := Lib.hid (BEL.out.trans (hb.mono BEL.out.size))
  clear hb c0 c1 c2 c3 c4 c5
  obtain ⟨c0, c1, c2, c3, c4, c5⟩ := X.out.cfg
  go_wp2_with fail
  refine (K5.out _).mono ?_
  rintro e w6 ⟨rfl, hb⟩
  have X := Lib.hid (X.out.below (hb.mono (Nat.le_refl _)) X.out.lt)
  have BEL := Lib.hid (BEL.out.trans (hb.mono BEL.out.size))
  clear hb c0 c1 c2 c3 c4 c5
  obtain ⟨c0, c1, c2, c3, c4, c5⟩ := X.out.cfg
  go_upto_region 7 with fail
  have hcur : Below w6.heap.size w6 w6.drew := below_drewN (Below.refl _ _) 1
  have keepX : ∀ wx, Below w6.heap.size w6 wx → wx.cell? ⟨w.heap.size, 0, none⟩ = some (.int .i64 P) ∧ wx.cell? ⟨w.heap.size, 1, none⟩ = some (.int .i64 T) ∧ wx.cell? ⟨w.heap.size, 2, none⟩ = some (.int .i64 A) ∧ wx.cell? ⟨w.heap.size, 3, none⟩ = some (.int .i64 M) ∧ wx.cell? ⟨w.heap.size, 4, none⟩ = some (.int .i64 W) ∧ wx.cell? ⟨w.heap.size, 5, none⟩ = some (.int .i64 Q) := fun wx hx => (X.out.below hx X.out.lt).cfg
  have hkX := keepX _ hcur
  go_region_held3 (fun w' => w'.cell? ⟨w.heap.size, 0, none⟩ = some (.int .i64 P) ∧ w'.cell? ⟨w.heap.size, 1, none⟩ = some (.int .i64 T) ∧ w'.cell? ⟨w.heap.size, 2, none⟩ = some (.int .i64 A) ∧ w'.cell? ⟨w.heap.size, 3, none⟩ = some (.int .i64 M) ∧ w'.cell? ⟨w.heap.size, 4, none⟩ = some (.int .i64 W) ∧ w'.cell? ⟨w.heap.size, 5, none⟩ = some (.int .i64 Q))
    (first | exact hkX | go_keep)
    (first | (go_at_call 38; with_reducible refine (K6.out _).mono ?_; rintro e wM ⟨rfl, hbM⟩; have hcur := hcur.trans (hbM.mono hcur.size); have hkX := keepX _ hcur) | (go_at_call 43; with_reducible refine (K7.out _).mono ?_; rintro e wM ⟨rfl, hbM⟩; have hcur := hcur.trans (hbM.mono hcur.size); have hkX := keepX _ hcur))
  all_goals (have hfin := Lib.hid (BEL.out.trans (hcur.mono BEL.out.size)); clear keepX hkX; go_wp2; go_ret; exact ⟨rfl, hfin.out⟩)

end Go.Proofs.Ytghdcajojbbllaa
