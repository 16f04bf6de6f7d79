/- Layer 7: the walk of PlaceFinds. -/
import Derived.Test.YtghdcajojbbllaaPlL
namespace Go.Proofs.Ytghdcajojbbllaa
open Go.RowKit
set_option linter.unusedVariables false

set_option maxRecDepth 100000 in
set_option maxHeartbeats 3200000 in
theorem walk_PlaceFinds (P T A M W Q : Int) (a1 a2 : Int) (w : World) (w0a : (Lit.int .i64 P).wf = true) (w0b : (Lit.int .i64 T).wf = true) (w0c : (Lit.int .i64 A).wf = true) (w0d : (Lit.int .i64 M).wf = true) (w0e : (Lit.int .i64 W).wf = true) (w0f : (Lit.int .i64 Q).wf = true) (w1 : (Lit.int .i64 a1).wf = true) (w2 : (Lit.int .i64 a2).wf = true) :
    Calls Try.prog 10 #[cfgV P T A M W Q, .int .i64 a1, .int .i64 a2] w fun e w' => e = .returned (.bool true) ∧ Below w.heap.size w w' := by
  clear w0a w0b w0c w0d w0e w0f
  clear w1 w2
  obtain ⟨x0, hbel⟩ := box_cfg w P T A M W Q
  obtain ⟨c0, c1, c2, c3, c4, c5⟩ := x0.cfg
  have X := Lib.hid x0
  have BEL := Lib.hid hbel
  clear x0 hbel
  have K0 := Lib.hid (fun w' : World => parea_any P T A M W Q a1 a2 w')
  have K1 := Lib.hid (fun w' : World => rarea_any P T A M W Q a1 a2 w')
  have K2 := Lib.hid (fun w' : World => ppage_any P T A M W Q a1 a2 w')
  have K3 := Lib.hid (fun w' : World => rpage_any P T A M W Q a1 a2 w')
  have K4 := Lib.hid (fun w' : World => ptrack_any P T A M W Q a1 a2 w')
  have K5 := Lib.hid (fun w' : World => rtrack_any P T A M W Q a1 a2 w')
  obtain ⟨an, han⟩ : ∃ x, x = areN P T A M W Q a1 a2 := ⟨_, rfl⟩
  obtain ⟨ae, hae⟩ : ∃ x, x = areE P T A M W Q a1 a2 := ⟨_, rfl⟩
  obtain ⟨gn, hgn⟩ : ∃ x, x = pgeN P T A M W Q a1 a2 := ⟨_, rfl⟩
  obtain ⟨ge, hge⟩ : ∃ x, x = pgeE P T A M W Q a1 a2 := ⟨_, rfl⟩
  obtain ⟨tn, htn⟩ : ∃ x, x = traN P T A M W Q a1 a2 := ⟨_, rfl⟩
  obtain ⟨te, hte⟩ : ∃ x, x = traE P T A M W Q a1 a2 := ⟨_, rfl⟩
  rw [← han, ← hae] at K0 K1
  rw [← hgn, ← hge] at K2 K3
  rw [← htn, ← hte] at K4 K5
  clear han hae hgn hge htn hte
  go_enter Try.func10, Try.ntmps10
  go_wp2_with fail
  refine (K0.out _).mono ?_
  rintro e w1 ⟨rfl, hb⟩
  have X := Lib.hid (X.out.below (hb.mono (Nat.le_refl _)) X.out.lt)
  have BEL := Lib.hid (BEL.out.trans (hb.mono BEL.out.size))
  clear hb c0 c1 c2 c3 c4 c5
  obtain ⟨c0, c1, c2, c3, c4, c5⟩ := X.out.cfg
  go_wp2_with fail
  refine (K1.out _).mono ?_
  rintro e w2 ⟨rfl, hb⟩
  have X := Lib.hid (X.out.below (hb.mono (Nat.le_refl _)) X.out.lt)
  have BEL := Lib.hid (BEL.out.trans (hb.mono BEL.out.size))
  clear hb c0 c1 c2 c3 c4 c5
  obtain ⟨c0, c1, c2, c3, c4, c5⟩ := X.out.cfg
  go_wp2_with fail
  refine (K2.out _).mono ?_
  rintro e w3 ⟨rfl, hb⟩
  have X := Lib.hid (X.out.below (hb.mono (Nat.le_refl _)) X.out.lt)
  have BEL := Lib.hid (BEL.out.trans (hb.mono BEL.out.size))
  clear hb c0 c1 c2 c3 c4 c5
  obtain ⟨c0, c1, c2, c3, c4, c5⟩ := X.out.cfg
  go_wp2_with fail
  refine (K3.out _).mono ?_
  rintro e w4 ⟨rfl, hb⟩
  have X := Lib.hid (X.out.below (hb.mono (Nat.le_refl _)) X.out.lt)
  have BEL := Lib.hid (BEL.out.trans (hb.mono BEL.out.size))
  clear hb c0 c1 c2 c3 c4 c5
  obtain ⟨c0, c1, c2, c3, c4, c5⟩ := X.out.cfg
  go_wp2_with fail
  refine (K4.out _).mono ?_
  rintro e w5 ⟨rfl, hb⟩
  have X := Lib.hid (X.out.below (hb.mono (Nat.le_refl _)) X.out.lt)
  have BEL := Lib.hid (BEL.out.trans (hb.mono BEL.out.size))
  clear hb c0 c1 c2 c3 c4 c5
  obtain ⟨c0, c1, c2, c3, c4, c5⟩ := X.out.cfg
  go_wp2_with fail
  refine (K5.out _).mono ?_
  rintro e w6 ⟨rfl, hb⟩
  have X := Lib.hid (X.out.below (hb.mono (Nat.le_refl _)) X.out.lt)
  have BEL := Lib.hid (BEL.out.trans (hb.mono BEL.out.size))
  clear hb c0 c1 c2 c3 c4 c5
  obtain ⟨c0, c1, c2, c3, c4, c5⟩ := X.out.cfg
  go_wp2
  go_ret
  exact ⟨by simp, BEL.out⟩

end Go.Proofs.Ytghdcajojbbllaa
