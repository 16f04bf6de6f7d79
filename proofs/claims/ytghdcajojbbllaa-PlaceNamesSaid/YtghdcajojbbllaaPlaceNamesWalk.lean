/- Layer 7: the walk of PlaceNames. -/
import Derived.Test.YtghdcajojbbllaaPlL
import Derived.Deep.Cut
namespace Go.Proofs.Ytghdcajojbbllaa
open Go.RowKit
set_option linter.unusedVariables false

/-- Four configs' boxes, one behind the other. -/
theorem four_cfg (w : World) : Blk ((((w.alloc (.cells #[.int .i64 2, .int .i64 9, .int .i64 4, .int .i64 2, .int .i64 2, .int .i64 8] 60)).alloc (.cells #[.int .i64 2, .int .i64 9, .int .i64 4, .int .i64 2, .int .i64 2, .int .i64 8] 60)).alloc (.cells #[.int .i64 2, .int .i64 9, .int .i64 4, .int .i64 2, .int .i64 2, .int .i64 8] 60)).alloc (.cells #[.int .i64 2, .int .i64 9, .int .i64 4, .int .i64 2, .int .i64 2, .int .i64 8] 60)) w.heap.size 60 [.int .i64 2, .int .i64 9, .int .i64 4, .int .i64 2, .int .i64 2, .int .i64 8] ∧ Blk ((((w.alloc (.cells #[.int .i64 2, .int .i64 9, .int .i64 4, .int .i64 2, .int .i64 2, .int .i64 8] 60)).alloc (.cells #[.int .i64 2, .int .i64 9, .int .i64 4, .int .i64 2, .int .i64 2, .int .i64 8] 60)).alloc (.cells #[.int .i64 2, .int .i64 9, .int .i64 4, .int .i64 2, .int .i64 2, .int .i64 8] 60)).alloc (.cells #[.int .i64 2, .int .i64 9, .int .i64 4, .int .i64 2, .int .i64 2, .int .i64 8] 60)) (w.heap.size + 1) 60 [.int .i64 2, .int .i64 9, .int .i64 4, .int .i64 2, .int .i64 2, .int .i64 8] ∧ Blk ((((w.alloc (.cells #[.int .i64 2, .int .i64 9, .int .i64 4, .int .i64 2, .int .i64 2, .int .i64 8] 60)).alloc (.cells #[.int .i64 2, .int .i64 9, .int .i64 4, .int .i64 2, .int .i64 2, .int .i64 8] 60)).alloc (.cells #[.int .i64 2, .int .i64 9, .int .i64 4, .int .i64 2, .int .i64 2, .int .i64 8] 60)).alloc (.cells #[.int .i64 2, .int .i64 9, .int .i64 4, .int .i64 2, .int .i64 2, .int .i64 8] 60)) (w.heap.size + 1 + 1) 60 [.int .i64 2, .int .i64 9, .int .i64 4, .int .i64 2, .int .i64 2, .int .i64 8] ∧ Blk ((((w.alloc (.cells #[.int .i64 2, .int .i64 9, .int .i64 4, .int .i64 2, .int .i64 2, .int .i64 8] 60)).alloc (.cells #[.int .i64 2, .int .i64 9, .int .i64 4, .int .i64 2, .int .i64 2, .int .i64 8] 60)).alloc (.cells #[.int .i64 2, .int .i64 9, .int .i64 4, .int .i64 2, .int .i64 2, .int .i64 8] 60)).alloc (.cells #[.int .i64 2, .int .i64 9, .int .i64 4, .int .i64 2, .int .i64 2, .int .i64 8] 60)) (w.heap.size + 1 + 1 + 1) 60 [.int .i64 2, .int .i64 9, .int .i64 4, .int .i64 2, .int .i64 2, .int .i64 8] ∧ Below w.heap.size w ((((w.alloc (.cells #[.int .i64 2, .int .i64 9, .int .i64 4, .int .i64 2, .int .i64 2, .int .i64 8] 60)).alloc (.cells #[.int .i64 2, .int .i64 9, .int .i64 4, .int .i64 2, .int .i64 2, .int .i64 8] 60)).alloc (.cells #[.int .i64 2, .int .i64 9, .int .i64 4, .int .i64 2, .int .i64 2, .int .i64 8] 60)).alloc (.cells #[.int .i64 2, .int .i64 9, .int .i64 4, .int .i64 2, .int .i64 2, .int .i64 8] 60)) := by
  have y1 := Blk.new w 60 [.int .i64 2, .int .i64 9, .int .i64 4, .int .i64 2, .int .i64 2, .int .i64 8]
  have y2 := Blk.new (w.alloc (.cells #[.int .i64 2, .int .i64 9, .int .i64 4, .int .i64 2, .int .i64 2, .int .i64 8] 60)) 60 [.int .i64 2, .int .i64 9, .int .i64 4, .int .i64 2, .int .i64 2, .int .i64 8]
  have y3 := Blk.new ((w.alloc (.cells #[.int .i64 2, .int .i64 9, .int .i64 4, .int .i64 2, .int .i64 2, .int .i64 8] 60)).alloc (.cells #[.int .i64 2, .int .i64 9, .int .i64 4, .int .i64 2, .int .i64 2, .int .i64 8] 60)) 60 [.int .i64 2, .int .i64 9, .int .i64 4, .int .i64 2, .int .i64 2, .int .i64 8]
  have y4 := Blk.new (((w.alloc (.cells #[.int .i64 2, .int .i64 9, .int .i64 4, .int .i64 2, .int .i64 2, .int .i64 8] 60)).alloc (.cells #[.int .i64 2, .int .i64 9, .int .i64 4, .int .i64 2, .int .i64 2, .int .i64 8] 60)).alloc (.cells #[.int .i64 2, .int .i64 9, .int .i64 4, .int .i64 2, .int .i64 2, .int .i64 8] 60)) 60 [.int .i64 2, .int .i64 9, .int .i64 4, .int .i64 2, .int .i64 2, .int .i64 8]
  simp only [World.size_alloc] at y2 y3 y4
  refine ⟨((y1.grown (World.grownBy_alloc _ _ none) (by simp)).grown (World.grownBy_alloc _ _ none) (by simp)).grown (World.grownBy_alloc _ _ none) (by simp), (y2.grown (World.grownBy_alloc _ _ none) (by simp)).grown (World.grownBy_alloc _ _ none) (by simp), y3.grown (World.grownBy_alloc _ _ none) (by simp), y4, ((((Below.refl _ _).alloc (Nat.le_refl _) _).alloc (by simp) _).alloc (by simp; omega) _).alloc (by simp; omega) _⟩

set_option maxRecDepth 100000 in
set_option maxHeartbeats 12800000 in
theorem walk_PlaceNames (w : World) : Calls Try.prog 8 #[] w fun e w' => e = .returned (.bool true) ∧ Below w.heap.size w w' := by
  have BEL := Lib.hid (Below.refl w.heap.size w)
  have AL := Lib.hid alive_place
  have K1 := Lib.hid (fun w' : World => ppagesN_any 2 9 4 2 2 8 w')
  rw [show pagN 2 9 4 2 2 8 = 2 by decide +kernel, show chkC 2 9 4 2 2 8 = 0 by decide +kernel] at K1
  have K2 := Lib.hid (fun w' : World => parea_any 2 9 4 2 2 8 2 0 w')
  rw [show areN 2 9 4 2 2 8 2 0 = 0 by decide +kernel, show areE 2 9 4 2 2 8 2 0 = 2 by decide +kernel] at K2
  have K3 := Lib.hid (fun w' : World => ppage_any 2 9 4 2 2 8 0 2 w')
  rw [show pgeN 2 9 4 2 2 8 0 2 = 0 by decide +kernel, show pgeE 2 9 4 2 2 8 0 2 = 2 by decide +kernel] at K3
  have K4 := Lib.hid (fun w' : World => ptrack_any 2 9 4 2 2 8 0 9 w')
  rw [show traN 2 9 4 2 2 8 0 9 = 0 by decide +kernel, show traE 2 9 4 2 2 8 0 9 = 2 by decide +kernel] at K4
  have K5 := Lib.hid (fun w' : World => pwhat_any 2 9 4 2 2 8 86 w')
  rw [show whaK 2 9 4 2 2 8 86 = 0 by decide +kernel, show whaA 2 9 4 2 2 8 86 = 0 by decide +kernel, show whaN 2 9 4 2 2 8 86 = 0 by decide +kernel, show whaE 2 9 4 2 2 8 86 = 2 by decide +kernel] at K5
  have K6 := Lib.hid (fun w' : World => pwhat_any 2 9 4 2 2 8 (-1) w')
  rw [show whaK 2 9 4 2 2 8 (-1) = 0 by decide +kernel, show whaA 2 9 4 2 2 8 (-1) = 0 by decide +kernel, show whaN 2 9 4 2 2 8 (-1) = 0 by decide +kernel, show whaE 2 9 4 2 2 8 (-1) = 2 by decide +kernel] at K6
  have K7 := Lib.hid (fun w' : World => pwhat_any 2 9 4 2 2 8 1 w')
  rw [show whaK 2 9 4 2 2 8 1 = 1 by decide +kernel, show whaA 2 9 4 2 2 8 1 = 0 by decide +kernel, show whaN 2 9 4 2 2 8 1 = 0 by decide +kernel, show whaE 2 9 4 2 2 8 1 = 0 by decide +kernel] at K7
  have K8 := Lib.hid (fun w' : World => pcheck_any 2 9 3 2 2 8 w')
  rw [show chkC 2 9 3 2 2 8 = 8 by decide +kernel] at K8
  have K9 := Lib.hid (fun w' : World => pcheck_any 2 9 4 3 2 8 w')
  rw [show chkC 2 9 4 3 2 8 = 8 by decide +kernel] at K9
  have K10 := Lib.hid (fun w' : World => pcheck_any 2 9 4 2 2 3 w')
  rw [show chkC 2 9 4 2 2 3 = 8 by decide +kernel] at K10
  have K11 := Lib.hid (fun w' : World => pcheck_any 4 9 4 2 2 8 w')
  rw [show chkC 4 9 4 2 2 8 = 8 by decide +kernel] at K11
  have K12 := Lib.hid (fun w' : World => pcheck_any 2 9 4 2 2 8 w')
  rw [show chkC 2 9 4 2 2 8 = 0 by decide +kernel] at K12
  go_enter Try.func8, Try.ntmps8
  go_wp2_with fail
  refine (two_any _).mono ?_
  rintro e w1 ⟨rfl, hb⟩
  have BEL := Lib.hid (BEL.out.trans (hb.mono BEL.out.size))
  clear hb
  go_wp2_with fail
  refine (two_any _).mono ?_
  rintro e w2 ⟨rfl, hb⟩
  have BEL := Lib.hid (BEL.out.trans (hb.mono BEL.out.size))
  clear hb
  go_wp2_with fail
  refine (two_any _).mono ?_
  rintro e w3 ⟨rfl, hb⟩
  have BEL := Lib.hid (BEL.out.trans (hb.mono BEL.out.size))
  clear hb
  go_wp2_with fail
  refine (two_any _).mono ?_
  rintro e w4 ⟨rfl, hb⟩
  have BEL := Lib.hid (BEL.out.trans (hb.mono BEL.out.size))
  clear hb
  obtain ⟨y1, y2, y3, y4, hb⟩ := four_cfg w4
  go_upto_region 2 with fail
  obtain ⟨v, hv⟩ : ∃ v, v = (((w4.alloc (.cells #[.int .i64 2, .int .i64 9, .int .i64 4, .int .i64 2, .int .i64 2, .int .i64 8] 60)).alloc (.cells #[.int .i64 2, .int .i64 9, .int .i64 4, .int .i64 2, .int .i64 2, .int .i64 8] 60)).alloc (.cells #[.int .i64 2, .int .i64 9, .int .i64 4, .int .i64 2, .int .i64 2, .int .i64 8] 60)).alloc (.cells #[.int .i64 2, .int .i64 9, .int .i64 4, .int .i64 2, .int .i64 2, .int .i64 8] 60) := ⟨_, rfl⟩
  rw [← hv] at y1 y2 y3 y4 hb ⊢
  have B1 := Lib.hid (BEL.out.trans (hb.mono BEL.out.size))
  have HS := Lib.hid BEL.out.size
  obtain ⟨b, hbb⟩ : ∃ b, b = w4.heap.size := ⟨_, rfl⟩
  rw [← hbb] at y1 y2 y3 y4 HS ⊢
  clear hv hb hbb BEL
  have e1 : v.cell? ⟨b, 2, none⟩ = some (.int .i64 4) := y1.cell 2
  have e2 : v.cell? ⟨b + 1, 3, none⟩ = some (.int .i64 2) := y2.cell 3
  have e3 : v.cell? ⟨b + 1 + 1, 5, none⟩ = some (.int .i64 8) := y3.cell 5
  have e4 : v.cell? ⟨b + 1 + 1 + 1, 0, none⟩ = some (.int .i64 2) := y4.cell 0
  have f1 := y1.free 2
  have f2 := y2.free 3
  have f3 := y3.free 5
  have f4 := y4.free 0
  have Y1 : Blk ((((v.setCell ⟨b, 2, none⟩ (.int .i64 3)).setCell ⟨b + 1, 3, none⟩ (.int .i64 3)).setCell ⟨b + 1 + 1, 5, none⟩ (.int .i64 3)).setCell ⟨b + 1 + 1 + 1, 0, none⟩ (.int .i64 4)) b 60 [.int .i64 2, .int .i64 9, .int .i64 3, .int .i64 2, .int .i64 2, .int .i64 8] := (((y1.set 2 (.int .i64 3)).grown (grownBy_set _ _ 3 (.int .i64 3)) (by intro e; injection e with e; omega)).grown (grownBy_set _ _ 5 (.int .i64 3)) (by intro e; injection e with e; omega)).grown (grownBy_set _ _ 0 (.int .i64 4)) (by intro e; injection e with e; omega)
  have Y2 : Blk ((((v.setCell ⟨b, 2, none⟩ (.int .i64 3)).setCell ⟨b + 1, 3, none⟩ (.int .i64 3)).setCell ⟨b + 1 + 1, 5, none⟩ (.int .i64 3)).setCell ⟨b + 1 + 1 + 1, 0, none⟩ (.int .i64 4)) (b + 1) 60 [.int .i64 2, .int .i64 9, .int .i64 4, .int .i64 3, .int .i64 2, .int .i64 8] := (((y2.grown (grownBy_set _ _ 2 (.int .i64 3)) (by intro e; injection e with e; omega)).set 3 (.int .i64 3)).grown (grownBy_set _ _ 5 (.int .i64 3)) (by intro e; injection e with e; omega)).grown (grownBy_set _ _ 0 (.int .i64 4)) (by intro e; injection e with e; omega)
  have Y3 : Blk ((((v.setCell ⟨b, 2, none⟩ (.int .i64 3)).setCell ⟨b + 1, 3, none⟩ (.int .i64 3)).setCell ⟨b + 1 + 1, 5, none⟩ (.int .i64 3)).setCell ⟨b + 1 + 1 + 1, 0, none⟩ (.int .i64 4)) (b + 1 + 1) 60 [.int .i64 2, .int .i64 9, .int .i64 4, .int .i64 2, .int .i64 2, .int .i64 3] := (((y3.grown (grownBy_set _ _ 2 (.int .i64 3)) (by intro e; injection e with e; omega)).grown (grownBy_set _ _ 3 (.int .i64 3)) (by intro e; injection e with e; omega)).set 5 (.int .i64 3)).grown (grownBy_set _ _ 0 (.int .i64 4)) (by intro e; injection e with e; omega)
  have Y4 : Blk ((((v.setCell ⟨b, 2, none⟩ (.int .i64 3)).setCell ⟨b + 1, 3, none⟩ (.int .i64 3)).setCell ⟨b + 1 + 1, 5, none⟩ (.int .i64 3)).setCell ⟨b + 1 + 1 + 1, 0, none⟩ (.int .i64 4)) (b + 1 + 1 + 1) 60 [.int .i64 4, .int .i64 9, .int .i64 4, .int .i64 2, .int .i64 2, .int .i64 8] := (((y4.grown (grownBy_set _ _ 2 (.int .i64 3)) (by intro e; injection e with e; omega)).grown (grownBy_set _ _ 3 (.int .i64 3)) (by intro e; injection e with e; omega)).grown (grownBy_set _ _ 5 (.int .i64 3)) (by intro e; injection e with e; omega)).set 0 (.int .i64 4)
  have hs := HS.out
  have BEL := (((B1.out.setCell (p := ⟨b, 2, none⟩) hs (.int .i64 3)).setCell (p := ⟨b + 1, 3, none⟩) (show w.heap.size ≤ b + 1 by omega) (.int .i64 3)).setCell (p := ⟨b + 1 + 1, 5, none⟩) (show w.heap.size ≤ b + 1 + 1 by omega) (.int .i64 3)).setCell (p := ⟨b + 1 + 1 + 1, 0, none⟩) (show w.heap.size ≤ b + 1 + 1 + 1 by omega) (.int .i64 4)
  clear y1 y2 y3 y4 hs
  go_upto_region 3 with fail
  obtain ⟨v2, hv2⟩ : ∃ x, x = (((v.setCell ⟨b, 2, none⟩ (.int .i64 3)).setCell ⟨b + 1, 3, none⟩ (.int .i64 3)).setCell ⟨b + 1 + 1, 5, none⟩ (.int .i64 3)).setCell ⟨b + 1 + 1 + 1, 0, none⟩ (.int .i64 4) := ⟨_, rfl⟩
  rw [← hv2] at Y1 Y2 Y3 Y4 BEL ⊢
  clear hv2 e1 e2 e3 e4 f1 f2 f3 f4
  have Y1 := Lib.hid Y1
  have Y2 := Lib.hid Y2
  have Y3 := Lib.hid Y3
  have Y4 := Lib.hid Y4
  have BEL := Lib.hid BEL
  go_wp2_with fail
  refine (two_any _).mono ?_
  rintro e u1 ⟨rfl, hb⟩
  have Y1 := Lib.hid (Y1.out.below hb Y1.out.lt)
  have Y2 := Lib.hid (Y2.out.below hb Y2.out.lt)
  have Y3 := Lib.hid (Y3.out.below hb Y3.out.lt)
  have Y4 := Lib.hid (Y4.out.below hb Y4.out.lt)
  have BEL := Lib.hid (BEL.out.trans (hb.mono BEL.out.size))
  clear hb
  go_wp2_with fail
  refine (K1.out _).mono ?_
  rintro e u2 ⟨rfl, hb⟩
  have Y1 := Lib.hid (Y1.out.below hb Y1.out.lt)
  have Y2 := Lib.hid (Y2.out.below hb Y2.out.lt)
  have Y3 := Lib.hid (Y3.out.below hb Y3.out.lt)
  have Y4 := Lib.hid (Y4.out.below hb Y4.out.lt)
  have BEL := Lib.hid (BEL.out.trans (hb.mono BEL.out.size))
  clear hb
  go_wp2_with fail
  refine (two_any _).mono ?_
  rintro e u3 ⟨rfl, hb⟩
  have Y1 := Lib.hid (Y1.out.below hb Y1.out.lt)
  have Y2 := Lib.hid (Y2.out.below hb Y2.out.lt)
  have Y3 := Lib.hid (Y3.out.below hb Y3.out.lt)
  have Y4 := Lib.hid (Y4.out.below hb Y4.out.lt)
  have BEL := Lib.hid (BEL.out.trans (hb.mono BEL.out.size))
  clear hb
  go_wp2_with fail
  refine (K2.out _).mono ?_
  rintro e u4 ⟨rfl, hb⟩
  have Y1 := Lib.hid (Y1.out.below hb Y1.out.lt)
  have Y2 := Lib.hid (Y2.out.below hb Y2.out.lt)
  have Y3 := Lib.hid (Y3.out.below hb Y3.out.lt)
  have Y4 := Lib.hid (Y4.out.below hb Y4.out.lt)
  have BEL := Lib.hid (BEL.out.trans (hb.mono BEL.out.size))
  clear hb
  go_wp2_with fail
  refine (two_any _).mono ?_
  rintro e u5 ⟨rfl, hb⟩
  have Y1 := Lib.hid (Y1.out.below hb Y1.out.lt)
  have Y2 := Lib.hid (Y2.out.below hb Y2.out.lt)
  have Y3 := Lib.hid (Y3.out.below hb Y3.out.lt)
  have Y4 := Lib.hid (Y4.out.below hb Y4.out.lt)
  have BEL := Lib.hid (BEL.out.trans (hb.mono BEL.out.size))
  clear hb
  go_wp2_with fail
  refine (K3.out _).mono ?_
  rintro e u6 ⟨rfl, hb⟩
  have Y1 := Lib.hid (Y1.out.below hb Y1.out.lt)
  have Y2 := Lib.hid (Y2.out.below hb Y2.out.lt)
  have Y3 := Lib.hid (Y3.out.below hb Y3.out.lt)
  have Y4 := Lib.hid (Y4.out.below hb Y4.out.lt)
  have BEL := Lib.hid (BEL.out.trans (hb.mono BEL.out.size))
  clear hb
  go_wp2_with fail
  refine (two_any _).mono ?_
  rintro e u7 ⟨rfl, hb⟩
  have Y1 := Lib.hid (Y1.out.below hb Y1.out.lt)
  have Y2 := Lib.hid (Y2.out.below hb Y2.out.lt)
  have Y3 := Lib.hid (Y3.out.below hb Y3.out.lt)
  have Y4 := Lib.hid (Y4.out.below hb Y4.out.lt)
  have BEL := Lib.hid (BEL.out.trans (hb.mono BEL.out.size))
  clear hb
  go_wp2_with fail
  refine (K4.out _).mono ?_
  rintro e u8 ⟨rfl, hb⟩
  have Y1 := Lib.hid (Y1.out.below hb Y1.out.lt)
  have Y2 := Lib.hid (Y2.out.below hb Y2.out.lt)
  have Y3 := Lib.hid (Y3.out.below hb Y3.out.lt)
  have Y4 := Lib.hid (Y4.out.below hb Y4.out.lt)
  have BEL := Lib.hid (BEL.out.trans (hb.mono BEL.out.size))
  clear hb
  go_wp2_with fail
  refine (two_any _).mono ?_
  rintro e u9 ⟨rfl, hb⟩
  have Y1 := Lib.hid (Y1.out.below hb Y1.out.lt)
  have Y2 := Lib.hid (Y2.out.below hb Y2.out.lt)
  have Y3 := Lib.hid (Y3.out.below hb Y3.out.lt)
  have Y4 := Lib.hid (Y4.out.below hb Y4.out.lt)
  have BEL := Lib.hid (BEL.out.trans (hb.mono BEL.out.size))
  clear hb
  go_wp2_with fail
  refine (K5.out _).mono ?_
  rintro e u10 ⟨rfl, hb⟩
  have Y1 := Lib.hid (Y1.out.below hb Y1.out.lt)
  have Y2 := Lib.hid (Y2.out.below hb Y2.out.lt)
  have Y3 := Lib.hid (Y3.out.below hb Y3.out.lt)
  have Y4 := Lib.hid (Y4.out.below hb Y4.out.lt)
  have BEL := Lib.hid (BEL.out.trans (hb.mono BEL.out.size))
  clear hb
  go_wp2_with fail
  refine (two_any _).mono ?_
  rintro e u11 ⟨rfl, hb⟩
  have Y1 := Lib.hid (Y1.out.below hb Y1.out.lt)
  have Y2 := Lib.hid (Y2.out.below hb Y2.out.lt)
  have Y3 := Lib.hid (Y3.out.below hb Y3.out.lt)
  have Y4 := Lib.hid (Y4.out.below hb Y4.out.lt)
  have BEL := Lib.hid (BEL.out.trans (hb.mono BEL.out.size))
  clear hb
  go_wp2_with fail
  refine (K6.out _).mono ?_
  rintro e u12 ⟨rfl, hb⟩
  have Y1 := Lib.hid (Y1.out.below hb Y1.out.lt)
  have Y2 := Lib.hid (Y2.out.below hb Y2.out.lt)
  have Y3 := Lib.hid (Y3.out.below hb Y3.out.lt)
  have Y4 := Lib.hid (Y4.out.below hb Y4.out.lt)
  have BEL := Lib.hid (BEL.out.trans (hb.mono BEL.out.size))
  clear hb
  go_wp2_with fail
  refine (two_any _).mono ?_
  rintro e u13 ⟨rfl, hb⟩
  have Y1 := Lib.hid (Y1.out.below hb Y1.out.lt)
  have Y2 := Lib.hid (Y2.out.below hb Y2.out.lt)
  have Y3 := Lib.hid (Y3.out.below hb Y3.out.lt)
  have Y4 := Lib.hid (Y4.out.below hb Y4.out.lt)
  have BEL := Lib.hid (BEL.out.trans (hb.mono BEL.out.size))
  clear hb
  go_wp2_with fail
  refine (K7.out _).mono ?_
  rintro e u14 ⟨rfl, hb⟩
  have Y1 := Lib.hid (Y1.out.below hb Y1.out.lt)
  have Y2 := Lib.hid (Y2.out.below hb Y2.out.lt)
  have Y3 := Lib.hid (Y3.out.below hb Y3.out.lt)
  have Y4 := Lib.hid (Y4.out.below hb Y4.out.lt)
  have BEL := Lib.hid (BEL.out.trans (hb.mono BEL.out.size))
  clear hb
  go_wp2_with fail
  refine (AL.out _).mono ?_
  rintro e u15 ⟨rfl, hb⟩
  have Y1 := Lib.hid (Y1.out.below hb Y1.out.lt)
  have Y2 := Lib.hid (Y2.out.below hb Y2.out.lt)
  have Y3 := Lib.hid (Y3.out.below hb Y3.out.lt)
  have Y4 := Lib.hid (Y4.out.below hb Y4.out.lt)
  have BEL := Lib.hid (BEL.out.trans (hb.mono BEL.out.size))
  clear hb
  obtain ⟨c0, c1, c2, c3, c4, c5⟩ := Y1.out.cfg
  go_wp2_with fail
  refine (K8.out _).mono ?_
  rintro e u16 ⟨rfl, hb⟩
  have Y1 := Lib.hid (Y1.out.below hb Y1.out.lt)
  have Y2 := Lib.hid (Y2.out.below hb Y2.out.lt)
  have Y3 := Lib.hid (Y3.out.below hb Y3.out.lt)
  have Y4 := Lib.hid (Y4.out.below hb Y4.out.lt)
  have BEL := Lib.hid (BEL.out.trans (hb.mono BEL.out.size))
  clear hb
  clear c0 c1 c2 c3 c4 c5
  obtain ⟨c0, c1, c2, c3, c4, c5⟩ := Y2.out.cfg
  go_wp2_with fail
  refine (K9.out _).mono ?_
  rintro e u17 ⟨rfl, hb⟩
  have Y1 := Lib.hid (Y1.out.below hb Y1.out.lt)
  have Y2 := Lib.hid (Y2.out.below hb Y2.out.lt)
  have Y3 := Lib.hid (Y3.out.below hb Y3.out.lt)
  have Y4 := Lib.hid (Y4.out.below hb Y4.out.lt)
  have BEL := Lib.hid (BEL.out.trans (hb.mono BEL.out.size))
  clear hb
  clear c0 c1 c2 c3 c4 c5
  obtain ⟨c0, c1, c2, c3, c4, c5⟩ := Y3.out.cfg
  go_wp2_with fail
  refine (K10.out _).mono ?_
  rintro e u18 ⟨rfl, hb⟩
  have Y1 := Lib.hid (Y1.out.below hb Y1.out.lt)
  have Y2 := Lib.hid (Y2.out.below hb Y2.out.lt)
  have Y3 := Lib.hid (Y3.out.below hb Y3.out.lt)
  have Y4 := Lib.hid (Y4.out.below hb Y4.out.lt)
  have BEL := Lib.hid (BEL.out.trans (hb.mono BEL.out.size))
  clear hb
  clear c0 c1 c2 c3 c4 c5
  obtain ⟨c0, c1, c2, c3, c4, c5⟩ := Y4.out.cfg
  go_wp2_with fail
  refine (K11.out _).mono ?_
  rintro e u19 ⟨rfl, hb⟩
  have Y1 := Lib.hid (Y1.out.below hb Y1.out.lt)
  have Y2 := Lib.hid (Y2.out.below hb Y2.out.lt)
  have Y3 := Lib.hid (Y3.out.below hb Y3.out.lt)
  have Y4 := Lib.hid (Y4.out.below hb Y4.out.lt)
  have BEL := Lib.hid (BEL.out.trans (hb.mono BEL.out.size))
  clear hb
  clear c0 c1 c2 c3 c4 c5
  go_wp2_with fail
  refine (two_any _).mono ?_
  rintro e u20 ⟨rfl, hb⟩
  have Y1 := Lib.hid (Y1.out.below hb Y1.out.lt)
  have Y2 := Lib.hid (Y2.out.below hb Y2.out.lt)
  have Y3 := Lib.hid (Y3.out.below hb Y3.out.lt)
  have Y4 := Lib.hid (Y4.out.below hb Y4.out.lt)
  have BEL := Lib.hid (BEL.out.trans (hb.mono BEL.out.size))
  clear hb
  go_wp2_with fail
  refine (K12.out _).mono ?_
  rintro e u21 ⟨rfl, hb⟩
  have Y1 := Lib.hid (Y1.out.below hb Y1.out.lt)
  have Y2 := Lib.hid (Y2.out.below hb Y2.out.lt)
  have Y3 := Lib.hid (Y3.out.below hb Y3.out.lt)
  have Y4 := Lib.hid (Y4.out.below hb Y4.out.lt)
  have BEL := Lib.hid (BEL.out.trans (hb.mono BEL.out.size))
  clear hb
  go_wp2
  go_ret
  exact ⟨by simp, BEL.out⟩

end Go.Proofs.Ytghdcajojbbllaa
