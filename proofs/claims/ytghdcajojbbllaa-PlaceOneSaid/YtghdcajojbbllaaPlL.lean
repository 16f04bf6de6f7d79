/- Layer 7: the law's own: the chapter's config, and its examples. No statement is proved here. -/
import Derived.Test.YtghdcajojbbllaaPlP5
import Derived.Test.YtghdcajojbbllaaPlRef2
namespace Go.Proofs.Ytghdcajojbbllaa
open Go.RowKit
set_option linter.unusedVariables false

theorem two_any (w : World) : Calls Try.prog 31 #[] w fun e w' => e = .returned (cfgV 2 9 4 2 2 8) ∧ Below w.heap.size w w' := by
  have y := Blk.new w 60 [.int .i64 2, .int .i64 9, .int .i64 4, .int .i64 2, .int .i64 2, .int .i64 8]
  obtain ⟨z0, z1, z2, z3, z4, z5⟩ := y.cfg
  have hb : Below w.heap.size w (w.alloc (.cells #[.int .i64 2, .int .i64 9, .int .i64 4, .int .i64 2, .int .i64 2, .int .i64 8] 60)) := (Below.refl _ _).alloc (Nat.le_refl _) _
  have HB := Lib.hid hb
  clear y hb
  go_enter Try.func31, Try.ntmps31
  go_wp2
  refine bodyPost_ret (v := cfgV 2 9 4 2 2 8) ?_ rfl ⟨rfl, HB.out⟩
  simp [results, Try.f31, go_sem, z0, z1, z2, z3, z4, z5]

set_option maxRecDepth 100000 in
set_option maxHeartbeats 3200000 in
theorem alive_place (w : World) : Calls Try.prog 37 #[] w fun e w' => e = .returned (.bool true) ∧ Below w.heap.size w w' := by
  have BEL := Lib.hid (Below.refl w.heap.size w)
  have K0 := Lib.hid (fun w' : World => psectors_any 2 9 4 2 2 8 w')
  rw [show secN 2 9 4 2 2 8 = 86 by decide +kernel, show chkC 2 9 4 2 2 8 = 0 by decide +kernel] at K0
  have K1 := Lib.hid (fun w' : World => parea_any 2 9 4 2 2 8 1 0 w')
  rw [show areN 2 9 4 2 2 8 1 0 = 6 by decide +kernel, show areE 2 9 4 2 2 8 1 0 = 0 by decide +kernel] at K1
  have K2 := Lib.hid (fun w' : World => ppage_any 2 9 4 2 2 8 1 1 w')
  rw [show pgeN 2 9 4 2 2 8 1 1 = 13 by decide +kernel, show pgeE 2 9 4 2 2 8 1 1 = 0 by decide +kernel] at K2
  have K3 := Lib.hid (fun w' : World => ptrack_any 2 9 4 2 2 8 1 8 w')
  rw [show traN 2 9 4 2 2 8 1 8 = 82 by decide +kernel, show traE 2 9 4 2 2 8 1 8 = 0 by decide +kernel] at K3
  have K4 := Lib.hid (fun w' : World => pwhat_any 2 9 4 2 2 8 85 w')
  rw [show whaK 2 9 4 2 2 8 85 = 4 by decide +kernel, show whaA 2 9 4 2 2 8 85 = 1 by decide +kernel, show whaN 2 9 4 2 2 8 85 = 8 by decide +kernel, show whaE 2 9 4 2 2 8 85 = 0 by decide +kernel] at K4
  go_enter Try.func37, Try.ntmps37
  go_wp2_with fail
  refine (two_any _).mono ?_
  rintro e w1 ⟨rfl, hb⟩
  have BEL := Lib.hid (BEL.out.trans (hb.mono BEL.out.size))
  clear hb
  go_wp2_with fail
  refine (K0.out _).mono ?_
  rintro e w2 ⟨rfl, hb⟩
  have BEL := Lib.hid (BEL.out.trans (hb.mono BEL.out.size))
  clear hb
  go_wp2_with fail
  refine (two_any _).mono ?_
  rintro e w3 ⟨rfl, hb⟩
  have BEL := Lib.hid (BEL.out.trans (hb.mono BEL.out.size))
  clear hb
  go_wp2_with fail
  refine (K1.out _).mono ?_
  rintro e w4 ⟨rfl, hb⟩
  have BEL := Lib.hid (BEL.out.trans (hb.mono BEL.out.size))
  clear hb
  go_wp2_with fail
  refine (two_any _).mono ?_
  rintro e w5 ⟨rfl, hb⟩
  have BEL := Lib.hid (BEL.out.trans (hb.mono BEL.out.size))
  clear hb
  go_wp2_with fail
  refine (K2.out _).mono ?_
  rintro e w6 ⟨rfl, hb⟩
  have BEL := Lib.hid (BEL.out.trans (hb.mono BEL.out.size))
  clear hb
  go_wp2_with fail
  refine (two_any _).mono ?_
  rintro e w7 ⟨rfl, hb⟩
  have BEL := Lib.hid (BEL.out.trans (hb.mono BEL.out.size))
  clear hb
  go_wp2_with fail
  refine (K3.out _).mono ?_
  rintro e w8 ⟨rfl, hb⟩
  have BEL := Lib.hid (BEL.out.trans (hb.mono BEL.out.size))
  clear hb
  go_wp2_with fail
  refine (two_any _).mono ?_
  rintro e w9 ⟨rfl, hb⟩
  have BEL := Lib.hid (BEL.out.trans (hb.mono BEL.out.size))
  clear hb
  go_wp2_with fail
  refine (K4.out _).mono ?_
  rintro e w10 ⟨rfl, hb⟩
  have BEL := Lib.hid (BEL.out.trans (hb.mono BEL.out.size))
  clear hb
  go_wp2
  go_ret
  exact ⟨rfl, BEL.out⟩

end Go.Proofs.Ytghdcajojbbllaa
