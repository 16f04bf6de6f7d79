/- Layer 13, PageTells: the walk. -/
import Derived.Test.YtiibmlbenamgcaaPgR
namespace Go.Proofs.Ytiibmlbenamgcaa
open Go.RowKit
set_option linter.unusedVariables false
set_option maxRecDepth 100000

theorem Blk.wr {w : World} {g : Nat} {t : TypeId} {x y : Value} (h : Blk w g t [x, y]) : w.cell? ⟨g, 0, none⟩ = some x ∧ w.cell? ⟨g, 1, none⟩ = some y := ⟨h.cell 0, h.cell 1⟩

set_option maxHeartbeats 12800000 in
theorem ptells_of (P T A M W Q p n b : Int) (w : World) (hby : isByte b) :
    Calls Try.prog 4 #[cfgV P T A M W Q, .int .i64 p, .int .i64 n, .int .u8 b] w fun e w' => e = .returned (.bool true) ∧ Below w.heap.size w w' := by
  obtain ⟨x, hbel⟩ := box_cfg w P T A M W Q
  obtain ⟨w1, hw1⟩ : ∃ x : World, x = w.alloc (.cells #[.int .i64 P, .int .i64 T, .int .i64 A, .int .i64 M, .int .i64 W, .int .i64 Q] 27) := ⟨_, rfl⟩
  rw [← hw1] at x hbel
  have X := Lib.hid x
  have B := Lib.hid hbel
  obtain ⟨c0, c1, c2, c3, c4, c5⟩ := x.cfg
  have T1 := Lib.hid (fun w' : World => pgtext_any P T A M W Q p n b w' hby)
  have T2 := Lib.hid (fun w' : World => rtext13_any P T A M W Q p n b w' hby)
  have P1 := Lib.hid (fun w' : World => pgplan_any P T A M W Q p n b w' hby)
  have P2 := Lib.hid (fun w' : World => rplan13_any P T A M W Q p n b w' hby)
  unfold RowOut at T1 T2
  unfold PgnOut at P1 P2
  obtain ⟨E, hE⟩ : ∃ v, v = pxE P T A M W Q p n b := ⟨_, rfl⟩
  obtain ⟨N, hN⟩ : ∃ v, v = pxN P T A M W Q p n b := ⟨_, rfl⟩
  obtain ⟨L, hL⟩ : ∃ v, v = pxT P T A M W Q p n b := ⟨_, rfl⟩
  rw [← hE, ← hL] at T1 T2
  rw [← hE, ← hL, ← hN] at P1 P2
  obtain ⟨m, hm⟩ : ∃ m, m = L.length := ⟨_, rfl⟩
  rw [← hm] at T1 T2 P1 P2
  obtain ⟨s, hs⟩ : ∃ s, s = strOfNums L := ⟨_, rfl⟩
  have HS := Lib.hid hs
  have he : (E == E) = true := beq_self_eq_true _
  have hep : (N == N) = true := beq_self_eq_true _
  have hst : (s.toList == s.toList) = true := beq_self_eq_true _
  clear x hbel hE hN hL hm hs hby
  go_enter Try.func4, Try.ntmps4
  go_wp2_with fail
  rw [← hw1]
  clear hw1
  refine (T1.out _).mono ?_
  rintro e v2 ⟨A2, r2, rfl, hown, hb⟩
  have B := Lib.hid (B.out.trans (hb.mono B.out.size))
  have X := Lib.hid (X.out.below hb X.out.lt)
  have V1 := Lib.hid (Arg.own hown)
  clear hb hown c0 c1 c2 c3 c4 c5 T1
  obtain ⟨c0, c1, c2, c3, c4, c5⟩ := X.out.cfg
  go_wp2_with fail
  refine (T2.out _).mono ?_
  rintro e v3 ⟨A3, r3, rfl, hown, hb⟩
  have B := Lib.hid (B.out.trans (hb.mono B.out.size))
  have X := Lib.hid (X.out.below hb X.out.lt)
  have V1 := Lib.hid (V1.out.below hb)
  have V2 := Lib.hid (Arg.own hown)
  clear hb hown c0 c1 c2 c3 c4 c5 T2
  obtain ⟨c0, c1, c2, c3, c4, c5⟩ := X.out.cfg
  go_wp2_with fail
  refine (P1.out _).mono ?_
  rintro e v4 ⟨A4, r4, rfl, hown, hb⟩
  have hY := Blk.new v4 30 [.int .i64 N, .slice A4 m r4]
  have hbk : Below v4.heap.size v4 (v4.alloc (.cells #[.int .i64 N, .slice A4 m r4] 30)) := (Below.refl _ _).alloc (Nat.le_refl _) _
  have hb := hb.trans (hbk.mono hb.size)
  have B := Lib.hid (B.out.trans (hb.mono B.out.size))
  have X := Lib.hid (X.out.below hb X.out.lt)
  have V1 := Lib.hid (V1.out.below hb)
  have V2 := Lib.hid (V2.out.below hb)
  have V3 := Lib.hid ((Arg.own hown).below hbk)
  clear hb hbk hown c0 c1 c2 c3 c4 c5 P1
  go_upto_region 4 with fail
  obtain ⟨G4, hG⟩ : ∃ x, x = v4.heap.size := ⟨_, rfl⟩
  rw [← hG] at hY ⊢
  obtain ⟨w4, hW⟩ : ∃ x : World, x = v4.alloc (.cells #[.int .i64 N, .slice A4 m r4] 30) := ⟨_, rfl⟩
  rw [← hW] at hY B X V1 V2 V3 ⊢
  clear hW hG
  have Y3 := Lib.hid hY
  clear hY
  obtain ⟨c0, c1, c2, c3, c4, c5⟩ := X.out.cfg
  go_wp2_with fail
  refine (P2.out _).mono ?_
  rintro e v5 ⟨A5, r5, rfl, hown, hb⟩
  have hY := Blk.new v5 30 [.int .i64 N, .slice A5 m r5]
  have hbk : Below v5.heap.size v5 (v5.alloc (.cells #[.int .i64 N, .slice A5 m r5] 30)) := (Below.refl _ _).alloc (Nat.le_refl _) _
  have hb := hb.trans (hbk.mono hb.size)
  have B := Lib.hid (B.out.trans (hb.mono B.out.size))
  have X := Lib.hid (X.out.below hb X.out.lt)
  have V1 := Lib.hid (V1.out.below hb)
  have V2 := Lib.hid (V2.out.below hb)
  have V3 := Lib.hid (V3.out.below hb)
  have Y3 := Lib.hid (Y3.out.below hb Y3.out.lt)
  have V4 := Lib.hid ((Arg.own hown).below hbk)
  clear hb hbk hown c0 c1 c2 c3 c4 c5 P2
  go_upto_region 5 with fail
  obtain ⟨G5, hG⟩ : ∃ x, x = v5.heap.size := ⟨_, rfl⟩
  rw [← hG] at hY ⊢
  obtain ⟨w5, hW⟩ : ∃ x : World, x = v5.alloc (.cells #[.int .i64 N, .slice A5 m r5] 30) := ⟨_, rfl⟩
  rw [← hW] at hY B X V1 V2 V3 Y3 V4 ⊢
  clear hW hG
  have Y4 := Lib.hid hY
  clear hY
  obtain ⟨c0, c1, c2, c3, c4, c5⟩ := X.out.cfg
  have q1 := str_arg V1.out
  have q2 := str_arg V2.out
  have q3 := str_arg V3.out
  have q4 := str_arg V4.out
  rw [← HS.out] at q1 q2 q3 q4
  obtain ⟨y0, y1⟩ := Y3.out.wr
  obtain ⟨z0, z1⟩ := Y4.out.wr
  go_wp2
  go_ret
  exact ⟨rfl, B.out⟩

end Go.Proofs.Ytiibmlbenamgcaa
