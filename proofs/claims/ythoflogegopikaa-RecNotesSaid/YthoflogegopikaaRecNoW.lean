/- Layer 11, RecNotes: the walk. -/
import Derived.Test.YthoflogegopikaaRecW
import Derived.Deep.RegionHeld3
namespace Go.Proofs.Ythoflogegopikaa
open Go.RowKit
set_option linter.unusedVariables false

set_option maxRecDepth 100000 in
set_option maxHeartbeats 1600000 in
theorem recnotes_of (dz : RecDoes) (r : Rc) (p : Int) (w : World) (hr : isR r) :
    Calls Try.prog 4 #[recV r, .int .i64 p] w fun e w' => e = .returned (.bool true) ∧ Below w.heap.size w w' := by
  obtain ⟨x, hbel⟩ := rec_box w r
  have NP := Lib.hid (fun wx => dz.note r wx hr)
  have ND := Lib.hid (fun wx => rnote11_any r wx hr)
  have GP := Lib.hid (fun wx => dz.gone p wx)
  have GD := Lib.hid (fun wx => rgone11_any p wx)
  have CP := Lib.hid (fun wx => dz.check r wx hr)
  have CD := Lib.hid (fun wx => rcheck11_any r wx)
  unfold RowOut at NP ND GP GD
  obtain ⟨b1, hb1⟩ : ∃ b, b = ntB r := ⟨_, rfl⟩
  obtain ⟨b2, hb2⟩ : ∃ b, b = goB p := ⟨_, rfl⟩
  obtain ⟨E1, hE1⟩ : ∃ b, b = rcE r := ⟨_, rfl⟩
  obtain ⟨E2, hE2⟩ : ∃ b, b = goE p := ⟨_, rfl⟩
  rw [← hb1, ← hE1] at NP ND
  rw [← hb2, ← hE2] at GP GD
  rw [← hE1] at CP CD
  obtain ⟨m1, hm1⟩ : ∃ m, m = b1.length := ⟨_, rfl⟩
  obtain ⟨m2, hm2⟩ : ∃ m, m = b2.length := ⟨_, rfl⟩
  rw [← hm1] at NP ND
  rw [← hm2] at GP GD
  clear hb1 hb2 hE1 hE2 hm1 hm2 dz hr
  obtain ⟨rp, rb, re, rl, rh, rf, rq, ra⟩ := r
  have hbel : Below w.heap.size w (w.alloc (.cells #[.int .i64 rp, .int .u32 rb, .int .u32 re, .int .i64 rl, .int .u8 rh, .int .i64 rf, .bool rq, .bool ra] 24)) := hbel
  change Blk (w.alloc (.cells #[.int .i64 rp, .int .u32 rb, .int .u32 re, .int .i64 rl, .int .u8 rh, .int .i64 rf, .bool rq, .bool ra] 24)) _ _ _ at x
  obtain ⟨w0, hw0⟩ : ∃ x, x = w.alloc (.cells #[.int .i64 rp, .int .u32 rb, .int .u32 re, .int .i64 rl, .int .u8 rh, .int .i64 rf, .bool rq, .bool ra] 24) := ⟨_, rfl⟩
  rw [← hw0] at x hbel
  have hlt := x.lt
  have X := Lib.hid x
  have B := Lib.hid (Below.refl w0.heap.size w0)
  have BB := Lib.hid hbel
  clear x hbel
  obtain ⟨c0, c1, c2, c3, c4, c5, c6, c7⟩ := X.out.rec
  go_enter Try.func4, Try.ntmps4
  go_wp2_with fail
  rw [← hw0]
  clear hw0 c0 c1 c2 c3 c4 c5 c6 c7
  refine (NP.out _).mono ?_
  rintro e w1 ⟨A1, k1, rfl, hown, hb⟩
  have BB := Lib.hid (BB.out.trans (hb.mono BB.out.size))
  have R1 := Lib.hid hown
  have B := Lib.hid (B.out.trans (hb.mono B.out.size))
  have X := Lib.hid (X.out.below hb hlt)
  have hlt : w.heap.size < w1.heap.size := X.out.lt
  clear hown hb
  obtain ⟨c0, c1, c2, c3, c4, c5, c6, c7⟩ := X.out.rec
  go_wp2_with fail
  refine (ND.out _).mono ?_
  rintro e w2 ⟨A2, k2, rfl, hown, hb⟩
  have BB := Lib.hid (BB.out.trans (hb.mono BB.out.size))
  have R1 := Lib.hid (owns_below R1.out hb)
  have R2 := Lib.hid hown
  have X := Lib.hid (X.out.below hb hlt)
  have hlt : w.heap.size < w2.heap.size := X.out.lt
  clear hown hb c0 c1 c2 c3 c4 c5 c6 c7
  go_wp2_with fail
  refine (GP.out _).mono ?_
  rintro e w3 ⟨A3, k3, rfl, hown, hb⟩
  have BB := Lib.hid (BB.out.trans (hb.mono BB.out.size))
  have R1 := Lib.hid (owns_below R1.out hb)
  have R2 := Lib.hid (owns_below R2.out hb)
  have R3 := Lib.hid hown
  have X := Lib.hid (X.out.below hb hlt)
  have hlt : w.heap.size < w3.heap.size := X.out.lt
  clear hown hb
  go_wp2_with fail
  refine (GD.out _).mono ?_
  rintro e w4 ⟨A4, k4, rfl, hown, hb⟩
  have BB := Lib.hid (BB.out.trans (hb.mono BB.out.size))
  have R1 := Lib.hid (owns_below R1.out hb)
  have R2 := Lib.hid (owns_below R2.out hb)
  have R3 := Lib.hid (owns_below R3.out hb)
  have R4 := Lib.hid hown
  have X := Lib.hid (X.out.below hb hlt)
  have hlt : w.heap.size < w4.heap.size := X.out.lt
  clear hown hb
  have hst : ((strOfNums b1).toList == (strOfNums b1).toList) = true := beq_self_eq_true _
  have hst2 : ((strOfNums b2).toList == (strOfNums b2).toList) = true := beq_self_eq_true _
  have he1 : (E1 == E1) = true := beq_self_eq_true _
  have he2 : (E2 == E2) = true := beq_self_eq_true _
  go_upto_region 5 with fail
  have hcur : Below w4.heap.size w4 w4.drew := below_drewN (Below.refl _ _) 1
  have keepX : ∀ wx, Below w4.heap.size w4 wx → wx.cell? ⟨w.heap.size, 0, none⟩ = some (.int .i64 rp) ∧ wx.cell? ⟨w.heap.size, 1, none⟩ = some (.int .u32 rb) ∧ wx.cell? ⟨w.heap.size, 2, none⟩ = some (.int .u32 re) ∧ wx.cell? ⟨w.heap.size, 3, none⟩ = some (.int .i64 rl) ∧ wx.cell? ⟨w.heap.size, 4, none⟩ = some (.int .u8 rh) ∧ wx.cell? ⟨w.heap.size, 5, none⟩ = some (.int .i64 rf) ∧ wx.cell? ⟨w.heap.size, 6, none⟩ = some (.bool rq) ∧ wx.cell? ⟨w.heap.size, 7, none⟩ = some (.bool ra) ∧ (convert 26 9 (.slice A1 m1 k1)).run Try.prog wx = .ok (.string (strOfNums b1)) wx ∧ (convert 26 9 (.slice A2 m1 k2)).run Try.prog wx = .ok (.string (strOfNums b1)) wx ∧ (convert 26 9 (.slice A3 m2 k3)).run Try.prog wx = .ok (.string (strOfNums b2)) wx ∧ (convert 26 9 (.slice A4 m2 k4)).run Try.prog wx = .ok (.string (strOfNums b2)) wx := fun wx hx => by
    obtain ⟨c0, c1, c2, c3, c4, c5, c6, c7⟩ := (X.out.below hx hlt).rec
    exact ⟨c0, c1, c2, c3, c4, c5, c6, c7, str_arg11 (Arg.own (owns_below R1.out hx)), str_arg11 (Arg.own (owns_below R2.out hx)), str_arg11 (Arg.own (owns_below R3.out hx)), str_arg11 (Arg.own (owns_below R4.out hx))⟩
  have hkX := keepX _ hcur
  clear NP ND GP GD B
  go_region_held3 (fun w' => w'.cell? ⟨w.heap.size, 0, none⟩ = some (.int .i64 rp) ∧ w'.cell? ⟨w.heap.size, 1, none⟩ = some (.int .u32 rb) ∧ w'.cell? ⟨w.heap.size, 2, none⟩ = some (.int .u32 re) ∧ w'.cell? ⟨w.heap.size, 3, none⟩ = some (.int .i64 rl) ∧ w'.cell? ⟨w.heap.size, 4, none⟩ = some (.int .u8 rh) ∧ w'.cell? ⟨w.heap.size, 5, none⟩ = some (.int .i64 rf) ∧ w'.cell? ⟨w.heap.size, 6, none⟩ = some (.bool rq) ∧ w'.cell? ⟨w.heap.size, 7, none⟩ = some (.bool ra) ∧ (convert 26 9 (.slice A1 m1 k1)).run Try.prog w' = .ok (.string (strOfNums b1)) w' ∧ (convert 26 9 (.slice A2 m1 k2)).run Try.prog w' = .ok (.string (strOfNums b1)) w' ∧ (convert 26 9 (.slice A3 m2 k3)).run Try.prog w' = .ok (.string (strOfNums b2)) w' ∧ (convert 26 9 (.slice A4 m2 k4)).run Try.prog w' = .ok (.string (strOfNums b2)) w')
    (first | exact hkX | go_keep)
    (first
      | (go_at_call 13; with_reducible refine (CP.out _).mono ?_; rintro e wM ⟨rfl, hbM⟩; have hcur := hcur.trans (hbM.mono hcur.size); have hkX := keepX _ hcur)
      | (go_at_call 17; with_reducible refine (CD.out _).mono ?_; rintro e wM ⟨rfl, hbM⟩; have hcur := hcur.trans (hbM.mono hcur.size); have hkX := keepX _ hcur))
  all_goals (have HF := Lib.hid (BB.out.trans (hcur.mono BB.out.size)); clear hcur; go_wp2; go_ret; exact ⟨rfl, HF.out⟩)
end Go.Proofs.Ythoflogegopikaa
