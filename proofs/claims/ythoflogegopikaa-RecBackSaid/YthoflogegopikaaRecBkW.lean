/- Layer 11, RecBack: the walk, given RecDoes. -/
import Derived.Test.YthoflogegopikaaRecA
namespace Go.Proofs.Ythoflogegopikaa
open Go.RowKit
set_option linter.unusedVariables false

theorem map_byte_inj11 : ∀ (x y : List Int), (∀ z ∈ x, isByte z) → (∀ z ∈ y, isByte z) → (x.map fun n => UInt8.ofNat n.toNat) = (y.map fun n => UInt8.ofNat n.toNat) → x = y := by
  intro x
  induction x with
  | nil => intro y _ _ h; cases y with
    | nil => rfl
    | cons b y => cases h
  | cons a x ih =>
    intro y hx hy h
    cases y with
    | nil => cases h
    | cons b y =>
      simp only [List.map_cons, List.cons.injEq] at h
      have ha := hx a (by simp)
      have hb := hy b (by simp)
      unfold isByte at ha hb
      have e : (UInt8.ofNat a.toNat).toNat = (UInt8.ofNat b.toNat).toNat := by rw [h.1]
      rw [UInt8.toNat_ofNat', UInt8.toNat_ofNat'] at e
      have e2 : a = b := by omega
      rw [e2, ih y (fun z hz => hx z (by simp [hz])) (fun z hz => hy z (by simp [hz])) h.2]
theorem str_ne11 {x y : List Int} (hx : ∀ z ∈ x, isByte z) (hy : ∀ z ∈ y, isByte z) (h : x ≠ y) : ((strOfNums x).toList == (strOfNums y).toList) = false := by
  rw [beq_eq_false_iff_ne]
  intro e
  rw [Lib.toList_data, Lib.toList_data, strOfNums_data, strOfNums_data] at e
  exact h (map_byte_inj11 x y hx hy e)
theorem tab_one {r : Rc} (hi : isR r) (hm : mayR r) : tabR [recT r] = some [r] := tab_back (x := [r]) hm (fun x hx => by rw [List.mem_singleton.1 hx]; exact hi)
set_option maxRecDepth 100000 in
set_option maxHeartbeats 3200000 in
theorem recback_of (dz : RecDoes) (r s : Rc) (w : World) (hr : isR r) (hs : isR s) :
    Calls Try.prog 6 #[recV r, recV s] w fun e w' => e = .returned (.bool true) ∧ Below w.heap.size w w' := by
  obtain ⟨x, hbx⟩ := rec_box w r
  obtain ⟨y, hby⟩ := rec_box (w.alloc (.cells (recL r).toArray 24)) s
  have AL := Lib.hid (fun wx => alive11_any dz wx)
  have NR := Lib.hid (fun wx => dz.note r wx hr)
  have NS := Lib.hid (fun wx => dz.note s wx hs)
  unfold RowOut at NR NS
  have ER := eq_rec r r
  have ES := eq_rec r s
  rw [decide_eq_true rfl] at ER
  obtain ⟨b1, hb1⟩ : ∃ b, b = ntB r := ⟨_, rfl⟩
  obtain ⟨b2, hb2⟩ : ∃ b, b = ntB s := ⟨_, rfl⟩
  obtain ⟨E1, hE1⟩ : ∃ b, b = rcE r := ⟨_, rfl⟩
  obtain ⟨E2, hE2⟩ : ∃ b, b = rcE s := ⟨_, rfl⟩
  rw [← hb1, ← hE1] at NR
  rw [← hb2, ← hE2] at NS
  obtain ⟨m1, hm1⟩ : ∃ m, m = b1.length := ⟨_, rfl⟩
  obtain ⟨m2, hm2⟩ : ∃ m, m = b2.length := ⟨_, rfl⟩
  rw [← hm1] at NR
  rw [← hm2] at NS
  have x := x.below hby x.lt
  obtain ⟨w0, hw0⟩ : ∃ v, v = (w.alloc (.cells (recL r).toArray 24)).alloc (.cells (recL s).toArray 24) := ⟨_, rfl⟩
  have hbx : Below w.heap.size w (w.alloc (.cells (recL r).toArray 24)) := hbx
  obtain ⟨gy, hgy⟩ : ∃ g, g = (w.alloc (.cells (recL r).toArray 24)).heap.size := ⟨_, rfl⟩
  have hgy1 : gy = w.heap.size + 1 := by rw [hgy]; simp
  change Blk ((w.alloc (.cells (recL r).toArray 24)).alloc (.cells (recL s).toArray 24)) _ _ _ at y
  change Blk ((w.alloc (.cells (recL r).toArray 24)).alloc (.cells (recL s).toArray 24)) _ _ _ at x
  have hB0 : Below w.heap.size w ((w.alloc (.cells (recL r).toArray 24)).alloc (.cells (recL s).toArray 24)) := hbx.trans (hby.mono hbx.size)
  rw [← hw0] at x y hB0
  have BB := Lib.hid hB0
  clear hB0
  rw [← hgy] at y
  have X := Lib.hid x
  have Y := Lib.hid y
  have hlx := x.lt
  have hly := y.lt
  have BYT1 := Lib.hid (show ∀ z ∈ b1, isByte z from by rw [hb1]; unfold ntB; split; exact recT_byte r; simp)
  have BYT2 := Lib.hid (show ∀ z ∈ b2, isByte z from by rw [hb2]; unfold ntB; split; exact recT_byte s; simp)
  subst hgy1
  have HW := Lib.hid hw0
  clear x y hbx hby
  by_cases hmr : mayR r
  · have e1 : E1 = 0 := by rw [hE1]; exact if_pos hmr
    by_cases hms : mayR s
    · have e2 : E2 = 0 := by rw [hE2]; exact if_pos hms
      have hr1 : b1 = recT r := by rw [hb1]; exact if_pos hmr
      have hr2 : b2 = recT s := by rw [hb2]; exact if_pos hms
      have e3 : m1 = 14 := by rw [hm1, hr1]; exact recT_length r
      have TP := Lib.hid (fun (A : Option Addr) (c : Nat) wx (h : Texts wx A 1 c [b1]) => (show Calls Try.prog 11 #[.slice A 1 c] wx (PutOut wx (some [r])) from by
        have g := dz.table A 1 c _ wx h (by decide) (fun y hy => by obtain rfl : y = 0 := (by omega); show b1.length ≤ 100; rw [hr1, recT_length]; decide)
        rw [hr1, tab_one hr hmr] at g; exact g))
      obtain ⟨D, hD⟩ : ∃ D, D = decide (r = s) := ⟨_, rfl⟩
      rw [← hD] at ES
      have Q := Lib.hid (show ((strOfNums b1).toList == (strOfNums b2).toList) = D from by
        rw [hD]
        by_cases h : r = s
        · rw [decide_eq_true h, hr1, hr2, h]; exact beq_self_eq_true _
        · rw [decide_eq_false h]; exact str_ne11 BYT1.out BYT2.out (fun k => h (recT_inj hr hmr hs hms (by rw [← hr1, ← hr2, k]))))
      have ER := Lib.hid ER
      have ES := Lib.hid ES
      unfold PutOut at TP
      clear hmr hms hb1 hb2 hE1 hE2 hm1 hm2 hw0 hgy hr1 hr2 hr hs dz hD
      subst e1 e2 e3
      obtain ⟨rp, rb, re, rl, rh, rf, rq, ra⟩ := r
      obtain ⟨sp, sb, se, sl, sh, sf, sq, sa⟩ := s
      go_enter Try.func6, Try.ntmps6
      go_wp2_with fail
      have hw := HW.out
      try dsimp only at hw
      rw [← hw]
      clear hw HW
      refine (AL.out _).mono ?_
      rintro e w1 ⟨rfl, hb⟩
      have BB := Lib.hid (BB.out.trans (hb.mono BB.out.size))
      have X := Lib.hid (X.out.below hb hlx)
      have Y := Lib.hid (Y.out.below hb hly)
      have hlx : w.heap.size < w1.heap.size := X.out.lt
      have hly : w.heap.size + 1 < w1.heap.size := Y.out.lt
      clear hb
      obtain ⟨c0, c1, c2, c3, c4, c5, c6, c7⟩ := X.out.rec
      go_wp2_with fail
      refine (NR.out _).mono ?_
      rintro e w2 ⟨A1, k1, rfl, hown, hb⟩
      have BB := Lib.hid (BB.out.trans (hb.mono BB.out.size))
      have R1 := Lib.hid hown
      have X := Lib.hid (X.out.below hb hlx)
      have Y := Lib.hid (Y.out.below hb hly)
      have hlx : w.heap.size < w2.heap.size := X.out.lt
      have hly : w.heap.size + 1 < w2.heap.size := Y.out.lt
      clear hown hb c0 c1 c2 c3 c4 c5 c6 c7
      obtain ⟨c0, c1, c2, c3, c4, c5, c6, c7⟩ := Y.out.rec
      go_wp2_with fail
      refine (NS.out _).mono ?_
      rintro e w3 ⟨A2, k2, rfl, hown, hb⟩
      have BB := Lib.hid (BB.out.trans (hb.mono BB.out.size))
      have R1 := Lib.hid (owns_below R1.out hb)
      have R2 := Lib.hid hown
      have X := Lib.hid (X.out.below hb hlx)
      have Y := Lib.hid (Y.out.below hb hly)
      have hlx : w.heap.size < w3.heap.size := X.out.lt
      have hly : w.heap.size + 1 < w3.heap.size := Y.out.lt
      clear hown hb c0 c1 c2 c3 c4 c5 c6 c7
      have hal : Below w3.heap.size w3 (w3.alloc (.cells #[.slice A1 14 k1] 26)) := (Below.refl _ _).alloc (Nat.le_refl _) _
      have TX := Lib.hid (texts_one (Arg.own R1.out) BYT1.out)
      have HAL := Lib.hid hal
      clear hal
      go_wp2_with fail
      refine (TP.out _ _ _ TX.out).mono ?_
      rintro e w4 ⟨A3, k3, rfl, hO, hb⟩
      have hb3 := HAL.out.trans (hb.mono HAL.out.size)
      have BB := Lib.hid (BB.out.trans (hb3.mono BB.out.size))
      have R1 := Lib.hid (owns_below R1.out hb3)
      have R2 := Lib.hid (owns_below R2.out hb3)
      have X := Lib.hid (X.out.below hb3 hlx)
      have Y := Lib.hid (Y.out.below hb3 hly)
      have hlx : w.heap.size < w4.heap.size := X.out.lt
      have hly : w.heap.size + 1 < w4.heap.size := Y.out.lt
      have O := Lib.hid (Recs.of_own hO)
      obtain ⟨bb, oo, eA, hlt, d0, d1, d2, d3, d4, d5, d6, d7⟩ := O.out.row (show 0 < 1 by decide)
      subst eA
      clear hO hb hb3 TX HAL hlt d0 d1 d2 d3 d4 d5 d6 d7
      obtain ⟨s1, hs1⟩ : ∃ x, x = strOfNums b1 := ⟨_, rfl⟩
      obtain ⟨s2, hs2⟩ : ∃ x, x = strOfNums b2 := ⟨_, rfl⟩
      have q1 := Q.out
      rw [← hs1, ← hs2] at q1
      have S1 := Lib.hid hs1
      have S2 := Lib.hid hs2
      clear hs1 hs2 TP Q
      unfold ansL ansE
      go_upto_region 7 with fail
      have hcur : Below w4.heap.size w4 w4.drew := below_drewN (Below.refl _ _) 1
      have keepX : ∀ wx, Below w4.heap.size w4 wx → wx.cell? ⟨w.heap.size, 0, none⟩ = some (.int .i64 rp) ∧ wx.cell? ⟨w.heap.size, 1, none⟩ = some (.int .u32 rb) ∧ wx.cell? ⟨w.heap.size, 2, none⟩ = some (.int .u32 re) ∧ wx.cell? ⟨w.heap.size, 3, none⟩ = some (.int .i64 rl) ∧ wx.cell? ⟨w.heap.size, 4, none⟩ = some (.int .u8 rh) ∧ wx.cell? ⟨w.heap.size, 5, none⟩ = some (.int .i64 rf) ∧ wx.cell? ⟨w.heap.size, 6, none⟩ = some (.bool rq) ∧ wx.cell? ⟨w.heap.size, 7, none⟩ = some (.bool ra) ∧ wx.cell? ⟨w.heap.size + 1, 0, none⟩ = some (.int .i64 sp) ∧ wx.cell? ⟨w.heap.size + 1, 1, none⟩ = some (.int .u32 sb) ∧ wx.cell? ⟨w.heap.size + 1, 2, none⟩ = some (.int .u32 se) ∧ wx.cell? ⟨w.heap.size + 1, 3, none⟩ = some (.int .i64 sl) ∧ wx.cell? ⟨w.heap.size + 1, 4, none⟩ = some (.int .u8 sh) ∧ wx.cell? ⟨w.heap.size + 1, 5, none⟩ = some (.int .i64 sf) ∧ wx.cell? ⟨w.heap.size + 1, 6, none⟩ = some (.bool sq) ∧ wx.cell? ⟨w.heap.size + 1, 7, none⟩ = some (.bool sa) ∧ wx.cell? ⟨bb, oo, none⟩ = some (.int .i64 rp) ∧ wx.cell? ⟨bb, oo + 1, none⟩ = some (.int .u32 rb) ∧ wx.cell? ⟨bb, oo + 2, none⟩ = some (.int .u32 re) ∧ wx.cell? ⟨bb, oo + 3, none⟩ = some (.int .i64 rl) ∧ wx.cell? ⟨bb, oo + 4, none⟩ = some (.int .u8 rh) ∧ wx.cell? ⟨bb, oo + 5, none⟩ = some (.int .i64 rf) ∧ wx.cell? ⟨bb, oo + 6, none⟩ = some (.bool rq) ∧ wx.cell? ⟨bb, oo + 7, none⟩ = some (.bool ra) ∧ (convert 26 9 (.slice A1 14 k1)).run Try.prog wx = .ok (.string s1) wx ∧ (convert 26 9 (.slice A2 m2 k2)).run Try.prog wx = .ok (.string s2) wx := fun wx hx => by
        obtain ⟨b2, o2, eA, hlt, d0, d1, d2, d3, d4, d5, d6, d7⟩ := (O.out.below hx).row (show 0 < 1 by decide)
        injection eA with eA; injection eA with eA1 eA2 _; subst eA1; subst eA2
        rw [S1.out, S2.out]
        simp only [Nat.zero_mul, Nat.add_zero] at d0 d1 d2 d3 d4 d5 d6 d7
        obtain ⟨x0, x1, x2, x3, x4, x5, x6, x7⟩ := (X.out.below hx hlx).rec
        obtain ⟨y0, y1, y2, y3, y4, y5, y6, y7⟩ := (Y.out.below hx hly).rec
        exact ⟨x0, x1, x2, x3, x4, x5, x6, x7, y0, y1, y2, y3, y4, y5, y6, y7, d0, d1, d2, d3, d4, d5, d6, d7, str_arg11 (Arg.own (owns_below R1.out hx)), str_arg11 (Arg.own (owns_below R2.out hx))⟩
      have hkX := keepX _ hcur
      clear NR NS AL
      have ER : ∀ wx, (Op.equalIn 10000 24 (.agg #[.int .i64 rp, .int .u32 rb, .int .u32 re, .int .i64 rl, .int .u8 rh, .int .i64 rf, .bool rq, .bool ra]) (.agg #[.int .i64 rp, .int .u32 rb, .int .u32 re, .int .i64 rl, .int .u8 rh, .int .i64 rf, .bool rq, .bool ra])).run Try.prog wx = .ok true wx := ER.out
      have ES : ∀ wx, (Op.equalIn 10000 24 (.agg #[.int .i64 rp, .int .u32 rb, .int .u32 re, .int .i64 rl, .int .u8 rh, .int .i64 rf, .bool rq, .bool ra]) (.agg #[.int .i64 sp, .int .u32 sb, .int .u32 se, .int .i64 sl, .int .u8 sh, .int .i64 sf, .bool sq, .bool sa])).run Try.prog wx = .ok D wx := ES.out
      go_region_held3 (fun w' => w'.cell? ⟨w.heap.size, 0, none⟩ = some (.int .i64 rp) ∧ w'.cell? ⟨w.heap.size, 1, none⟩ = some (.int .u32 rb) ∧ w'.cell? ⟨w.heap.size, 2, none⟩ = some (.int .u32 re) ∧ w'.cell? ⟨w.heap.size, 3, none⟩ = some (.int .i64 rl) ∧ w'.cell? ⟨w.heap.size, 4, none⟩ = some (.int .u8 rh) ∧ w'.cell? ⟨w.heap.size, 5, none⟩ = some (.int .i64 rf) ∧ w'.cell? ⟨w.heap.size, 6, none⟩ = some (.bool rq) ∧ w'.cell? ⟨w.heap.size, 7, none⟩ = some (.bool ra) ∧ w'.cell? ⟨w.heap.size + 1, 0, none⟩ = some (.int .i64 sp) ∧ w'.cell? ⟨w.heap.size + 1, 1, none⟩ = some (.int .u32 sb) ∧ w'.cell? ⟨w.heap.size + 1, 2, none⟩ = some (.int .u32 se) ∧ w'.cell? ⟨w.heap.size + 1, 3, none⟩ = some (.int .i64 sl) ∧ w'.cell? ⟨w.heap.size + 1, 4, none⟩ = some (.int .u8 sh) ∧ w'.cell? ⟨w.heap.size + 1, 5, none⟩ = some (.int .i64 sf) ∧ w'.cell? ⟨w.heap.size + 1, 6, none⟩ = some (.bool sq) ∧ w'.cell? ⟨w.heap.size + 1, 7, none⟩ = some (.bool sa) ∧ w'.cell? ⟨bb, oo, none⟩ = some (.int .i64 rp) ∧ w'.cell? ⟨bb, oo + 1, none⟩ = some (.int .u32 rb) ∧ w'.cell? ⟨bb, oo + 2, none⟩ = some (.int .u32 re) ∧ w'.cell? ⟨bb, oo + 3, none⟩ = some (.int .i64 rl) ∧ w'.cell? ⟨bb, oo + 4, none⟩ = some (.int .u8 rh) ∧ w'.cell? ⟨bb, oo + 5, none⟩ = some (.int .i64 rf) ∧ w'.cell? ⟨bb, oo + 6, none⟩ = some (.bool rq) ∧ w'.cell? ⟨bb, oo + 7, none⟩ = some (.bool ra) ∧ (convert 26 9 (.slice A1 14 k1)).run Try.prog w' = .ok (.string s1) w' ∧ (convert 26 9 (.slice A2 m2 k2)).run Try.prog w' = .ok (.string s2) w')
        (first | exact hkX | go_keep)
        (fail)
      all_goals (have HF := Lib.hid (BB.out.trans (hcur.mono BB.out.size)); clear hcur; go_wp2; go_ret; exact ⟨rfl, HF.out⟩)
    · have e2 : E2 = 110 := by rw [hE2]; exact if_neg hms
      clear hmr hms hb1 hb2 hE1 hE2 hm1 hm2 hw0 hgy ER ES hr hs dz
      subst e1 e2
      obtain ⟨rp, rb, re, rl, rh, rf, rq, ra⟩ := r
      obtain ⟨sp, sb, se, sl, sh, sf, sq, sa⟩ := s
      go_enter Try.func6, Try.ntmps6
      go_wp2_with fail
      have hw := HW.out
      try dsimp only at hw
      rw [← hw]
      clear hw HW
      refine (AL.out _).mono ?_
      rintro e w1 ⟨rfl, hb⟩
      have BB := Lib.hid (BB.out.trans (hb.mono BB.out.size))
      have X := Lib.hid (X.out.below hb hlx)
      have Y := Lib.hid (Y.out.below hb hly)
      have hlx : w.heap.size < w1.heap.size := X.out.lt
      have hly : w.heap.size + 1 < w1.heap.size := Y.out.lt
      clear hb
      obtain ⟨c0, c1, c2, c3, c4, c5, c6, c7⟩ := X.out.rec
      go_wp2_with fail
      refine (NR.out _).mono ?_
      rintro e w2 ⟨A1, k1, rfl, hown, hb⟩
      have BB := Lib.hid (BB.out.trans (hb.mono BB.out.size))
      have R1 := Lib.hid hown
      have X := Lib.hid (X.out.below hb hlx)
      have Y := Lib.hid (Y.out.below hb hly)
      have hlx : w.heap.size < w2.heap.size := X.out.lt
      have hly : w.heap.size + 1 < w2.heap.size := Y.out.lt
      clear hown hb c0 c1 c2 c3 c4 c5 c6 c7
      obtain ⟨c0, c1, c2, c3, c4, c5, c6, c7⟩ := Y.out.rec
      go_wp2_with fail
      refine (NS.out _).mono ?_
      rintro e w3 ⟨A2, k2, rfl, hown, hb⟩
      have BB := Lib.hid (BB.out.trans (hb.mono BB.out.size))
      have R1 := Lib.hid (owns_below R1.out hb)
      have R2 := Lib.hid hown
      have X := Lib.hid (X.out.below hb hlx)
      have Y := Lib.hid (Y.out.below hb hly)
      have hlx : w.heap.size < w3.heap.size := X.out.lt
      have hly : w.heap.size + 1 < w3.heap.size := Y.out.lt
      clear hown hb c0 c1 c2 c3 c4 c5 c6 c7
      go_wp2
      go_ret
      exact ⟨rfl, BB.out⟩
  · have e1 : E1 = 110 := by rw [hE1]; exact if_neg hmr
    have e2 : m1 = 0 := by rw [hm1, hb1, show ntB r = [] from if_neg hmr]; rfl
    clear hmr hb1 hb2 hE1 hE2 hm1 hm2 hw0 hgy ER ES hr hs dz
    subst e1 e2
    obtain ⟨rp, rb, re, rl, rh, rf, rq, ra⟩ := r
    obtain ⟨sp, sb, se, sl, sh, sf, sq, sa⟩ := s
    go_enter Try.func6, Try.ntmps6
    go_wp2_with fail
    have hw := HW.out
    try dsimp only at hw
    rw [← hw]
    clear hw HW
    refine (AL.out _).mono ?_
    rintro e w1 ⟨rfl, hb⟩
    have BB := Lib.hid (BB.out.trans (hb.mono BB.out.size))
    have X := Lib.hid (X.out.below hb hlx)
    have Y := Lib.hid (Y.out.below hb hly)
    have hlx : w.heap.size < w1.heap.size := X.out.lt
    have hly : w.heap.size + 1 < w1.heap.size := Y.out.lt
    clear hb
    obtain ⟨c0, c1, c2, c3, c4, c5, c6, c7⟩ := X.out.rec
    go_wp2_with fail
    refine (NR.out _).mono ?_
    rintro e w2 ⟨A1, k1, rfl, hown, hb⟩
    have BB := Lib.hid (BB.out.trans (hb.mono BB.out.size))
    have R1 := Lib.hid hown
    have X := Lib.hid (X.out.below hb hlx)
    have Y := Lib.hid (Y.out.below hb hly)
    have hlx : w.heap.size < w2.heap.size := X.out.lt
    have hly : w.heap.size + 1 < w2.heap.size := Y.out.lt
    clear hown hb c0 c1 c2 c3 c4 c5 c6 c7
    obtain ⟨c0, c1, c2, c3, c4, c5, c6, c7⟩ := Y.out.rec
    go_wp2_with fail
    refine (NS.out _).mono ?_
    rintro e w3 ⟨A2, k2, rfl, hown, hb⟩
    have BB := Lib.hid (BB.out.trans (hb.mono BB.out.size))
    have R1 := Lib.hid (owns_below R1.out hb)
    have R2 := Lib.hid hown
    have X := Lib.hid (X.out.below hb hlx)
    have Y := Lib.hid (Y.out.below hb hly)
    have hlx : w.heap.size < w3.heap.size := X.out.lt
    have hly : w.heap.size + 1 < w3.heap.size := Y.out.lt
    clear hown hb c0 c1 c2 c3 c4 c5 c6 c7
    go_wp2
    go_ret
    exact ⟨rfl, BB.out⟩
end Go.Proofs.Ythoflogegopikaa
