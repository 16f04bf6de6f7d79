/- Layer 8: the document's own Got, Read. -/
import Derived.Test.YtnmlplfcdnakhaaTrkR
import Derived.Test.YtnmlplfcdnakhaaTrkP2
namespace Go.Proofs.Ytnmlplfcdnakhaa
open Go.RowKit
set_option linter.unusedVariables false

/-- What the document's Got answers: bytes, and whether they can be read. -/
def RGot (w : World) (b : Txt) (E : Int) (e : Ending) (w' : World) : Prop :=
  ∃ A c, e = .returned (.tuple #[.slice A b.length c, .bool (decide (E = 0))]) ∧ w'.ownsRow w.heap.size 5 1 (.slice A b.length c) b.length (ints .u8 b) ∧ Below w.heap.size w w'
set_option maxRecDepth 100000 in
set_option maxHeartbeats 6400000 in
theorem rgotT_any (P T A M W Q : Int) (D : Option Addr) (n c : Nat) (D' : Option Addr) (n' c' : Nat) (S : List Sec) (C : List Pnd) (p k : Int) (w : World) (hq : Dsk w D n c D' n' c' S C) (hs : SmallD S C) (hm : mayT P T A M W Q S C) (hi : isT P T p k) :
    Calls Try.prog 130 #[cfgV P T A M W Q, diskV D n c D' n' c', .int .i64 p, .int .i64 k] w (RGot w (tkB S C (atT P T A p k)) (tkE S C (atT P T A p k))) := by
  obtain ⟨x, hbel⟩ := TBox.new P T A M W Q hq
  obtain ⟨w0, hw0⟩ : ∃ x : World, x = (w.alloc (.cells #[.int .i64 P, .int .i64 T, .int .i64 A, .int .i64 M, .int .i64 W, .int .i64 Q] 74)).alloc (.cells #[.slice D n c, .slice D' n' c'] 32) := ⟨_, rfl⟩
  have hsz : w0.heap.size = w.heap.size + 1 + 1 := by rw [hw0]; simp
  rw [← hw0] at x hbel
  have X := Lib.hid x
  have B := Lib.hid hbel
  obtain ⟨c0, c1, c2, c3, c4, c5, d0, d1⟩ := x.cells
  have hsl := hq.secs.len
  have hin := at_in hm.1 hi
  have hcE := cell_at hm hi
  have OT := Lib.hid (fun w' : World => roftrack_any P T A M W Q p k w' hm.1 hi)
  rw [show fT P T A + 4 * (p * T + k) = atT P T A p k from rfl] at OT
  have hE := hm.2.2
  obtain ⟨a, ha⟩ : ∃ a : Nat, (a : Int) = atT P T A p k := ⟨(atT P T A p k).toNat, by omega⟩
  rw [← ha] at OT hcE hin ⊢
  have GT := Lib.hid (fun wx hx => rgot6_any D n c D' n' c' S C a 2 wx hx hs hm.2.1 (by decide) (by decide) (by omega))
  rw [show ((2 : Nat) : Int) = 2 from rfl] at GT
  have hby := crB_byte (S := S) (C := C) hq.secs.byte hq.pnds.byte a 2
  have e1 : crE S C a 2 = if hV 2 (optsOf S C a (2 * 2)) = 0 then 6 else 0 := by unfold crE; rw [if_pos hcE]; rfl
  have e2 : crB S C a 2 = if crE S C a 2 = 0 then hB 2 (optsOf S C a (2 * 2)) else [] := rfl
  unfold GotOut at GT
  unfold RGot tkE tkB
  obtain ⟨v, hv⟩ : ∃ v, v = hV 2 (optsOf S C a (2 * 2)) := ⟨_, rfl⟩
  obtain ⟨bb, hbb⟩ : ∃ v, v = hB 2 (optsOf S C a (2 * 2)) := ⟨_, rfl⟩
  rw [← hv, ← hbb] at GT
  rw [← hv] at e1
  rw [← hbb] at e2
  by_cases hv0 : v = 0
  · rw [if_pos hv0] at e1
    rw [e1, if_neg (by decide), if_neg (by decide)]
    subst hv0
    clear hq hs x hbel hm hi hin hcE hE ha hv hbb hby e1 e2 hsl hsz
    go_enter Try.func130, Try.ntmps130
    go_upto_region 1 with fail
    rw [← hw0]
    clear hw0
    have hcur : Below w0.heap.size w0 w0.drew := below_drewN (Below.refl _ _) 1
    have keepX : ∀ wx, Below w0.heap.size w0 wx → wx.cell? ⟨w.heap.size, 0, none⟩ = some (.int .i64 P) ∧ wx.cell? ⟨w.heap.size, 1, none⟩ = some (.int .i64 T) ∧ wx.cell? ⟨w.heap.size, 2, none⟩ = some (.int .i64 A) ∧ wx.cell? ⟨w.heap.size, 3, none⟩ = some (.int .i64 M) ∧ wx.cell? ⟨w.heap.size, 4, none⟩ = some (.int .i64 W) ∧ wx.cell? ⟨w.heap.size, 5, none⟩ = some (.int .i64 Q) ∧ wx.cell? ⟨w.heap.size + 1, 0, none⟩ = some (.slice D n c) ∧ wx.cell? ⟨w.heap.size + 1, 1, none⟩ = some (.slice D' n' c') := fun wx hx => (X.out.below hx).cells
    have hkX := keepX _ hcur
    go_region_held3 (fun w' => w'.cell? ⟨w.heap.size, 0, none⟩ = some (.int .i64 P) ∧ w'.cell? ⟨w.heap.size, 1, none⟩ = some (.int .i64 T) ∧ w'.cell? ⟨w.heap.size, 2, none⟩ = some (.int .i64 A) ∧ w'.cell? ⟨w.heap.size, 3, none⟩ = some (.int .i64 M) ∧ w'.cell? ⟨w.heap.size, 4, none⟩ = some (.int .i64 W) ∧ w'.cell? ⟨w.heap.size, 5, none⟩ = some (.int .i64 Q) ∧ w'.cell? ⟨w.heap.size + 1, 0, none⟩ = some (.slice D n c) ∧ w'.cell? ⟨w.heap.size + 1, 1, none⟩ = some (.slice D' n' c'))
      (first | exact hkX | go_keep)
      (first | (go_at_call 125; with_reducible refine (OT.out _).mono ?_; rintro e wM ⟨rfl, hbM⟩; have hcur := hcur.trans (hbM.mono hcur.size); have hkX := keepX _ hcur) | (go_at_call 103; have hM := hcur.size; with_reducible refine (GT.out _ (X.out.below hcur).dsk.dsk).mono ?_; rintro e wM ⟨AG, cG, BG, rfl, hownG, hBG, hbM⟩; have hcur := hcur.trans (hbM.mono hcur.size); have hkX := keepX _ hcur; have OG := Lib.hid hownG; have HM := Lib.hid hM; have HBG := Lib.hid hBG; clear hownG hM hBG))
    have B := Lib.hid (B.out.trans (hcur.mono B.out.size))
    obtain ⟨L, hL⟩ : ∃ L, L = BG.length := ⟨_, rfl⟩
    rw [← hL]
    obtain ⟨hmk, hown, hb⟩ := made28 wM
    have O4 := Lib.hid (owns_base hown B.out.size)
    have B := Lib.hid (B.out.trans (hb.mono B.out.size))
    clear keepX hkX hcur OG HBG hL hown hb
    go_wp2
    go_ret2
    exact ⟨_, _, by simp, O4.out, B.out⟩
  · rw [if_neg hv0] at e1
    rw [e1, if_pos rfl] at e2
    rw [e1, if_pos rfl, if_pos rfl, e2]
    rw [e2] at hby
    have hv1 : (v == 0) = false := beq_eq_false_iff_ne.2 hv0
    have hv2 : decide (v = 0) = false := decide_eq_false hv0
    have HV0 := Lib.hid hv0
    have OP := Lib.hid (fun A0 L c0 wx hx => ropen_gen A0 L c0 bb wx hx hby)
    obtain ⟨o, ho⟩ : ∃ o, o = opB bb := ⟨_, rfl⟩
    obtain ⟨E, hEE⟩ : ∃ o, o = opE bb := ⟨_, rfl⟩
    unfold txB txE
    unfold RowOut at OP
    rw [← ho, ← hEE] at OP ⊢
    obtain ⟨m, hmm⟩ : ∃ m, m = o.length := ⟨_, rfl⟩
    rw [← hmm] at OP ⊢
    have HM28 := Lib.hid hmm
    clear ho hEE hmm hby hq hs x hbel hm hi hin hcE hE ha hv hbb e1 e2 hsl hsz hv0
    by_cases h0 : E = 0
    · subst h0
      by_cases h28 : m = 28
      · subst h28
        rw [if_pos (show (0 : Int) = 0 ∧ (28 : Nat) = 28 from ⟨rfl, rfl⟩), if_pos rfl]
        go_enter Try.func130, Try.ntmps130
        go_upto_region 1 with fail
        rw [← hw0]
        clear hw0
        have hcur : Below w0.heap.size w0 w0.drew := below_drewN (Below.refl _ _) 1
        have keepX : ∀ wx, Below w0.heap.size w0 wx → wx.cell? ⟨w.heap.size, 0, none⟩ = some (.int .i64 P) ∧ wx.cell? ⟨w.heap.size, 1, none⟩ = some (.int .i64 T) ∧ wx.cell? ⟨w.heap.size, 2, none⟩ = some (.int .i64 A) ∧ wx.cell? ⟨w.heap.size, 3, none⟩ = some (.int .i64 M) ∧ wx.cell? ⟨w.heap.size, 4, none⟩ = some (.int .i64 W) ∧ wx.cell? ⟨w.heap.size, 5, none⟩ = some (.int .i64 Q) ∧ wx.cell? ⟨w.heap.size + 1, 0, none⟩ = some (.slice D n c) ∧ wx.cell? ⟨w.heap.size + 1, 1, none⟩ = some (.slice D' n' c') := fun wx hx => (X.out.below hx).cells
        have hkX := keepX _ hcur
        go_region_held3 (fun w' => w'.cell? ⟨w.heap.size, 0, none⟩ = some (.int .i64 P) ∧ w'.cell? ⟨w.heap.size, 1, none⟩ = some (.int .i64 T) ∧ w'.cell? ⟨w.heap.size, 2, none⟩ = some (.int .i64 A) ∧ w'.cell? ⟨w.heap.size, 3, none⟩ = some (.int .i64 M) ∧ w'.cell? ⟨w.heap.size, 4, none⟩ = some (.int .i64 W) ∧ w'.cell? ⟨w.heap.size, 5, none⟩ = some (.int .i64 Q) ∧ w'.cell? ⟨w.heap.size + 1, 0, none⟩ = some (.slice D n c) ∧ w'.cell? ⟨w.heap.size + 1, 1, none⟩ = some (.slice D' n' c'))
          (first | exact hkX | go_keep)
          (first | (go_at_call 125; with_reducible refine (OT.out _).mono ?_; rintro e wM ⟨rfl, hbM⟩; have hcur := hcur.trans (hbM.mono hcur.size); have hkX := keepX _ hcur) | (go_at_call 103; have hM := hcur.size; with_reducible refine (GT.out _ (X.out.below hcur).dsk.dsk).mono ?_; rintro e wM ⟨AG, cG, BG, rfl, hownG, hBG, hbM⟩; have hcur := hcur.trans (hbM.mono hcur.size); have hkX := keepX _ hcur; have OG := Lib.hid hownG; have HM := Lib.hid hM; have HBG := Lib.hid hBG; clear hownG hM hBG))
        have B := Lib.hid (B.out.trans (hcur.mono B.out.size))
        obtain ⟨L, hL⟩ : ∃ L, L = BG.length := ⟨_, rfl⟩
        rw [← hL]
        have OO := Lib.hid (show Arg wM .u8 AG L cG bb from by rw [hL]; have h := Arg.own OG.out; rwa [HBG.out HV0.out] at h ⊢)
        clear keepX hkX hcur OG HBG hL
        go_wp2_with fail
        refine (OP.out AG L cG wM OO.out).mono ?_
        rintro e w4 ⟨AO, cO, rfl, hown, hb⟩
        have O4 := Lib.hid (owns_base hown B.out.size)
        have B := Lib.hid (B.out.trans (hb.mono B.out.size))
        clear hb hown OP OO
        go_wp2
        go_ret2
        exact ⟨AO, cO, by rw [← HM28.out]; simp, by rw [← HM28.out]; exact O4.out, B.out⟩
      · have h28i : ((m : Int) != 28) = true := bne_iff_ne.2 (by omega)
        have h28j : ((m : Int) == 28) = false := beq_eq_false_iff_ne.2 (by omega)
        rw [if_neg (show ¬ ((0 : Int) = 0 ∧ m = 28) from fun h => h28 h.2), if_neg (by decide)]
        clear h28
        go_enter Try.func130, Try.ntmps130
        go_upto_region 1 with fail
        rw [← hw0]
        clear hw0
        have hcur : Below w0.heap.size w0 w0.drew := below_drewN (Below.refl _ _) 1
        have keepX : ∀ wx, Below w0.heap.size w0 wx → wx.cell? ⟨w.heap.size, 0, none⟩ = some (.int .i64 P) ∧ wx.cell? ⟨w.heap.size, 1, none⟩ = some (.int .i64 T) ∧ wx.cell? ⟨w.heap.size, 2, none⟩ = some (.int .i64 A) ∧ wx.cell? ⟨w.heap.size, 3, none⟩ = some (.int .i64 M) ∧ wx.cell? ⟨w.heap.size, 4, none⟩ = some (.int .i64 W) ∧ wx.cell? ⟨w.heap.size, 5, none⟩ = some (.int .i64 Q) ∧ wx.cell? ⟨w.heap.size + 1, 0, none⟩ = some (.slice D n c) ∧ wx.cell? ⟨w.heap.size + 1, 1, none⟩ = some (.slice D' n' c') := fun wx hx => (X.out.below hx).cells
        have hkX := keepX _ hcur
        go_region_held3 (fun w' => w'.cell? ⟨w.heap.size, 0, none⟩ = some (.int .i64 P) ∧ w'.cell? ⟨w.heap.size, 1, none⟩ = some (.int .i64 T) ∧ w'.cell? ⟨w.heap.size, 2, none⟩ = some (.int .i64 A) ∧ w'.cell? ⟨w.heap.size, 3, none⟩ = some (.int .i64 M) ∧ w'.cell? ⟨w.heap.size, 4, none⟩ = some (.int .i64 W) ∧ w'.cell? ⟨w.heap.size, 5, none⟩ = some (.int .i64 Q) ∧ w'.cell? ⟨w.heap.size + 1, 0, none⟩ = some (.slice D n c) ∧ w'.cell? ⟨w.heap.size + 1, 1, none⟩ = some (.slice D' n' c'))
          (first | exact hkX | go_keep)
          (first | (go_at_call 125; with_reducible refine (OT.out _).mono ?_; rintro e wM ⟨rfl, hbM⟩; have hcur := hcur.trans (hbM.mono hcur.size); have hkX := keepX _ hcur) | (go_at_call 103; have hM := hcur.size; with_reducible refine (GT.out _ (X.out.below hcur).dsk.dsk).mono ?_; rintro e wM ⟨AG, cG, BG, rfl, hownG, hBG, hbM⟩; have hcur := hcur.trans (hbM.mono hcur.size); have hkX := keepX _ hcur; have OG := Lib.hid hownG; have HM := Lib.hid hM; have HBG := Lib.hid hBG; clear hownG hM hBG))
        have B := Lib.hid (B.out.trans (hcur.mono B.out.size))
        obtain ⟨L, hL⟩ : ∃ L, L = BG.length := ⟨_, rfl⟩
        rw [← hL]
        have OO := Lib.hid (show Arg wM .u8 AG L cG bb from by rw [hL]; have h := Arg.own OG.out; rwa [HBG.out HV0.out] at h ⊢)
        clear keepX hkX hcur OG HBG hL
        go_wp2_with fail
        refine (OP.out AG L cG wM OO.out).mono ?_
        rintro e w4 ⟨AO, cO, rfl, hown, hb⟩
        have B := Lib.hid (B.out.trans (hb.mono B.out.size))
        clear hb hown OP OO
        go_wp2
        go_ret2
        exact ⟨none, 0, by simp, World.ownsRow_nil _ _ _ _, B.out⟩
    · have h0i : (E != 0) = true := bne_iff_ne.2 h0
      have h0j : (E == 0) = false := beq_eq_false_iff_ne.2 h0
      rw [if_neg (show ¬ (E = 0 ∧ m = 28) from fun h => h0 h.1), if_neg (by decide)]
      clear h0
      go_enter Try.func130, Try.ntmps130
      go_upto_region 1 with fail
      rw [← hw0]
      clear hw0
      have hcur : Below w0.heap.size w0 w0.drew := below_drewN (Below.refl _ _) 1
      have keepX : ∀ wx, Below w0.heap.size w0 wx → wx.cell? ⟨w.heap.size, 0, none⟩ = some (.int .i64 P) ∧ wx.cell? ⟨w.heap.size, 1, none⟩ = some (.int .i64 T) ∧ wx.cell? ⟨w.heap.size, 2, none⟩ = some (.int .i64 A) ∧ wx.cell? ⟨w.heap.size, 3, none⟩ = some (.int .i64 M) ∧ wx.cell? ⟨w.heap.size, 4, none⟩ = some (.int .i64 W) ∧ wx.cell? ⟨w.heap.size, 5, none⟩ = some (.int .i64 Q) ∧ wx.cell? ⟨w.heap.size + 1, 0, none⟩ = some (.slice D n c) ∧ wx.cell? ⟨w.heap.size + 1, 1, none⟩ = some (.slice D' n' c') := fun wx hx => (X.out.below hx).cells
      have hkX := keepX _ hcur
      go_region_held3 (fun w' => w'.cell? ⟨w.heap.size, 0, none⟩ = some (.int .i64 P) ∧ w'.cell? ⟨w.heap.size, 1, none⟩ = some (.int .i64 T) ∧ w'.cell? ⟨w.heap.size, 2, none⟩ = some (.int .i64 A) ∧ w'.cell? ⟨w.heap.size, 3, none⟩ = some (.int .i64 M) ∧ w'.cell? ⟨w.heap.size, 4, none⟩ = some (.int .i64 W) ∧ w'.cell? ⟨w.heap.size, 5, none⟩ = some (.int .i64 Q) ∧ w'.cell? ⟨w.heap.size + 1, 0, none⟩ = some (.slice D n c) ∧ w'.cell? ⟨w.heap.size + 1, 1, none⟩ = some (.slice D' n' c'))
        (first | exact hkX | go_keep)
        (first | (go_at_call 125; with_reducible refine (OT.out _).mono ?_; rintro e wM ⟨rfl, hbM⟩; have hcur := hcur.trans (hbM.mono hcur.size); have hkX := keepX _ hcur) | (go_at_call 103; have hM := hcur.size; with_reducible refine (GT.out _ (X.out.below hcur).dsk.dsk).mono ?_; rintro e wM ⟨AG, cG, BG, rfl, hownG, hBG, hbM⟩; have hcur := hcur.trans (hbM.mono hcur.size); have hkX := keepX _ hcur; have OG := Lib.hid hownG; have HM := Lib.hid hM; have HBG := Lib.hid hBG; clear hownG hM hBG))
      have B := Lib.hid (B.out.trans (hcur.mono B.out.size))
      obtain ⟨L, hL⟩ : ∃ L, L = BG.length := ⟨_, rfl⟩
      rw [← hL]
      have OO := Lib.hid (show Arg wM .u8 AG L cG bb from by rw [hL]; have h := Arg.own OG.out; rwa [HBG.out HV0.out] at h ⊢)
      clear keepX hkX hcur OG HBG hL
      go_wp2_with fail
      refine (OP.out AG L cG wM OO.out).mono ?_
      rintro e w4 ⟨AO, cO, rfl, hown, hb⟩
      have B := Lib.hid (B.out.trans (hb.mono B.out.size))
      clear hb hown OP OO
      go_wp2
      go_ret2
      exact ⟨none, 0, by simp, World.ownsRow_nil _ _ _ _, B.out⟩

set_option maxRecDepth 100000 in
set_option maxHeartbeats 6400000 in
theorem rreadT_any (P T A M W Q : Int) (D : Option Addr) (n c : Nat) (D' : Option Addr) (n' c' : Nat) (S : List Sec) (C : List Pnd) (p k : Int) (w : World) (hq : Dsk w D n c D' n' c' S C) (hs : SmallD S C) :
    Calls Try.prog 67 #[cfgV P T A M W Q, diskV D n c D' n' c', .int .i64 p, .int .i64 k] w (RowOut .u8 5 w (trB P T A M W Q S C p k) (trE P T A M W Q S C p k)) := by
  obtain ⟨x, hbel⟩ := TBox.new P T A M W Q hq
  obtain ⟨w0, hw0⟩ : ∃ x : World, x = (w.alloc (.cells #[.int .i64 P, .int .i64 T, .int .i64 A, .int .i64 M, .int .i64 W, .int .i64 Q] 74)).alloc (.cells #[.slice D n c, .slice D' n' c'] 32) := ⟨_, rfl⟩
  have hsz : w0.heap.size = w.heap.size + 1 + 1 := by rw [hw0]; simp
  rw [← hw0] at x hbel
  have X := Lib.hid x
  have B := Lib.hid hbel
  obtain ⟨c0, c1, c2, c3, c4, c5, d0, d1⟩ := x.cells
  have AK := Lib.hid (fun wx hx => rasked_any P T A M W Q D n c D' n' c' S C p k wx hx hs)
  unfold trE trB
  by_cases h0 : taE P T A M W Q S C p k = 0
  · rw [if_pos h0, if_pos h0]
    rw [h0] at AK
    have GT := Lib.hid (fun wx hx => rgotT_any P T A M W Q D n c D' n' c' S C p k wx hx hs (taE_zero h0).1 (taE_zero h0).2)
    have hor := tkE_or S C (atT P T A p k)
    have hnot := @tkB_not S C (atT P T A p k)
    unfold RGot at GT
    unfold RowOut
    obtain ⟨b, hb⟩ : ∃ b, b = tkB S C (atT P T A p k) := ⟨_, rfl⟩
    obtain ⟨E, hE⟩ : ∃ b, b = tkE S C (atT P T A p k) := ⟨_, rfl⟩
    rw [← hb, ← hE] at GT ⊢
    rw [← hE] at hor hnot
    rw [← hb] at hnot
    obtain ⟨m, hmm⟩ : ∃ m, m = b.length := ⟨_, rfl⟩
    rw [← hmm] at GT ⊢
    have HM := Lib.hid hmm
    clear hq hs x hbel h0 hb hE hmm hsz
    rcases hor with rfl | rfl
    · rw [show decide ((0 : Int) = 0) = true from rfl] at GT
      clear hnot
      go_enter Try.func67, Try.ntmps67
      go_wp2_with fail
      rw [← hw0]
      clear hw0
      refine (AK.out _ X.out.dsk.dsk).mono ?_
      rintro e w2 ⟨rfl, hb⟩
      have B := Lib.hid (B.out.trans (hb.mono B.out.size))
      have X := Lib.hid (X.out.below hb)
      clear hb c0 c1 c2 c3 c4 c5 d0 d1 AK
      obtain ⟨c0, c1, c2, c3, c4, c5, d0, d1⟩ := X.out.cells
      go_wp2_with fail
      refine (GT.out _ X.out.dsk.dsk).mono ?_
      rintro e w3 ⟨AG, cG, rfl, hown, hb⟩
      have O3 := Lib.hid (owns_base hown B.out.size)
      have B := Lib.hid (B.out.trans (hb.mono B.out.size))
      clear hb hown c0 c1 c2 c3 c4 c5 d0 d1 GT
      go_wp2
      go_ret2
      exact ⟨AG, cG, rfl, O3.out, B.out⟩
    · rw [show decide ((20 : Int) = 0) = false from rfl] at GT
      have hb0 := hnot (by decide)
      subst hb0
      obtain rfl : m = 0 := HM.out
      clear hnot
      go_enter Try.func67, Try.ntmps67
      go_wp2_with fail
      rw [← hw0]
      clear hw0
      refine (AK.out _ X.out.dsk.dsk).mono ?_
      rintro e w2 ⟨rfl, hb⟩
      have B := Lib.hid (B.out.trans (hb.mono B.out.size))
      have X := Lib.hid (X.out.below hb)
      clear hb c0 c1 c2 c3 c4 c5 d0 d1 AK
      obtain ⟨c0, c1, c2, c3, c4, c5, d0, d1⟩ := X.out.cells
      go_wp2_with fail
      refine (GT.out _ X.out.dsk.dsk).mono ?_
      rintro e w3 ⟨AG, cG, rfl, hown, hb⟩
      have O3 := Lib.hid (owns_base hown B.out.size)
      have B := Lib.hid (B.out.trans (hb.mono B.out.size))
      clear hb hown c0 c1 c2 c3 c4 c5 d0 d1 GT
      go_wp2
      go_ret2
      exact ⟨none, 0, rfl, World.ownsRow_nil _ _ _ _, B.out⟩
  · rw [if_neg h0, if_neg h0]
    obtain ⟨E, hE⟩ : ∃ b, b = taE P T A M W Q S C p k := ⟨_, rfl⟩
    rw [← hE] at AK h0 ⊢
    have h1 : (E != 0) = true := bne_iff_ne.2 h0
    have h2 : (E == 0) = false := beq_eq_false_iff_ne.2 h0
    clear hq hs x hbel h0 hE hsz
    go_enter Try.func67, Try.ntmps67
    go_wp2_with fail
    rw [← hw0]
    clear hw0
    refine (AK.out _ X.out.dsk.dsk).mono ?_
    rintro e w2 ⟨rfl, hb⟩
    have B := Lib.hid (B.out.trans (hb.mono B.out.size))
    clear hb c0 c1 c2 c3 c4 c5 d0 d1 AK
    go_wp2
    go_ret2
    exact ⟨none, 0, rfl, World.ownsRow_nil _ _ _ _, B.out⟩

end Go.Proofs.Ytnmlplfcdnakhaa
