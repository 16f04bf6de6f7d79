/- Layer 4, RingTells: the walk: a new queue, a copy, and whether two are the same: the program's answers and the document's. -/
import Derived.Test.YtbbnfbclbhkneaaRingW
namespace Go.Proofs.Ytbbnfbclbhkneaa
open Go.RowKit
set_option linter.unusedVariables false

set_option maxRecDepth 100000 in
set_option maxHeartbeats 6400000 in
theorem tells_of (P : RingDoes) (a0 : Option Addr) (len0 cap0 : Nat) (h0 m0 : Int) (z0 : List (List Int)) (a1 : Option Addr) (len1 cap1 : Nat) (h1 m1 : Int) (z1 : List (List Int)) (a2 : Int) (w : World) (w0a : Texts w a0 len0 cap0 z0) (w1a : Texts w a1 len1 cap1 z1) :
    Calls Try.prog 5 #[queueV a0 len0 cap0 h0 m0, queueV a1 len1 cap1 h1 m1, .int .i64 a2] w fun e w' => e = .returned (.bool true) ∧ Below w.heap.size w w' := by
  have PP := Lib.hid P
  obtain ⟨x1, x2, hbel⟩ := boxes2 w a0 len0 cap0 h0 m0 a1 len1 cap1 h1 m1
  have XA := Lib.hid (show QBox _ w.heap.size a0 len0 cap0 h0 m0 z0 from ⟨x1, w0a.below hbel⟩)
  have XB := Lib.hid (show QBox _ (w.heap.size + 1) a1 len1 cap1 h1 m1 z1 from ⟨x2, w1a.below hbel⟩)
  have B2 := Lib.hid hbel
  have G1 := great_any a0 len0 cap0 h0 m0 z0 _ (w0a.below hbel)
  obtain ⟨c0, c1, c2⟩ := XA.out.cells
  obtain ⟨d0, d1, d2⟩ := XB.out.cells
  clear P x1 x2 hbel w0a w1a
  cases hg1 : greatB z0 with
  | true =>
    rw [hg1] at G1
    have G1 := Lib.hid G1
    clear hg1
    go_enter Try.func5, Try.ntmps5
    go_wp2_with fail
    refine G1.out.mono ?_
    rintro e w3 ⟨rfl, hb3⟩
    have B3 := Lib.hid (B2.out.trans (hb3.mono B2.out.size))
    clear hb3
    go_wp2
    go_ret
    exact ⟨rfl, B3.out⟩
  | false =>
    rw [hg1] at G1
    have G1 := Lib.hid G1
    have SA := Lib.hid (small_of hg1)
    clear hg1
    cases hg2 : greatB z1 with
    | true =>
      go_enter Try.func5, Try.ntmps5
      go_wp2_with fail
      refine G1.out.mono ?_
      rintro e w3 ⟨rfl, hb3⟩
      have B3 := Lib.hid (B2.out.trans (hb3.mono B2.out.size))
      have XB := Lib.hid (XB.out.below hb3)
      obtain ⟨d0, d1, d2⟩ := XB.out.cells
      clear hb3 c0 c1 c2
      have G2 := great_any a1 len1 cap1 h1 m1 z1 w3 XB.out.txt
      rw [hg2] at G2
      have G2 := Lib.hid G2
      clear hg2
      go_wp2_with fail
      refine G2.out.mono ?_
      rintro e w4 ⟨rfl, hb4⟩
      have B4 := Lib.hid (B3.out.trans (hb4.mono B3.out.size))
      clear hb4
      go_wp2
      go_ret
      exact ⟨rfl, B4.out⟩
    | false =>
      have SB := Lib.hid (small_of hg2)
      go_enter Try.func5, Try.ntmps5
      go_wp2_with fail
      refine G1.out.mono ?_
      rintro e w3 ⟨rfl, hb3⟩
      have B3 := Lib.hid (B2.out.trans (hb3.mono B2.out.size))
      have XA := Lib.hid (XA.out.below hb3)
      have XB := Lib.hid (XB.out.below hb3)
      clear hb3 c0 c1 c2 d0 d1 d2
      obtain ⟨d0, d1, d2⟩ := XB.out.cells
      have G2 := great_any a1 len1 cap1 h1 m1 z1 w3 XB.out.txt
      rw [hg2] at G2
      have G2 := Lib.hid G2
      clear hg2
      go_wp2_with fail
      refine G2.out.mono ?_
      rintro e w4 ⟨rfl, hb4⟩
      have B4 := Lib.hid (B3.out.trans (hb4.mono B3.out.size))
      have XA := Lib.hid (XA.out.below hb4)
      have XB := Lib.hid (XB.out.below hb4)
      clear hb4 d0 d1 d2
      obtain ⟨c0, c1, c2⟩ := XA.out.cells
      have T := Lib.hid (twin_any a0 len0 cap0 h0 m0 z0 w4 XA.out.txt SA.out)
      go_wp2_with fail
      refine T.out.mono ?_
      rintro e w5 ⟨AO, cO, rfl, hown, hb5⟩
      have B5 := B4.out.trans (hb5.mono B4.out.size)
      have XA := XA.out.below hb5
      have XB := XB.out.below hb5
      have XO := QBox.new h0 m0 (Texts.of_own hown)
      clear c0 c1 c2 T hown hb5
      have N1 := PP.out.new a2 (w5.alloc (.cells #[.slice AO len0 cO, .int .i64 h0, .int .i64 m0] 24))
      have N2 := fun wx => rnew_any a2 wx
      have SI := Lib.hid (newI_small a2)
      obtain ⟨I, hI⟩ : ∃ I, I = newI a2 := ⟨_, rfl⟩
      obtain ⟨E, hE⟩ : ∃ E, E = newE a2 := ⟨_, rfl⟩
      rw [← hI, ← hE] at N1 N2
      rw [← hI] at SI
      obtain ⟨nI, hnI⟩ : ∃ nI, nI = I.length := ⟨_, rfl⟩
      have HNI := Lib.hid hnI
      have XA := Lib.hid (XA.alloc (.cells #[.slice AO len0 cO, .int .i64 h0, .int .i64 m0] 24))
      have XB := Lib.hid (XB.alloc (.cells #[.slice AO len0 cO, .int .i64 h0, .int .i64 m0] 24))
      have B6 := Lib.hid (B5.alloc B5.size (.cells #[.slice AO len0 cO, .int .i64 h0, .int .i64 m0] 24))
      have XO := Lib.hid XO
      have N1 := Lib.hid N1
      have N2 := Lib.hid N2
      clear B5 hI hE hnI
      go_wp2_with fail
      refine N1.out.mono ?_
      rintro e w7 ⟨AX, cX, rfl, hown, hb7⟩
      rw [← HNI.out] at hown ⊢
      have B7 := B6.out.trans (hb7.mono B6.out.size)
      have XA := XA.out.below hb7
      have XB := XB.out.below hb7
      have XO := XO.out.below hb7
      have XX := QBox.new 0 0 (Texts.of_own hown)
      obtain ⟨BO, hBO⟩ : ∃ BO, BO = w5.heap.size := ⟨_, rfl⟩
      rw [← hBO] at XO ⊢
      clear N1 hown hb7 hBO B6
      have XA := Lib.hid (XA.alloc (.cells #[.slice AX nI cX, .int .i64 0, .int .i64 0] 24))
      have XB := Lib.hid (XB.alloc (.cells #[.slice AX nI cX, .int .i64 0, .int .i64 0] 24))
      have XO := Lib.hid (XO.alloc (.cells #[.slice AX nI cX, .int .i64 0, .int .i64 0] 24))
      have XX := Lib.hid XX
      have B8 := Lib.hid (B7.alloc B7.size (.cells #[.slice AX nI cX, .int .i64 0, .int .i64 0] 24))
      have N2 := Lib.hid (N2.out (w7.alloc (.cells #[.slice AX nI cX, .int .i64 0, .int .i64 0] 24)))
      clear B7
      go_wp2_with fail
      refine N2.out.mono ?_
      rintro e w9 ⟨AY, cY, rfl, hown, hb9⟩
      rw [← HNI.out] at hown ⊢
      have B9 := B8.out.trans (hb9.mono B8.out.size)
      have XA := XA.out.below hb9
      have XB := XB.out.below hb9
      have XO := XO.out.below hb9
      have XX := XX.out.below hb9
      have XY := QBox.new 0 0 (Texts.of_own hown)
      obtain ⟨BX, hBX⟩ : ∃ BX, BX = w7.heap.size := ⟨_, rfl⟩
      rw [← hBX] at XX ⊢
      clear N2 hown hb9 hBX B8
      have XA := Lib.hid (XA.alloc (.cells #[.slice AY nI cY, .int .i64 0, .int .i64 0] 24))
      have XB := Lib.hid (XB.alloc (.cells #[.slice AY nI cY, .int .i64 0, .int .i64 0] 24))
      have XO := Lib.hid (XO.alloc (.cells #[.slice AY nI cY, .int .i64 0, .int .i64 0] 24))
      have XX := Lib.hid (XX.alloc (.cells #[.slice AY nI cY, .int .i64 0, .int .i64 0] 24))
      have XY := Lib.hid XY
      have B10 := Lib.hid (B9.alloc B9.size (.cells #[.slice AY nI cY, .int .i64 0, .int .i64 0] 24))
      have B10z := Lib.hid B10.out.size
      have XO10 := Lib.hid XO.out
      have XA10 := Lib.hid XA.out
      have T := Lib.hid (PP.out.twin AO len0 cO h0 m0 z0 _ XO.out.txt SA.out)
      obtain ⟨o0, o1, o2⟩ := XO.out.cells
      clear B9
      go_wp2_with fail
      refine T.out.mono ?_
      rintro e w11 ⟨AT, cT, rfl, hown, hb11⟩
      have B11 := B10.out.trans (hb11.mono B10.out.size)
      have XA := XA.out.below hb11
      have XB := XB.out.below hb11
      have XO := XO.out.below hb11
      have XX := XX.out.below hb11
      have XY := XY.out.below hb11
      have XT := QBox.new h0 m0 (Texts.of_own hown)
      have C12 := hb11.alloc hb11.size (.cells #[.slice AT len0 cT, .int .i64 h0, .int .i64 m0] 24)
      have hzT := World.size_alloc w9 (.cells #[.slice AY nI cY, .int .i64 0, .int .i64 0] 24)
      obtain ⟨BY, hBY⟩ : ∃ BY, BY = w9.heap.size := ⟨_, rfl⟩
      have HZ10 := Lib.hid hzT
      rw [← hBY] at XY hzT ⊢
      rw [← hBY] at HZ10
      have HO := hown.below (show Below w11.heap.size w11 (w11.alloc (.cells #[.slice AT len0 cT, .int .i64 h0, .int .i64 m0] 24)) from (Below.refl _ _).alloc (Nat.le_refl _) _)
      rw [hzT] at HO
      have hzT2 : BY + 1 ≤ w11.heap.size := by rw [← hzT]; exact hb11.size
      clear T hown hb11 hBY B10 hzT
      have XA := Lib.hid (XA.alloc (.cells #[.slice AT len0 cT, .int .i64 h0, .int .i64 m0] 24))
      have XB := Lib.hid (XB.alloc (.cells #[.slice AT len0 cT, .int .i64 h0, .int .i64 m0] 24))
      have XO := Lib.hid (XO.alloc (.cells #[.slice AT len0 cT, .int .i64 h0, .int .i64 m0] 24))
      have XX := Lib.hid (XX.alloc (.cells #[.slice AT len0 cT, .int .i64 h0, .int .i64 m0] 24))
      have XY := Lib.hid (XY.alloc (.cells #[.slice AT len0 cT, .int .i64 h0, .int .i64 m0] 24))
      have XT := Lib.hid XT
      have HO := Lib.hid HO
      have B12 := Lib.hid (B11.alloc B11.size (.cells #[.slice AT len0 cT, .int .i64 h0, .int .i64 m0] 24))
      clear B11 o0 o1 o2
      go_wp2
      obtain ⟨BT, hBT⟩ : ∃ BT, BT = w11.heap.size := ⟨_, rfl⟩
      rw [← hBT] at XT hzT2 ⊢
      obtain ⟨w12, hw12⟩ : ∃ x : World, x = w11.alloc (.cells #[.slice AT len0 cT, .int .i64 h0, .int .i64 m0] 24) := ⟨_, rfl⟩
      rw [← hw12] at XA XB XO XX XY XT HO B12 C12 ⊢
      have C12 := Lib.hid C12
      clear hBT hw12
      have hcur : Below w12.heap.size w12 w12.drew := below_drewN (Below.refl _ _) 1
      have keepX : ∀ wx, Below w12.heap.size w12 wx → wx.cell? ⟨BO, 0, none⟩ = some (.slice AO len0 cO) ∧ wx.cell? ⟨BO, 1, none⟩ = some (.int .i64 h0) ∧ wx.cell? ⟨BO, 2, none⟩ = some (.int .i64 m0) ∧ wx.cell? ⟨BX, 0, none⟩ = some (.slice AX nI cX) ∧ wx.cell? ⟨BX, 1, none⟩ = some (.int .i64 0) ∧ wx.cell? ⟨BX, 2, none⟩ = some (.int .i64 0) ∧ wx.cell? ⟨BY, 0, none⟩ = some (.slice AY nI cY) ∧ wx.cell? ⟨BY, 1, none⟩ = some (.int .i64 0) ∧ wx.cell? ⟨BY, 2, none⟩ = some (.int .i64 0) ∧ wx.cell? ⟨BT, 0, none⟩ = some (.slice AT len0 cT) ∧ wx.cell? ⟨BT, 1, none⟩ = some (.int .i64 h0) ∧ wx.cell? ⟨BT, 2, none⟩ = some (.int .i64 m0) ∧ wx.cell? ⟨w.heap.size, 0, none⟩ = some (.slice a0 len0 cap0) ∧ wx.cell? ⟨w.heap.size, 1, none⟩ = some (.int .i64 h0) ∧ wx.cell? ⟨w.heap.size, 2, none⟩ = some (.int .i64 m0) ∧ wx.cell? ⟨w.heap.size + 1, 0, none⟩ = some (.slice a1 len1 cap1) ∧ wx.cell? ⟨w.heap.size + 1, 1, none⟩ = some (.int .i64 h1) ∧ wx.cell? ⟨w.heap.size + 1, 2, none⟩ = some (.int .i64 m1) := fun wx hx => by
        obtain ⟨u00, u01, u02⟩ := (XO.out.below hx).cells
        obtain ⟨u10, u11, u12⟩ := (XX.out.below hx).cells
        obtain ⟨u20, u21, u22⟩ := (XY.out.below hx).cells
        obtain ⟨u30, u31, u32⟩ := (XT.out.below hx).cells
        obtain ⟨u40, u41, u42⟩ := (XA.out.below hx).cells
        obtain ⟨u50, u51, u52⟩ := (XB.out.below hx).cells
        exact ⟨u00, u01, u02, u10, u11, u12, u20, u21, u22, u30, u31, u32, u40, u41, u42, u50, u51, u52⟩
      have hkX := keepX _ hcur
      have hs1 := sameB_self I 0 0
      have hs2 := sameB_self z0 h0 m0
      obtain ⟨R, hR⟩ : ∃ R, sameB z0 h0 m0 z1 h1 m1 = R := ⟨_, rfl⟩
      have hn0 := XA.out.txt.len
      have hsm := SA.out.many
      rw [hn0] at hsm
      clear hn0
      go_region_held3 (fun w' => w'.cell? ⟨BO, 0, none⟩ = some (.slice AO len0 cO) ∧ w'.cell? ⟨BO, 1, none⟩ = some (.int .i64 h0) ∧ w'.cell? ⟨BO, 2, none⟩ = some (.int .i64 m0) ∧ w'.cell? ⟨BX, 0, none⟩ = some (.slice AX nI cX) ∧ w'.cell? ⟨BX, 1, none⟩ = some (.int .i64 0) ∧ w'.cell? ⟨BX, 2, none⟩ = some (.int .i64 0) ∧ w'.cell? ⟨BY, 0, none⟩ = some (.slice AY nI cY) ∧ w'.cell? ⟨BY, 1, none⟩ = some (.int .i64 0) ∧ w'.cell? ⟨BY, 2, none⟩ = some (.int .i64 0) ∧ w'.cell? ⟨BT, 0, none⟩ = some (.slice AT len0 cT) ∧ w'.cell? ⟨BT, 1, none⟩ = some (.int .i64 h0) ∧ w'.cell? ⟨BT, 2, none⟩ = some (.int .i64 m0) ∧ w'.cell? ⟨w.heap.size, 0, none⟩ = some (.slice a0 len0 cap0) ∧ w'.cell? ⟨w.heap.size, 1, none⟩ = some (.int .i64 h0) ∧ w'.cell? ⟨w.heap.size, 2, none⟩ = some (.int .i64 m0) ∧ w'.cell? ⟨w.heap.size + 1, 0, none⟩ = some (.slice a1 len1 cap1) ∧ w'.cell? ⟨w.heap.size + 1, 1, none⟩ = some (.int .i64 h1) ∧ w'.cell? ⟨w.heap.size + 1, 2, none⟩ = some (.int .i64 m1))
        (first | exact hkX | go_keep)
        (first
          | (go_at_call 18; refine (same_any _ _ _ _ _ _ _ _ _ _ _ _ _ (by first | exact (XX.out.below hcur).txt | exact (XT.out.below hcur).txt | exact (XA.out.below hcur).txt) (by first | exact (XY.out.below hcur).txt | exact (XA.out.below hcur).txt | exact (XB.out.below hcur).txt)).mono ?_; rintro e wN ⟨rfl, hbN⟩; have hcur := hcur.trans (hbN.mono hcur.size); have hkX := keepX _ hcur)
          | (go_at_call 24; refine (PP.out.same _ _ _ _ _ _ _ _ _ _ _ _ _ (by first | exact (XO.out.below hcur).txt) (by first | exact (XB.out.below hcur).txt | exact (XA.out.below hcur).txt) (by first | exact SA.out | exact SB.out) (by first | exact SA.out | exact SB.out)).mono ?_; rintro e wN ⟨rfl, hbN⟩; have hcur := hcur.trans (hbN.mono hcur.size); have hkX := keepX _ hcur))
      have HCUR := Lib.hid hcur
      have HO2 := Lib.hid (HO.out.below hcur)
      obtain ⟨t0, _, _⟩ := (XT.out.below hcur).cells
      have hbt := (XT.out.below hcur).lt
      clear hcur hkX keepX hbN
      have SP := Lib.hid (spoil_any AT len0 cT (BY + 1) z0 wN HO2.out (by have := HCUR.out.size; have := C12.out.size; have := HZ10.out; omega) hsm (SA.out.at_))
      have B13 := Lib.hid (B12.out.trans (HCUR.out.mono B12.out.size))
      go_wp2_with fail
      refine SP.out.mono ?_
      rintro e wM ⟨rfl, hbM⟩
      have hD := (C12.out.trans (HCUR.out.mono C12.out.size)).trans (show Below (w9.alloc (.cells #[.slice AY nI cY, .int .i64 0, .int .i64 0] 24)).heap.size wN wM by rw [HZ10.out]; exact hbM)
      have XO := XO10.out.below hD
      have XA := XA10.out.below hD
      have BM := Lib.hid (B13.out.trans (hbM.mono (by have h1 := B10z.out; have h2 := HZ10.out; omega)))
      obtain ⟨o0, o1, o2⟩ := XO.cells
      obtain ⟨c0, c1, c2⟩ := XA.cells
      have K6 := same_any AO len0 cO h0 m0 z0 a0 len0 cap0 h0 m0 z0 wM XO.txt XA.txt
      rw [sameB_self] at K6
      have K6 := Lib.hid K6
      clear hbM hD t0 hbt
      go_wp2_with fail
      refine K6.out.mono ?_
      rintro e wZ ⟨rfl, hbZ⟩
      have BZ := Lib.hid (BM.out.trans (hbZ.mono BM.out.size))
      clear hbZ
      go_wp2
      go_ret
      exact ⟨rfl, BZ.out⟩

end Go.Proofs.Ytbbnfbclbhkneaa
