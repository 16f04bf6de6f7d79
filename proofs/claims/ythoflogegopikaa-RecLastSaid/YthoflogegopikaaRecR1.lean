/- Layer 11: the document's Check, Row, Note, Gone. -/
import Derived.Test.YthoflogegopikaaRecR
namespace Go.Proofs.Ythoflogegopikaa
open Go.RowKit
set_option linter.unusedVariables false

theorem wrapw64 (v : Int) (h0 : 0 ≤ v) (h : v < 18446744073709551616) : IntKind.u64.wrap v = v := by simp [IntKind.wrap_u64]; omega
theorem wrapw8 {v : Int} (h0 : 0 ≤ v) (h : v < 256) : IntKind.u8.wrap v = v := by simp [IntKind.wrap_u8]; omega
theorem rcheck11_any (r : Rc) (w : World) : Calls Try.prog 17 #[recV r] w fun e w' => e = .returned (.int .i64 (rcE r)) ∧ Below w.heap.size w w' := by
  obtain ⟨x, hbel⟩ := rec_box w r
  obtain ⟨c0, c1, c2, c3, c4, c5, c6, c7⟩ := x.rec
  have BEL := Lib.hid hbel
  by_cases hm : mayR r
  · rw [show rcE r = 0 from if_pos hm]
    have M := Lib.hid (fun wx => may_yes r wx hm)
    clear x hbel hm
    go_enter Try.func17, Try.ntmps17
    go_wp2_with fail
    refine (M.out _).mono ?_
    rintro e w1 ⟨rfl, hb⟩
    have B := Lib.hid (BEL.out.trans (hb.mono BEL.out.size))
    clear hb
    go_wp2
    go_ret
    exact ⟨rfl, B.out⟩
  · rw [show rcE r = 110 from if_neg hm]
    have M := Lib.hid (fun wx => may_no r wx hm)
    clear x hbel hm
    go_enter Try.func17, Try.ntmps17
    go_wp2_with fail
    refine (M.out _).mono ?_
    rintro e w1 ⟨rfl, hb⟩
    have B := Lib.hid (BEL.out.trans (hb.mono BEL.out.size))
    clear hb
    go_wp2
    go_ret
    exact ⟨rfl, B.out⟩

set_option maxRecDepth 100000 in
set_option maxHeartbeats 3200000 in
theorem rrow11_any (r : Rc) (w : World) (hi : isR r) (hm : mayR r) : Calls Try.prog 37 #[recV r] w fun e w' => ∃ A c, e = .returned (.slice A 14 c) ∧ w'.ownsRow w.heap.size 5 1 (.slice A 14 c) 14 (ints .u8 (recT r)) ∧ Below w.heap.size w w' := by
  have hT : recT r = rowTo (numsR r) sz8R 8 := rfl
  have hl := recT_length r
  obtain ⟨⟨m1, m2, m3, m4, m5, m6, m7, m8⟩, ⟨m9, m10⟩, _⟩ := hm
  obtain ⟨⟨i1, i2⟩, ⟨i3, i4⟩, _⟩ := hi
  have hfl := flagR_le r
  have hw : ∀ z ∈ numsR r, isWord z := by
    intro z hz
    unfold numsR at hz
    simp only [List.mem_cons, List.not_mem_nil, or_false] at hz
    unfold isWord
    rcases hz with rfl | rfl | rfl | rfl | rfl | rfl | rfl | rfl <;> omega
  obtain ⟨p, b, e, l, h, f, q, a⟩ := r
  dsimp only at m1 m2 m3 m4 m5 m6 m7 m8 m9 m10 i1 i2 i3 i4
  have e1 : IntKind.u64.wrap p = p := wrapw64 p m1 (by omega)
  have e2 : IntKind.u64.wrap b = b := wrapw64 b (by omega) (by omega)
  have e3 : IntKind.u64.wrap e = e := wrapw64 e (by omega) (by omega)
  have e4 : IntKind.u64.wrap l = l := wrapw64 l m5 (by omega)
  have e5 : IntKind.u64.wrap h = h := wrapw64 h (by omega) (by omega)
  have e6 : IntKind.u64.wrap f = f := wrapw64 f m7 (by omega)
  obtain ⟨T, hTT⟩ : ∃ T, T = recT ⟨p, b, e, l, h, f, q, a⟩ := ⟨_, rfl⟩
  rw [← hTT] at hl ⊢
  rw [← hTT] at hT
  obtain ⟨x, hbel⟩ := rec_box w ⟨p, b, e, l, h, f, q, a⟩
  obtain ⟨c0, c1, c2, c3, c4, c5, c6, c7⟩ := x.rec
  obtain ⟨w0, hw0⟩ : ∃ x, x = w.alloc (.cells #[.int .i64 p, .int .u32 b, .int .u32 e, .int .i64 l, .int .u8 h, .int .i64 f, .bool q, .bool a] 24) := ⟨_, rfl⟩
  dsimp only at c0 c1 c2 c3 c4 c5 c6 c7
  clear m1 m2 m3 m4 m5 m6 m7 m8 m9 m10 i1 i2 i3 i4 x hTT
  cases q <;> cases a
  · have hb1 : Below w0.heap.size w0 (w0.alloc (.cells #[.int .u64 1, .int .u64 p, .int .u64 b, .int .u64 e, .int .u64 l, .int .u64 h, .int .u64 f, .int .u64 0] 61)) := (Below.refl _ _).alloc (Nat.le_refl _) _
    obtain ⟨w1, hw1⟩ : ∃ x, x = w0.alloc (.cells #[.int .u64 1, .int .u64 p, .int .u64 b, .int .u64 e, .int .u64 l, .int .u64 h, .int .u64 f, .int .u64 0] 61) := ⟨_, rfl⟩
    have hL := lit_row w0 61 .u64 [1, p, b, e, l, h, f, 0] _ w0.heap.size w1.heap.size rfl rfl (by rw [hw1]; simp)
    change Seq (w0.alloc (.cells #[.int .u64 1, .int .u64 p, .int .u64 b, .int .u64 e, .int .u64 l, .int .u64 h, .int .u64 f, .int .u64 0] 61)) _ _ _ at hL
    rw [← hw1] at hb1 hL
    have hb2 : Below w1.heap.size w1 (w1.alloc (.cells #[.int .i64 1, .int .i64 1, .int .i64 4, .int .i64 4, .int .i64 1, .int .i64 1, .int .i64 1, .int .i64 1] 3)) := (Below.refl _ _).alloc (Nat.le_refl _) _
    have hZ := lit_row w1 3 .i64 sz8R _ w1.heap.size (w1.alloc (.cells #[.int .i64 1, .int .i64 1, .int .i64 4, .int .i64 4, .int .i64 1, .int .i64 1, .int .i64 1, .int .i64 1] 3)).heap.size rfl rfl (by simp)
    change Seq (w1.alloc (.cells #[.int .i64 1, .int .i64 1, .int .i64 4, .int .i64 4, .int .i64 1, .int .i64 1, .int .i64 1, .int .i64 1] 3)) _ _ _ at hZ
    obtain ⟨w2, hw2⟩ : ∃ x, x = w1.alloc (.cells #[.int .i64 1, .int .i64 1, .int .i64 4, .int .i64 4, .int .i64 1, .int .i64 1, .int .i64 1, .int .i64 1] 3) := ⟨_, rfl⟩
    rw [← hw2] at hb2 hZ
    have hL2 := (hL.below hb2).more hb2.size
    have RW := Lib.hid (row_any (some ⟨w0.heap.size, 0, none⟩) (some ⟨w1.heap.size, 0, none⟩) 8 8 8 [1, p, b, e, l, h, f, 0] sz8R w2 hZ okB_sz8R hL2 rfl rfl hw)
    have hs0 : w0.heap.size = w.heap.size + 1 := by rw [hw0]; simp
    have hs1 : w1.heap.size = w.heap.size + 1 + 1 := by rw [hw1, World.size_alloc, hs0]
    have HB := Lib.hid (show Below w.heap.size w w2 by
      rw [← hw0] at hbel
      exact (hbel.trans (hb1.mono hbel.size)).trans (hb2.mono (by have := hbel.size; have := hb1.size; omega)))
    rw [show rowTo [1, p, b, e, l, h, f, 0] sz8R 8 = T from hT.symm, hs0, hs1] at RW
    clear hL hL2 hZ hb1 hb2 hbel hs0 hs1 hfl hw hT
    go_enter Try.func37, Try.ntmps37
    go_wp2_with fail
    rw [← hw0, ← hw1, ← hw2]
    refine RW.out.mono ?_
    rintro e w3 ⟨A3, c3, rfl, hown, hb3⟩
    rw [hl] at hown ⊢
    have B := Lib.hid (HB.out.trans (hb3.mono HB.out.size))
    have O := Lib.hid (owns_base hown HB.out.size)
    clear hown hb3 RW hw0 hw1 hw2 c0 c1 c2 c4 c5 c6 c7
    go_wp2
    go_ret
    exact ⟨A3, c3, rfl, O.out, B.out⟩
  · have hb1 : Below w0.heap.size w0 (w0.alloc (.cells #[.int .u64 1, .int .u64 p, .int .u64 b, .int .u64 e, .int .u64 l, .int .u64 h, .int .u64 f, .int .u64 1] 61)) := (Below.refl _ _).alloc (Nat.le_refl _) _
    obtain ⟨w1, hw1⟩ : ∃ x, x = w0.alloc (.cells #[.int .u64 1, .int .u64 p, .int .u64 b, .int .u64 e, .int .u64 l, .int .u64 h, .int .u64 f, .int .u64 1] 61) := ⟨_, rfl⟩
    have hL := lit_row w0 61 .u64 [1, p, b, e, l, h, f, 1] _ w0.heap.size w1.heap.size rfl rfl (by rw [hw1]; simp)
    change Seq (w0.alloc (.cells #[.int .u64 1, .int .u64 p, .int .u64 b, .int .u64 e, .int .u64 l, .int .u64 h, .int .u64 f, .int .u64 1] 61)) _ _ _ at hL
    rw [← hw1] at hb1 hL
    have hb2 : Below w1.heap.size w1 (w1.alloc (.cells #[.int .i64 1, .int .i64 1, .int .i64 4, .int .i64 4, .int .i64 1, .int .i64 1, .int .i64 1, .int .i64 1] 3)) := (Below.refl _ _).alloc (Nat.le_refl _) _
    have hZ := lit_row w1 3 .i64 sz8R _ w1.heap.size (w1.alloc (.cells #[.int .i64 1, .int .i64 1, .int .i64 4, .int .i64 4, .int .i64 1, .int .i64 1, .int .i64 1, .int .i64 1] 3)).heap.size rfl rfl (by simp)
    change Seq (w1.alloc (.cells #[.int .i64 1, .int .i64 1, .int .i64 4, .int .i64 4, .int .i64 1, .int .i64 1, .int .i64 1, .int .i64 1] 3)) _ _ _ at hZ
    obtain ⟨w2, hw2⟩ : ∃ x, x = w1.alloc (.cells #[.int .i64 1, .int .i64 1, .int .i64 4, .int .i64 4, .int .i64 1, .int .i64 1, .int .i64 1, .int .i64 1] 3) := ⟨_, rfl⟩
    rw [← hw2] at hb2 hZ
    have hL2 := (hL.below hb2).more hb2.size
    have RW := Lib.hid (row_any (some ⟨w0.heap.size, 0, none⟩) (some ⟨w1.heap.size, 0, none⟩) 8 8 8 [1, p, b, e, l, h, f, 1] sz8R w2 hZ okB_sz8R hL2 rfl rfl hw)
    have hs0 : w0.heap.size = w.heap.size + 1 := by rw [hw0]; simp
    have hs1 : w1.heap.size = w.heap.size + 1 + 1 := by rw [hw1, World.size_alloc, hs0]
    have HB := Lib.hid (show Below w.heap.size w w2 by
      rw [← hw0] at hbel
      exact (hbel.trans (hb1.mono hbel.size)).trans (hb2.mono (by have := hbel.size; have := hb1.size; omega)))
    rw [show rowTo [1, p, b, e, l, h, f, 1] sz8R 8 = T from hT.symm, hs0, hs1] at RW
    clear hL hL2 hZ hb1 hb2 hbel hs0 hs1 hfl hw hT
    go_enter Try.func37, Try.ntmps37
    go_wp2_with fail
    rw [← hw0, ← hw1, ← hw2]
    refine RW.out.mono ?_
    rintro e w3 ⟨A3, c3, rfl, hown, hb3⟩
    rw [hl] at hown ⊢
    have B := Lib.hid (HB.out.trans (hb3.mono HB.out.size))
    have O := Lib.hid (owns_base hown HB.out.size)
    clear hown hb3 RW hw0 hw1 hw2 c0 c1 c2 c4 c5 c6 c7
    go_wp2
    go_ret
    exact ⟨A3, c3, rfl, O.out, B.out⟩
  · have hb1 : Below w0.heap.size w0 (w0.alloc (.cells #[.int .u64 1, .int .u64 p, .int .u64 b, .int .u64 e, .int .u64 l, .int .u64 h, .int .u64 f, .int .u64 2] 61)) := (Below.refl _ _).alloc (Nat.le_refl _) _
    obtain ⟨w1, hw1⟩ : ∃ x, x = w0.alloc (.cells #[.int .u64 1, .int .u64 p, .int .u64 b, .int .u64 e, .int .u64 l, .int .u64 h, .int .u64 f, .int .u64 2] 61) := ⟨_, rfl⟩
    have hL := lit_row w0 61 .u64 [1, p, b, e, l, h, f, 2] _ w0.heap.size w1.heap.size rfl rfl (by rw [hw1]; simp)
    change Seq (w0.alloc (.cells #[.int .u64 1, .int .u64 p, .int .u64 b, .int .u64 e, .int .u64 l, .int .u64 h, .int .u64 f, .int .u64 2] 61)) _ _ _ at hL
    rw [← hw1] at hb1 hL
    have hb2 : Below w1.heap.size w1 (w1.alloc (.cells #[.int .i64 1, .int .i64 1, .int .i64 4, .int .i64 4, .int .i64 1, .int .i64 1, .int .i64 1, .int .i64 1] 3)) := (Below.refl _ _).alloc (Nat.le_refl _) _
    have hZ := lit_row w1 3 .i64 sz8R _ w1.heap.size (w1.alloc (.cells #[.int .i64 1, .int .i64 1, .int .i64 4, .int .i64 4, .int .i64 1, .int .i64 1, .int .i64 1, .int .i64 1] 3)).heap.size rfl rfl (by simp)
    change Seq (w1.alloc (.cells #[.int .i64 1, .int .i64 1, .int .i64 4, .int .i64 4, .int .i64 1, .int .i64 1, .int .i64 1, .int .i64 1] 3)) _ _ _ at hZ
    obtain ⟨w2, hw2⟩ : ∃ x, x = w1.alloc (.cells #[.int .i64 1, .int .i64 1, .int .i64 4, .int .i64 4, .int .i64 1, .int .i64 1, .int .i64 1, .int .i64 1] 3) := ⟨_, rfl⟩
    rw [← hw2] at hb2 hZ
    have hL2 := (hL.below hb2).more hb2.size
    have RW := Lib.hid (row_any (some ⟨w0.heap.size, 0, none⟩) (some ⟨w1.heap.size, 0, none⟩) 8 8 8 [1, p, b, e, l, h, f, 2] sz8R w2 hZ okB_sz8R hL2 rfl rfl hw)
    have hs0 : w0.heap.size = w.heap.size + 1 := by rw [hw0]; simp
    have hs1 : w1.heap.size = w.heap.size + 1 + 1 := by rw [hw1, World.size_alloc, hs0]
    have HB := Lib.hid (show Below w.heap.size w w2 by
      rw [← hw0] at hbel
      exact (hbel.trans (hb1.mono hbel.size)).trans (hb2.mono (by have := hbel.size; have := hb1.size; omega)))
    rw [show rowTo [1, p, b, e, l, h, f, 2] sz8R 8 = T from hT.symm, hs0, hs1] at RW
    clear hL hL2 hZ hb1 hb2 hbel hs0 hs1 hfl hw hT
    go_enter Try.func37, Try.ntmps37
    go_wp2_with fail
    rw [← hw0, ← hw1, ← hw2]
    refine RW.out.mono ?_
    rintro e w3 ⟨A3, c3, rfl, hown, hb3⟩
    rw [hl] at hown ⊢
    have B := Lib.hid (HB.out.trans (hb3.mono HB.out.size))
    have O := Lib.hid (owns_base hown HB.out.size)
    clear hown hb3 RW hw0 hw1 hw2 c0 c1 c2 c4 c5 c6 c7
    go_wp2
    go_ret
    exact ⟨A3, c3, rfl, O.out, B.out⟩
  · have hb1 : Below w0.heap.size w0 (w0.alloc (.cells #[.int .u64 1, .int .u64 p, .int .u64 b, .int .u64 e, .int .u64 l, .int .u64 h, .int .u64 f, .int .u64 3] 61)) := (Below.refl _ _).alloc (Nat.le_refl _) _
    obtain ⟨w1, hw1⟩ : ∃ x, x = w0.alloc (.cells #[.int .u64 1, .int .u64 p, .int .u64 b, .int .u64 e, .int .u64 l, .int .u64 h, .int .u64 f, .int .u64 3] 61) := ⟨_, rfl⟩
    have hL := lit_row w0 61 .u64 [1, p, b, e, l, h, f, 3] _ w0.heap.size w1.heap.size rfl rfl (by rw [hw1]; simp)
    change Seq (w0.alloc (.cells #[.int .u64 1, .int .u64 p, .int .u64 b, .int .u64 e, .int .u64 l, .int .u64 h, .int .u64 f, .int .u64 3] 61)) _ _ _ at hL
    rw [← hw1] at hb1 hL
    have hb2 : Below w1.heap.size w1 (w1.alloc (.cells #[.int .i64 1, .int .i64 1, .int .i64 4, .int .i64 4, .int .i64 1, .int .i64 1, .int .i64 1, .int .i64 1] 3)) := (Below.refl _ _).alloc (Nat.le_refl _) _
    have hZ := lit_row w1 3 .i64 sz8R _ w1.heap.size (w1.alloc (.cells #[.int .i64 1, .int .i64 1, .int .i64 4, .int .i64 4, .int .i64 1, .int .i64 1, .int .i64 1, .int .i64 1] 3)).heap.size rfl rfl (by simp)
    change Seq (w1.alloc (.cells #[.int .i64 1, .int .i64 1, .int .i64 4, .int .i64 4, .int .i64 1, .int .i64 1, .int .i64 1, .int .i64 1] 3)) _ _ _ at hZ
    obtain ⟨w2, hw2⟩ : ∃ x, x = w1.alloc (.cells #[.int .i64 1, .int .i64 1, .int .i64 4, .int .i64 4, .int .i64 1, .int .i64 1, .int .i64 1, .int .i64 1] 3) := ⟨_, rfl⟩
    rw [← hw2] at hb2 hZ
    have hL2 := (hL.below hb2).more hb2.size
    have RW := Lib.hid (row_any (some ⟨w0.heap.size, 0, none⟩) (some ⟨w1.heap.size, 0, none⟩) 8 8 8 [1, p, b, e, l, h, f, 3] sz8R w2 hZ okB_sz8R hL2 rfl rfl hw)
    have hs0 : w0.heap.size = w.heap.size + 1 := by rw [hw0]; simp
    have hs1 : w1.heap.size = w.heap.size + 1 + 1 := by rw [hw1, World.size_alloc, hs0]
    have HB := Lib.hid (show Below w.heap.size w w2 by
      rw [← hw0] at hbel
      exact (hbel.trans (hb1.mono hbel.size)).trans (hb2.mono (by have := hbel.size; have := hb1.size; omega)))
    rw [show rowTo [1, p, b, e, l, h, f, 3] sz8R 8 = T from hT.symm, hs0, hs1] at RW
    clear hL hL2 hZ hb1 hb2 hbel hs0 hs1 hfl hw hT
    go_enter Try.func37, Try.ntmps37
    go_wp2_with fail
    rw [← hw0, ← hw1, ← hw2]
    refine RW.out.mono ?_
    rintro e w3 ⟨A3, c3, rfl, hown, hb3⟩
    rw [hl] at hown ⊢
    have B := Lib.hid (HB.out.trans (hb3.mono HB.out.size))
    have O := Lib.hid (owns_base hown HB.out.size)
    clear hown hb3 RW hw0 hw1 hw2 c0 c1 c2 c4 c5 c6 c7
    go_wp2
    go_ret
    exact ⟨A3, c3, rfl, O.out, B.out⟩
theorem rnote11_any (r : Rc) (w : World) (hi : isR r) : Calls Try.prog 15 #[recV r] w (RowOut .u8 5 w (ntB r) (rcE r)) := by
  obtain ⟨x, hbel⟩ := rec_box w r
  have BX := Lib.hid x
  obtain ⟨c0, c1, c2, c3, c4, c5, c6, c7⟩ := x.rec
  have BEL := Lib.hid hbel
  have hlt := x.lt
  unfold RowOut
  by_cases hm : mayR r
  · rw [show rcE r = 0 from if_pos hm, show ntB r = recT r from if_pos hm, recT_length]
    have M := Lib.hid (fun wx => may_yes r wx hm)
    have RW := Lib.hid (fun wx => rrow11_any r wx hi hm)
    clear x hbel hm hi
    go_enter Try.func15, Try.ntmps15
    go_wp2_with fail
    refine (M.out _).mono ?_
    rintro e w1 ⟨rfl, hb⟩
    have B := Lib.hid (BEL.out.trans (hb.mono BEL.out.size))
    have BX := Lib.hid (BX.out.below hb hlt)
    clear hb c0 c1 c2 c3 c4 c5 c6 c7
    obtain ⟨c0, c1, c2, c3, c4, c5, c6, c7⟩ := BX.out.rec
    go_wp2_with fail
    refine (RW.out _).mono ?_
    rintro e w2 ⟨A2, k2, rfl, hown, hb⟩
    have O := Lib.hid (owns_base hown B.out.size)
    have B := Lib.hid (B.out.trans (hb.mono B.out.size))
    clear hb hown c0 c1 c2 c3 c4 c5 c6 c7
    go_wp2
    go_ret2
    exact ⟨A2, k2, rfl, O.out, B.out⟩
  · rw [show rcE r = 110 from if_neg hm, show ntB r = [] from if_neg hm]
    have M := Lib.hid (fun wx => may_no r wx hm)
    clear x hbel hm hi
    go_enter Try.func15, Try.ntmps15
    go_wp2_with fail
    refine (M.out _).mono ?_
    rintro e w1 ⟨rfl, hb⟩
    have B := Lib.hid (BEL.out.trans (hb.mono BEL.out.size))
    clear hb
    go_wp2
    go_ret2
    exact ⟨none, 0, rfl, World.ownsRow_nil _ _ _ _, B.out⟩

theorem rgone11_any (k : Int) (w : World) : Calls Try.prog 16 #[.int .i64 k] w (RowOut .u8 5 w (goB k) (goE k)) := by
  unfold RowOut
  by_cases h : 0 ≤ k ∧ k < 3
  · have hE : goE k = 0 := if_pos h
    have hB : goB k = goneT k := if_pos hE
    rw [hE, hB]
    have h1 : ¬ k < 0 := by omega
    have h2 : ¬ 3 ≤ k := by omega
    have e1 : IntKind.u8.wrap k = k := wrapw8 h.1 (by omega)
    have O := Lib.hid ((show (w.alloc (.cells #[.int .u8 2, .int .u8 k] 5)).ownsRow w.heap.size 5 1 (.slice (some ⟨w.heap.size, 0, none⟩) 2 2) 2 (ints .u8 [2, k]) from (Blk.new w 5 (ints .u8 [2, k])).owns (Nat.le_refl _) rfl (by decide)))
    clear h hE hB
    go_enter Try.func16, Try.ntmps16
    go_wp2
    go_ret2
    exact ⟨_, _, rfl, O.out, (Below.refl _ _).alloc (Nat.le_refl _) _⟩
  · have hE : goE k = 2 := if_neg h
    have hB : goB k = [] := if_neg (by rw [hE]; decide)
    rw [hE, hB]
    by_cases h1 : k < 0
    · clear h hE hB
      go_enter Try.func16, Try.ntmps16
      go_wp2
      go_ret2
      exact ⟨none, 0, rfl, World.ownsRow_nil _ _ _ _, Below.refl _ _⟩
    · have h2 : 3 ≤ k := by omega
      clear h hE hB
      go_enter Try.func16, Try.ntmps16
      go_wp2
      go_ret2
      exact ⟨none, 0, rfl, World.ownsRow_nil _ _ _ _, Below.refl _ _⟩
end Go.Proofs.Ythoflogegopikaa
