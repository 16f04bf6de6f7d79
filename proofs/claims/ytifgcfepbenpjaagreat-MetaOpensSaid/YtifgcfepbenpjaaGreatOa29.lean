/- Texts of layers 1 to 12, joined. -/
import Derived.Test.YtifgcfepbenpjaaGreatOa27
import Derived.Deep.RegionHeld3
import Derived.Deep.Cut
set_option maxRecDepth 100000
set_option maxHeartbeats 12800000
set_option linter.unusedVariables false
namespace Go.Proofs.YtifgcfepbenpjaaGreat
open Go.RowKit
theorem nums8_lit (w : World) (p b e l h f G : Int) (g B : Nat) (hg : g = w.heap.size) (hB : w.heap.size < B) : Seq (w.alloc (.cells #[.int .u64 1, .int .u64 p, .int .u64 b, .int .u64 e, .int .u64 l, .int .u64 h, .int .u64 f, .int .u64 G] 27)) B (some ⟨g, 0, none⟩) (ints .u64 [1, p, b, e, l, h, f, G]) := lit_row w 27 .u64 [1, p, b, e, l, h, f, G] _ _ _ rfl hg hB
theorem nums2_lit (w : World) (p q : Int) (g B : Nat) (hg : g = w.heap.size) (hB : w.heap.size < B) : Seq (w.alloc (.cells #[.int .u64 p, .int .u64 q] 27)) B (some ⟨g, 0, none⟩) (ints .u64 [p, q]) := lit_row w 27 .u64 [p, q] _ _ _ rfl hg hB
theorem pnote11_any (r : Rc) (w : World) (hi : isR r) : Calls Tryz.prog 38 #[recV r] w (RowOut .u8 5 w (ntB r) (rcE r)) := by
 have CK := Lh (fun wx => pcheck11_any r wx hi)
 unfold RowOut
 by_cases hm : mayR r
 ·rw [show rcE r = 0 from if_pos hm] at CK ⊢
  rw [show ntB r = recT r from if_pos hm, recT_length]
  have FT := Lh (fits8R hi hm)
  have hT : recT r = rowTo (numsR r) sz8R 8 := rfl
  have hl := recT_length r
  obtain ⟨⟨m1, m2, m3, m4, m5, m6, m7, m8⟩, ⟨m9, m10⟩, _⟩ := hm
  obtain ⟨⟨i1, i2⟩, ⟨i3, i4⟩, _⟩ := hi
  have hfl := flagR_le r
  have hw : ∀ z ∈ numsR r, isWord z := by
   intro z hz
   unfold numsR at hz
   simp only [List.mem_cons, List.not_mem_nil, or_false] at hz
   unfold isWord
   rcases hz with rfl | rfl | rfl | rfl | rfl | rfl | rfl | rfl <;> omega
  have FL := Lh (fun wx => pflags_any r wx)
  obtain ⟨p, b, e, l, h, f, q, a⟩ := r
  dsimp only at m1 m2 m3 m4 m5 m6 m7 m8 m9 m10 i1 i2 i3 i4 FL CK
  have e1 : IntKind.u64.wrap p = p := wrapw64 p m1 (by omega)
  have e2 : IntKind.u64.wrap b = b := wrapw64 b (by omega) (by omega)
  have e3 : IntKind.u64.wrap e = e := wrapw64 e (by omega) (by omega)
  have e4 : IntKind.u64.wrap l = l := wrapw64 l m5 (by omega)
  have e5 : IntKind.u64.wrap h = h := wrapw64 h (by omega) (by omega)
  have e6 : IntKind.u64.wrap f = f := wrapw64 f m7 (by omega)
  obtain ⟨T, hTT⟩ : ∃ T, T = recT ⟨p, b, e, l, h, f, q, a⟩ := ⟨_, rfl⟩
  rw [← hTT] at hl hT ⊢
  obtain ⟨G, hG⟩ : ∃ G, G = flagR ⟨p, b, e, l, h, f, q, a⟩ := ⟨_, rfl⟩
  have hnr : numsR ⟨p, b, e, l, h, f, q, a⟩ = [1, p, b, e, l, h, f, G] := by rw [hG]; rfl
  rw [← hG] at FL
  rw [hnr] at hT hw FT
  have HT := Lh hT
  have HL := Lh hl
  have W1 := Lh hw
  have FT := Lh (show fitsTo [1, p, b, e, l, h, f, G] sz8R sz8R.length = true from FT.out)
  have HT := Lh (show T = rowTo [1, p, b, e, l, h, f, G] sz8R sz8R.length from HT.out)
  obtain ⟨x, hbel⟩ := rec_box w ⟨p, b, e, l, h, f, q, a⟩
  have hbel : Below w.heap.size w (w.alloc (.cells #[.int .i64 p, .int .u32 b, .int .u32 e, .int .i64 l, .int .u8 h, .int .i64 f, .bool q, .bool a] 64)) := hbel
  change Blk (w.alloc (.cells #[.int .i64 p, .int .u32 b, .int .u32 e, .int .i64 l, .int .u8 h, .int .i64 f, .bool q, .bool a] 64)) _ _ _ at x
  obtain ⟨w0, hw0⟩ : ∃ x, x = w.alloc (.cells #[.int .i64 p, .int .u32 b, .int .u32 e, .int .i64 l, .int .u8 h, .int .i64 f, .bool q, .bool a] 64) := ⟨_, rfl⟩
  rw [← hw0] at x hbel
  have hlt := x.lt
  obtain ⟨c0, c1, c2, c3, c4, c5, c6, c7⟩ := x.rec
  have X := Lh x
  have B := Lh hbel
  dsimp only at c0 c1 c2 c3 c4 c5 c6 c7
  clear m1 m2 m3 m4 m5 m6 m7 m8 m9 m10 i1 i2 i3 i4 x hTT hbel hT hl hw hfl hG hnr
  go_enter Tryz.func38, Tryz.ntmps38
  go_wp2_with fail
  rw [← hw0]
  clear hw0
  refine (CK.out _).mono ?_
  rintro e' v1 ⟨rfl, hb⟩
  have B := Lh (B.out.trans (hb.mono B.out.size))
  have X := Lh (X.out.below hb hlt)
  have hlt : w.heap.size < v1.heap.size := X.out.lt
  clear hb c0 c1 c2 c3 c4 c5 c6 c7 CK
  go_upto_region 4 with fail
  have hcur : Below v1.heap.size v1 v1.drew := below_drewN (Below.refl _ _) 1
  have keepX : ∀ wx, Below v1.heap.size v1 wx → wx.cell? ⟨w.heap.size, 0, none⟩ = some (.int .i64 p) ∧ wx.cell? ⟨w.heap.size, 1, none⟩ = some (.int .u32 b) ∧ wx.cell? ⟨w.heap.size, 2, none⟩ = some (.int .u32 e) ∧ wx.cell? ⟨w.heap.size, 3, none⟩ = some (.int .i64 l) ∧ wx.cell? ⟨w.heap.size, 4, none⟩ = some (.int .u8 h) ∧ wx.cell? ⟨w.heap.size, 5, none⟩ = some (.int .i64 f) ∧ wx.cell? ⟨w.heap.size, 6, none⟩ = some (.bool q) ∧ wx.cell? ⟨w.heap.size, 7, none⟩ = some (.bool a) := fun wx hx => (X.out.below hx hlt).rec
  have hkX := keepX _ hcur
  go_region_held3 (fun wx => wx.cell? ⟨w.heap.size, 0, none⟩ = some (.int .i64 p) ∧ wx.cell? ⟨w.heap.size, 1, none⟩ = some (.int .u32 b) ∧ wx.cell? ⟨w.heap.size, 2, none⟩ = some (.int .u32 e) ∧ wx.cell? ⟨w.heap.size, 3, none⟩ = some (.int .i64 l) ∧ wx.cell? ⟨w.heap.size, 4, none⟩ = some (.int .u8 h) ∧ wx.cell? ⟨w.heap.size, 5, none⟩ = some (.int .i64 f) ∧ wx.cell? ⟨w.heap.size, 6, none⟩ = some (.bool q) ∧ wx.cell? ⟨w.heap.size, 7, none⟩ = some (.bool a))
   (first | exact hkX | exact keepX _ (hcur.alloc hcur.size _) | go_keep)
   (first
    | (go_at_call 76; with_reducible refine (psizes8_any v1.drew).mono ?_; rintro e' wS ⟨gS, rfl, hAS, hbS⟩; have hcur := hcur.trans (hbS.mono hcur.size); have hkX := keepX _ hcur)
    | (go_at_call 76; with_reducible refine (psizes8_any wF).mono ?_; rintro e' wS ⟨gS, rfl, hAS, hbS⟩; have hcur := hcur.trans (hbS.mono hcur.size); have hkX := keepX _ hcur)
    | (go_at_call 76; with_reducible refine (psizes8_any (wF.alloc (.cells #[.int .u64 1, .int .u64 p, .int .u64 b, .int .u64 e, .int .u64 l, .int .u64 h, .int .u64 f, .int .u64 G] 27))).mono ?_; rintro e' wS ⟨gS, rfl, hAS, hbS⟩; have hL := nums8_lit wF p b e l h f G wF.heap.size (wF.heap.size + 1) rfl (Nat.lt_succ_self _); have hL := (hL.below (hbS.mono (by simp))).more (B' := wS.heap.size) (Nat.le_trans (by simp) hbS.size); have hcur := hcur.alloc hcur.size (.cells #[.int .u64 1, .int .u64 p, .int .u64 b, .int .u64 e, .int .u64 l, .int .u64 h, .int .u64 f, .int .u64 G] 27); have hcur := hcur.trans (hbS.mono hcur.size); have hkX := keepX _ hcur)
    | (go_at_call 75; have hAS0 := hAS; with_reducible refine (FL.out _).mono ?_; rintro e' wF ⟨rfl, hbF⟩; have hAS := hAS0.below hbF; have hcur := hcur.trans (hbF.mono hcur.size); have hkX := keepX _ hcur)
    | (go_at_call 75; with_reducible refine (FL.out _).mono ?_; rintro e' wF ⟨rfl, hbF⟩; have hcur := hcur.trans (hbF.mono hcur.size); have hkX := keepX _ hcur)
    | (go_at_call 74; with_reducible refine (write_ok (some ⟨wF.heap.size, 0, none⟩) (some ⟨gS, 0, none⟩) 8 8 8 8 [1, p, b, e, l, h, f, G] sz8R wS hAS.seq rfl okB_sz8R hL rfl rfl W1.out).mono ?_; intro e' w2 hout; obtain ⟨A2, c2, rfl, hown, hb⟩ := (WroteOut.yes hout FT.out).len (zs' := T) (n := 14) HT.out.symm HL.out; have hM := hcur.size; have hcur := hcur.trans (hb.mono hcur.size); have hkX := keepX _ hcur)
    | (go_at_call 74; have hL := nums8_lit wS p b e l h f G wS.heap.size (wS.heap.size + 1) rfl (Nat.lt_succ_self _); have hL := hL.more (B' := (wS.alloc (.cells #[.int .u64 1, .int .u64 p, .int .u64 b, .int .u64 e, .int .u64 l, .int .u64 h, .int .u64 f, .int .u64 G] 27)).heap.size) (by simp); have hAS := hAS.below ((Below.refl wS.heap.size wS).alloc (Nat.le_refl _) (.cells #[.int .u64 1, .int .u64 p, .int .u64 b, .int .u64 e, .int .u64 l, .int .u64 h, .int .u64 f, .int .u64 G] 27)); have hcur := hcur.alloc hcur.size (.cells #[.int .u64 1, .int .u64 p, .int .u64 b, .int .u64 e, .int .u64 l, .int .u64 h, .int .u64 f, .int .u64 G] 27); with_reducible refine (write_ok (some ⟨wS.heap.size, 0, none⟩) (some ⟨gS, 0, none⟩) 8 8 8 8 [1, p, b, e, l, h, f, G] sz8R (wS.alloc (.cells #[.int .u64 1, .int .u64 p, .int .u64 b, .int .u64 e, .int .u64 l, .int .u64 h, .int .u64 f, .int .u64 G] 27)) hAS.seq rfl okB_sz8R hL rfl rfl W1.out).mono ?_; intro e' w2 hout; obtain ⟨A2, c2, rfl, hown, hb⟩ := (WroteOut.yes hout FT.out).len (zs' := T) (n := 14) HT.out.symm HL.out; have hM := hcur.size; have hcur := hcur.trans (hb.mono hcur.size); have hkX := keepX _ hcur)
    | (go_at_call 74; have hL := nums8_lit wF p b e l h f G wF.heap.size (wF.heap.size + 1) rfl (Nat.lt_succ_self _); have hL := hL.more (B' := (wF.alloc (.cells #[.int .u64 1, .int .u64 p, .int .u64 b, .int .u64 e, .int .u64 l, .int .u64 h, .int .u64 f, .int .u64 G] 27)).heap.size) (by simp); have hAS := hAS.below ((Below.refl wF.heap.size wF).alloc (Nat.le_refl _) (.cells #[.int .u64 1, .int .u64 p, .int .u64 b, .int .u64 e, .int .u64 l, .int .u64 h, .int .u64 f, .int .u64 G] 27)); have hcur := hcur.alloc hcur.size (.cells #[.int .u64 1, .int .u64 p, .int .u64 b, .int .u64 e, .int .u64 l, .int .u64 h, .int .u64 f, .int .u64 G] 27); with_reducible refine (write_ok (some ⟨wF.heap.size, 0, none⟩) (some ⟨gS, 0, none⟩) 8 8 8 8 [1, p, b, e, l, h, f, G] sz8R (wF.alloc (.cells #[.int .u64 1, .int .u64 p, .int .u64 b, .int .u64 e, .int .u64 l, .int .u64 h, .int .u64 f, .int .u64 G] 27)) hAS.seq rfl okB_sz8R hL rfl rfl W1.out).mono ?_; intro e' w2 hout; obtain ⟨A2, c2, rfl, hown, hb⟩ := (WroteOut.yes hout FT.out).len (zs' := T) (n := 14) HT.out.symm HL.out; have hM := hcur.size; have hcur := hcur.trans (hb.mono hcur.size); have hkX := keepX _ hcur))
  all_goals (
   have B2 := Lh (B.out.trans (hcur.mono B.out.size))
   have O2 := Lh (owns_base hown (Nat.le_trans B.out.size hM))
   clear hcur hkX keepX hM hb hown hAS hL
   go_wp2
   go_ret2
   exact ⟨A2, c2, rfl, O2.out, B2.out⟩)
 ·rw [show rcE r = 110 from if_neg hm] at CK ⊢
  rw [show ntB r = [] from if_neg hm]
  obtain ⟨x, hbel⟩ := rec_box w r
  obtain ⟨c0, c1, c2, c3, c4, c5, c6, c7⟩ := x.rec
  have B := Lh hbel
  clear x hbel hm hi
  go_enter Tryz.func38, Tryz.ntmps38
  go_wp2_with fail
  refine (CK.out _).mono ?_
  rintro e' v1 ⟨rfl, hb⟩
  have B := Lh (B.out.trans (hb.mono B.out.size))
  clear hb c0 c1 c2 c3 c4 c5 c6 c7 CK
  go_wp2
  go_ret2
  exact ⟨none, 0, rfl, World.ownsRow_nil _ _ _ _, B.out⟩
theorem goneT_row {k : Int} (h : 0 ≤ k ∧ k < 3) : rowTo [2, k] [1, 1] 2 = goneT k := by
 show ([] ++ digs 1 2) ++ digs 1 k = [2, k]
 simp [digs]
 omega
theorem gone_fits {k : Int} (h : 0 ≤ k ∧ k < 3) : fitsTo [2, k] [1, 1] 2 = true := by
 have d1 : k / 256 ^ 1 = 0 := Int.ediv_eq_zero_of_lt h.1 (by omega)
 show ((true && decide ((2 : Int) / 256 ^ 1 = 0)) && decide (k / 256 ^ 1 = 0)) = true
 rw [d1]
 decide
theorem pgone11_any (k : Int) (w : World) : Calls Tryz.prog 175 #[.int .i64 k] w (RowOut .u8 5 w (goB k) (goE k)) := by
 unfold RowOut
 have PI := Lh (fun wx => pispair_any k wx)
 by_cases h : 0 ≤ k ∧ k < 3
 ·have hE : goE k = 0 := if_pos h
  rw [hE, show goB k = goneT k from if_pos hE]
  rw [decide_eq_true h] at PI
  have e1 : IntKind.u64.wrap k = k := wrapw64 k h.1 (by omega)
  have W1 := Lh (show ∀ z ∈ [2, k], isWord z from by
   intro z hz
   simp only [List.mem_cons, List.not_mem_nil, or_false] at hz
   unfold isWord
   rcases hz with rfl | rfl <;> omega)
  have FT := Lh (show fitsTo [2, k] [1, 1] [(1 : Int), 1].length = true from gone_fits h)
  have HT := Lh (show rowTo [2, k] [1, 1] [(1 : Int), 1].length = goneT k from goneT_row h)
  obtain ⟨w0, hw0⟩ : ∃ x, x = w.alloc (.cells #[.int .u64 2, .int .u64 k] 27) := ⟨_, rfl⟩
  have hL := nums2_lit w 2 k w.heap.size (w.heap.size + 1) rfl (Nat.lt_succ_self _)
  have hb0 : Below w.heap.size w (w.alloc (.cells #[.int .u64 2, .int .u64 k] 27)) := (Below.refl _ _).alloc (Nat.le_refl _) _
  have hs0 : w0.heap.size = w.heap.size + 1 := by rw [hw0]; simp
  rw [← hw0] at hL hb0
  have HL := Lh hL
  have B := Lh hb0
  have HS := Lh hs0
  clear h hE hL hb0 hs0
  go_enter Tryz.func175, Tryz.ntmps175
  go_wp2_with fail
  refine (PI.out _).mono ?_
  rintro e' v1 ⟨rfl, rfl⟩
  go_wp2_with fail
  rw [← hw0]
  clear hw0
  refine (psizes2_any _).mono ?_
  rintro e' wS ⟨gS, rfl, hAS, hbS⟩
  have hL := (HL.out.below (hbS.mono (by rw [HS.out]; exact Nat.le_refl _))).more (B' := wS.heap.size) (by rw [← HS.out]; exact hbS.size)
  have HAS := Lh hAS
  have HL2 := Lh hL
  have B := Lh (B.out.trans (hbS.mono B.out.size))
  clear hL hAS hbS HS HL
  go_wp2_with fail
  refine (write_ok (some ⟨v1.heap.size, 0, none⟩) (some ⟨gS, 0, none⟩) 2 2 2 2 [2, k] [1, 1] wS HAS.out.seq rfl (by decide) HL2.out rfl rfl W1.out).mono ?_
  intro e' w2 hout
  obtain ⟨A2, c2, rfl, hown, hb⟩ := (WroteOut.yes hout FT.out).len (zs' := goneT k) (n := 2) HT.out rfl
  have O := Lh (owns_base hown B.out.size)
  have B := Lh (B.out.trans (hb.mono B.out.size))
  clear hown hb hout
  go_wp2
  go_ret2
  exact ⟨A2, c2, rfl, O.out, B.out⟩
 ·have hE : goE k = 2 := if_neg h
  rw [hE, show goB k = [] from if_neg (by rw [hE]; decide)]
  rw [decide_eq_false h] at PI
  clear h hE
  go_enter Tryz.func175, Tryz.ntmps175
  go_wp2_with fail
  refine (PI.out _).mono ?_
  rintro e' v1 ⟨rfl, rfl⟩
  go_wp2
  go_ret2
  exact ⟨none, 0, rfl, World.ownsRow_nil _ _ _ _, Below.refl _ _⟩
end Go.Proofs.YtifgcfepbenpjaaGreat
