/- Texts of layers 1 to 12, joined. -/
import Derived.Test.YtifgcfepbenpjaaGreatOa24
import Derived.Test.YtifgcfepbenpjaaGreatOa30
set_option maxRecDepth 100000
set_option maxHeartbeats 12800000
set_option linter.unusedVariables false
namespace Go.Proofs.YtifgcfepbenpjaaGreat
open Go.RowKit
theorem rrow9_any (v a g : Int) (hs : isS (v, a, g)) (ha : arS a) (w : World) :
  Calls Tryz.prog 96 #[supV v a g] w fun e w' => ∃ A c, e = .returned (.slice A 13 c) ∧ w'.ownsRow w.heap.size 5 1 (.slice A 13 c) 13 (ints .u8 (suT (v, a, g))) ∧ Below w.heap.size w w' := by
 have x := Blk.new w 29 [.int .u32 v, .int .i64 a, .int .u64 g]
 have hb0 : Below w.heap.size w (w.alloc (.cells #[.int .u32 v, .int .i64 a, .int .u64 g] 29)) := (Below.refl _ _).alloc (Nat.le_refl _) _
 obtain ⟨⟨hv0, hv1⟩, hg0, hg1⟩ := hs
 dsimp only at hv0 hv1 hg0 hg1
 have ha1 : 0 ≤ a ∧ a < 256 := by unfold arS at ha; omega
 have e1 : IntKind.u64.wrap v = v := wraps_u64 v hv0 (by omega)
 have e2 : IntKind.u64.wrap a = a := wraps_u64 a ha1.1 (by omega)
 have W1 : ∀ z ∈ [v, a, g], isWord z := by
  intro z hz
  simp only [List.mem_cons, List.not_mem_nil, or_false] at hz
  unfold isWord
  rcases hz with rfl | rfl | rfl <;> omega
 obtain ⟨w0, hw0⟩ : ∃ x, x = w.alloc (.cells #[.int .u32 v, .int .i64 a, .int .u64 g] 29) := ⟨_, rfl⟩
 have hs0 : w0.heap.size = w.heap.size + 1 := by rw [hw0]; simp
 rw [← hw0] at hb0 x
 have hb1 : Below w0.heap.size w0 (w0.alloc (.cells #[.int .u64 v, .int .u64 a, .int .u64 g] 27)) := (Below.refl _ _).alloc (Nat.le_refl _) _
 obtain ⟨w1, hw1⟩ : ∃ x, x = w0.alloc (.cells #[.int .u64 v, .int .u64 a, .int .u64 g] 27) := ⟨_, rfl⟩
 have hL := nums_sup w0 v a g w0.heap.size w1.heap.size rfl (by rw [hw1]; simp)
 rw [← hw1] at hb1 hL
 have hs1 : w1.heap.size = w.heap.size + 2 := by rw [hw1, World.size_alloc, hs0]
 have hb2 : Below w1.heap.size w1 (w1.alloc (.cells #[.int .i64 4, .int .i64 1, .int .i64 8] 3)) := (Below.refl _ _).alloc (Nat.le_refl _) _
 have hZ : Seq (w1.alloc (.cells #[.int .i64 4, .int .i64 1, .int .i64 8] 3)) (w1.alloc (.cells #[.int .i64 4, .int .i64 1, .int .i64 8] 3)).heap.size (some ⟨w1.heap.size, 0, none⟩) (ints .i64 sz3) := lit_row w1 3 .i64 sz3 _ _ _ rfl rfl (by simp)
 obtain ⟨w2, hw2⟩ : ∃ x, x = w1.alloc (.cells #[.int .i64 4, .int .i64 1, .int .i64 8] 3) := ⟨_, rfl⟩
 rw [← hw2] at hb2 hZ
 have hL2 := (hL.below hb2).more hb2.size
 have hB := hb0.trans ((hb1.trans (hb2.mono hb1.size)).mono hb0.size)
 have RW := Lh (row_any (some ⟨w0.heap.size, 0, none⟩) (some ⟨w1.heap.size, 0, none⟩) 3 3 3 [v, a, g] sz3 w2 hZ okB_sz3 hL2 rfl rfl W1)
 rw [hs0, hs1] at RW
 obtain ⟨c0, c1, c2⟩ := x.tri
 have HB := Lh hB
 have hrl := suT_length (v, a, g)
 clear hb0 hb1 hb2 hB hL hL2 hZ W1 hv0 hv1 hg0 hg1 ha1 ha x
 go_enter Tryz.func96, Tryz.ntmps96
 go_wp2_with fail
 rw [← hw0, ← hw1, ← hw2]
 clear hw0 hw1 hw2 hs0 hs1 c0 c1 c2
 refine RW.out.mono ?_
 rintro e w3 ⟨A3, c3, rfl, hown, hb3⟩
 rw [show rowTo [v, a, g] sz3 3 = suT (v, a, g) from rfl] at hown ⊢
 rw [hrl] at hown ⊢
 have B3 := Lh (HB.out.trans (hb3.mono HB.out.size))
 have O3 := Lh (owns_base hown HB.out.size)
 clear hown hb3 RW hrl
 go_wp2
 go_ret
 exact ⟨A3, c3, rfl, O3.out, B3.out⟩
theorem rgot9_any (P T A M W Q : Int) (D : Option Addr) (n c : Nat) (D' : Option Addr) (n' c' : Nat) (S : List Sec) (C : List Pnd) (w : World) (hq : Dsk w D n c D' n' c' S C) (hs : SmallD S C) (hm : mayT P T A M W Q S C) :
  Calls Tryz.prog 90 #[diskV D n c D' n' c'] w fun e w' => e = .returned (.tuple #[supV (smV S C).1 (smV S C).2.1 (smV S C).2.2, .bool (decide (smE S C = 0))]) ∧ Below w.heap.size w w' := by
 have X0 := DBox.new hq
 have hb0 : Below w.heap.size w (w.alloc (.cells #[.slice D n c, .slice D' n' c'] 25)) := (Below.refl _ _).alloc (Nat.le_refl _) _
 obtain ⟨w0, hw0⟩ : ∃ x, x = w.alloc (.cells #[.slice D n c, .slice D' n' c'] 25) := ⟨_, rfl⟩
 have hs0 : w0.heap.size = w.heap.size + 1 := by rw [hw0]; simp
 rw [← hw0] at X0 hb0
 have hb1 : Below w0.heap.size w0 (w0.alloc (.cells #[.int .u32 0, .int .i64 0, .int .u64 0] 29)) := (Below.refl _ _).alloc (Nat.le_refl _) _
 have Y0 := Blk.new w0 29 [.int .u32 0, .int .i64 0, .int .u64 0]
 rw [hs0] at Y0
 obtain ⟨w1, hw1⟩ : ∃ x, x = w0.alloc (.cells #[.int .u32 0, .int .i64 0, .int .u64 0] 29) := ⟨_, rfl⟩
 rw [← hw1] at hb1 Y0
 have X := Lh (X0.below hb1)
 have Y := Lh Y0
 have B := Lh (hb0.trans (hb1.mono hb0.size))
 have hsl := hq.secs.len
 have hge : 0 + 2 * 1 ≤ n := by
  have := fE_le hm.1
  have := hm.2.2
  omega
 have G := Lh (fun wx hx => rgot6_any D n c D' n' c' S C 0 1 wx hx hs hm.2.1 (by decide) (by decide) hge)
 have e1 : crE S C 0 1 = if hV 1 (optsOf S C 0 2) = 0 then 6 else 0 := by
  unfold crE
  rw [if_pos (cell_zero hm)]
  rfl
 have e3 : crE S C 0 1 = 0 → crB S C 0 1 = hB 1 (optsOf S C 0 2) := fun h => by
  unfold crB
  rw [if_pos h]
  rfl
 have hby := crB_byte hq.secs.byte hq.pnds.byte 0 1
 have hfew := crB_few S C
 unfold GotOut at G
 rw [show optsOf S C ((0 : Nat) : Int) (2 * 1) = optsOf S C 0 2 from rfl] at G
 obtain ⟨vv, hvv⟩ : ∃ v, v = hV 1 (optsOf S C 0 2) := ⟨_, rfl⟩
 obtain ⟨t, ht⟩ : ∃ v, v = hB 1 (optsOf S C 0 2) := ⟨_, rfl⟩
 rw [← hvv, ← ht] at G
 rw [← hvv] at e1
 rw [← ht] at e3
 obtain ⟨x0, x1⟩ := X.out.cells
 obtain ⟨y0, y1, y2⟩ := Y.out.tri
 by_cases hv0 : vv = 0
 ·rw [if_pos hv0] at e1
  have h0 : crE S C 0 1 ≠ 0 := by rw [e1]; decide
  rw [show smE S C = 0 from if_neg h0, show smV S C = (0, 0, 0) from if_neg h0]
  dsimp only
  rw [show decide ((0 : Int) = 0) = true from rfl]
  subst hv0
  clear e1 e3 h0 hby hfew hvv ht hge hsl hs hm X0 hb0 hb1 Y0 hs0
  go_enter Tryz.func90, Tryz.ntmps90
  go_wp2_with fail
  rw [← hw0, ← hw1]
  clear hw0 hw1
  refine (G.out _ X.out.dsk).mono ?_
  rintro e w2 ⟨Ah, ch, Bh, rfl, hown, hbb, hb⟩
  obtain ⟨L, hL⟩ : ∃ L, L = Bh.length := ⟨_, rfl⟩
  rw [← hL]
  have B := Lh (B.out.trans (hb.mono B.out.size))
  have Y := Lh (Y.out.below hb Y.out.lt)
  clear hb x0 x1 y0 y1 y2 hown hL hbb G
  obtain ⟨y0, y1, y2⟩ := Y.out.tri
  have f0 := Y.out.free 0
  have f1 := Y.out.free 1
  have f2 := Y.out.free 2
  go_wp2
  have z := Y.out.three (.int .u32 0) (.int .i64 0) (.int .u64 0)
  obtain ⟨z0, z1, z2⟩ := z.tri
  refine bodyPost_ret (v := .tuple #[supV 0 0 0, .bool true]) ?_ rfl ⟨rfl, (((B.out.setCell (p := ⟨w.heap.size + 1, 0, none⟩) (by simp) _).setCell (p := ⟨w.heap.size + 1, 1, none⟩) (by simp) _).setCell (p := ⟨w.heap.size + 1, 2, none⟩) (by simp) _)⟩
  clear y0 y1 y2 f0 f1 f2
  simp [results, Tryz.f90, go_sem, z0, z1, z2]
 ·rw [if_neg hv0] at e1
  have hb3 := e3 e1
  rw [hb3] at hby hfew
  have hv1 : (vv == 0) = false := beq_eq_false_iff_ne.2 hv0
  have HV0 := Lh hv0
  obtain ⟨m, hm0⟩ : ∃ m, m = t.length := ⟨_, rfl⟩
  have HM := Lh hm0
  have es : smE S C = if suOk t then 0 else 90 := by unfold smE; rw [if_pos e1, hb3]
  have ev : smV S C = if suOk t then suV t else (0, 0, 0) := by unfold smV; rw [if_pos e1, hb3]
  by_cases hok : suOk t
  ·rw [if_pos hok] at es ev
   rw [es, ev]
   rw [show decide ((0 : Int) = 0) = true from rfl]
   obtain ⟨h13, h41⟩ := hok
   obtain ⟨⟨⟨hv0', hv1'⟩, hg0, hg1⟩, ha0, ha1⟩ := suV_is h13 hby
   obtain rfl : m = 13 := hm0.trans h13
   have HBY := Lh hby
   have HSV := Lh (show suV t = (val (t.take 4), t.getD 4 0, val (t.drop 5)) from rfl)
   have HD := Lh (show (t.drop 5).take (13 - 5) = t.drop 5 from List.take_of_length_le (by rw [List.length_drop, h13]; exact Nat.le_refl _))
   have H13 := Lh h13
   rw [show suV t = (val (t.take 4), t.getD 4 0, val (t.drop 5)) from rfl] at hv0' hv1' ha0 ha1 ⊢
   dsimp only at hv0' hv1' ha0 ha1 ⊢
   obtain ⟨v, hv⟩ : ∃ v, v = val (t.take 4) := ⟨_, rfl⟩
   obtain ⟨a, ha⟩ : ∃ v, v = t.getD 4 0 := ⟨_, rfl⟩
   obtain ⟨g, hg⟩ : ∃ v, v = val (t.drop 5) := ⟨_, rfl⟩
   rw [← hv] at hv0' hv1'
   rw [← ha] at ha0 ha1 h41
   rw [← hv, ← ha, ← hg]
   have EV := Lh hv
   have EA := Lh ha
   have EG := Lh hg
   have e1' : IntKind.u32.wrap v = v := wraps_u32 v hv0' (by omega)
   have e2' : IntKind.i64.wrap a = a := wrap_i64_byte ⟨ha0, ha1⟩
   have h41' : ¬ 1 < a := by omega
   clear e1 e3 es ev hb3 hby hfew hvv ht hge hsl hs hm X0 hb0 hb1 Y0 hs0 hv0' hv1' hg0 hg1 ha0 ha1 hv ha hg hm0 h13 h41 hv0
   go_enter Tryz.func90, Tryz.ntmps90
   go_wp2_with fail
   rw [← hw0, ← hw1]
   clear hw0 hw1
   refine (G.out _ X.out.dsk).mono ?_
   rintro e w2 ⟨Ah, ch, Bh, rfl, hown, hbb, hb⟩
   obtain rfl := hbb HV0.out
   rw [H13.out] at hown ⊢
   obtain ⟨bb, rfl, _, q4, _, _⟩ := owns_int_at (j := 4) hown (by decide)
   rw [← EA.out] at q4
   have RB := Lh (Arg.own hown)
   have hc : 13 ≤ ch := RB.out.cap
   have hcm : ch ≤ maxLen := RB.out.max
   unfold maxLen at hcm
   have hc4 : (4 : Int) ≤ (ch : Int) := by omega
   have hc5 : (5 : Int) < (ch : Int) := by omega
   have hc6 : 5 < ch := by omega
   have hc13 : (13 : Int) ≤ (ch : Int) := by omega
   have B := Lh (B.out.trans (hb.mono B.out.size))
   have Y := Lh (Y.out.below hb Y.out.lt)
   have N1 := Lh (fun wx hx => number_any (some ⟨bb, 0, none⟩) 4 ch (Bh.take 4) wx wx.heap.size ((RB.out.below (w' := wx) hx).first (m := 4) (by decide)).seq (by rw [List.length_take, H13.out]; rfl) (by decide) (fun z hz => HBY.out z (List.mem_of_mem_take hz)))
   rw [← EV.out] at N1
   have N2 := Lh (show ∀ wx, Below w2.heap.size w2 wx → Calls Tryz.prog 105 #[.slice (some ⟨bb, 5, none⟩) 8 (ch - 5)] wx (fun e w' => e = .returned (.int .u64 (val ((Bh.drop 5).take (13 - 5)))) ∧ wx = w') from fun wx hx => number_any (some ⟨bb, 0 + 5, none⟩) (13 - 5) (ch - 5) ((Bh.drop 5).take (13 - 5)) wx wx.heap.size ((RB.out.below (w' := wx) hx).piece (lo := 5) (hi := 13) (by decide) (by decide)).seq (by rw [HD.out, List.length_drop, H13.out]) (by decide) (fun z hz => HBY.out z (List.mem_of_mem_drop (List.mem_of_mem_take hz))))
   rw [HD.out, ← EG.out] at N2
   have keepX : ∀ wx, Below w2.heap.size w2 wx → wx.cell? ⟨bb, 4, none⟩ = some (.int .u8 a) := fun wx hx => by
    obtain ⟨b', e, _, q4, _, _⟩ := owns_int_at (j := 4) (owns_below hown hx) (by decide)
    injection e with e; injection e with e; subst e
    rw [← EA.out] at q4
    exact q4
   have hk3 : ((((w2.setCell ⟨w.heap.size + 1, 0, none⟩ (.int .u32 v)).setCell ⟨w.heap.size + 1, 1, none⟩ (.int .i64 a)).setCell ⟨w.heap.size + 1, 2, none⟩ (.int .u64 g)).drew).cell? ⟨bb, 4, none⟩ = some (.int .u8 a) := by
    have o1 := owns_other_box hown Y.out (by decide) 0 (.int .u32 v)
    have o2 := owns_other_box o1 (Y.out.set 0 (.int .u32 v)) (by decide) 1 (.int .i64 a)
    have o3 := owns_other_box o2 ((Y.out.set 0 (.int .u32 v)).set 1 (.int .i64 a)) (by decide) 2 (.int .u64 g)
    obtain ⟨b', e, _, q4, _, _⟩ := owns_int_at (j := 4) o3 (by decide)
    injection e with e; injection e with e; subst e
    rw [← EA.out] at q4
    exact q4
   clear hb x0 x1 y0 y1 y2 hown hbb G
   go_upto_region 6 with fail
   obtain ⟨y0, y1, y2⟩ := Y.out.tri
   have f0 := Y.out.free 0
   have f1 := Y.out.free 1
   have f2 := Y.out.free 2
   have hcur : Below w2.heap.size w2 w2.drew := below_drewN (Below.refl _ _) 1
   have hkX := keepX _ hcur
   have HK3 := Lh hk3
   clear hk3
   go_region_held3 (fun w' => w'.cell? ⟨bb, 4, none⟩ = some (.int .u8 a))
    (first | exact hkX | exact HK3.out | go_keep)
    (first
     | (go_at_call 105; with_reducible refine (N1.out _ hcur).mono ?_; rintro e w3 ⟨rfl, rfl⟩)
     | (go_at_call 105; with_reducible refine (N2.out _ hcur).mono ?_; rintro e w3 ⟨rfl, rfl⟩))
   clear hcur hkX keepX N1 N2 y0 y1 y2 f0 f1 f2
   go_wp2
   have z := Y.out.three (.int .u32 v) (.int .i64 a) (.int .u64 g)
   obtain ⟨z0, z1, z2⟩ := z.tri
   refine bodyPost_ret (v := .tuple #[supV v a g, .bool true]) ?_ rfl ⟨rfl, below_drewN (((B.out.setCell (p := ⟨w.heap.size + 1, 0, none⟩) (by simp) _).setCell (p := ⟨w.heap.size + 1, 1, none⟩) (by simp) _).setCell (p := ⟨w.heap.size + 1, 2, none⟩) (by simp) _) 1⟩
   simp [results, Tryz.f90, go_sem, z0, z1, z2]
  ·rw [if_neg hok] at es ev
   rw [es, ev]
   dsimp only
   rw [show decide ((90 : Int) = 0) = false from rfl]
   by_cases h13 : t.length = 13
   ·have h41 : 1 < t.getD 4 0 := by
     have : ¬ (t.getD 4 0 ≤ 1) := fun h => hok ⟨h13, h⟩
     omega
    obtain rfl : m = 13 := hm0.trans h13
    have H13 := Lh h13
    obtain ⟨a, ha⟩ : ∃ v, v = t.getD 4 0 := ⟨_, rfl⟩
    rw [← ha] at h41
    have EA := Lh ha
    clear e1 e3 es ev hb3 hby hfew hvv ht hge hsl hs hm X0 hb0 hb1 Y0 hs0 hv0 ha h13 hok hm0
    go_enter Tryz.func90, Tryz.ntmps90
    go_wp2_with fail
    rw [← hw0, ← hw1]
    clear hw0 hw1
    refine (G.out _ X.out.dsk).mono ?_
    rintro e w2 ⟨Ah, ch, Bh, rfl, hown, hbb, hb⟩
    obtain rfl := hbb HV0.out
    rw [H13.out] at hown ⊢
    obtain ⟨bb, rfl, _, q4, _, _⟩ := owns_int_at (j := 4) hown (by decide)
    rw [← EA.out] at q4
    have B := Lh (B.out.trans (hb.mono B.out.size))
    have Y := Lh (Y.out.below hb Y.out.lt)
    clear hb x0 x1 y0 y1 y2 hown hbb G
    obtain ⟨y0, y1, y2⟩ := Y.out.tri
    have f0 := Y.out.free 0
    have f1 := Y.out.free 1
    have f2 := Y.out.free 2
    go_wp2
    have z := Y.out.three (.int .u32 0) (.int .i64 0) (.int .u64 0)
    obtain ⟨z0, z1, z2⟩ := z.tri
    refine bodyPost_ret (v := .tuple #[supV 0 0 0, .bool false]) ?_ rfl ⟨rfl, (((B.out.setCell (p := ⟨w.heap.size + 1, 0, none⟩) (by simp) _).setCell (p := ⟨w.heap.size + 1, 1, none⟩) (by simp) _).setCell (p := ⟨w.heap.size + 1, 2, none⟩) (by simp) _)⟩
    clear y0 y1 y2 f0 f1 f2 q4
    simp [results, Tryz.f90, go_sem, z0, z1, z2]
   ·have hm13 : ((m : Int) != 13) = true := bne_iff_ne.2 (by omega)
    clear e1 e3 es ev hb3 hby hfew hvv ht hge hsl hs hm X0 hb0 hb1 Y0 hs0 hv0 h13 hok hm0
    go_enter Tryz.func90, Tryz.ntmps90
    go_wp2_with fail
    rw [← hw0, ← hw1]
    clear hw0 hw1
    refine (G.out _ X.out.dsk).mono ?_
    rintro e w2 ⟨Ah, ch, Bh, rfl, hown, hbb, hb⟩
    obtain rfl := hbb HV0.out
    rw [← HM.out]
    have B := Lh (B.out.trans (hb.mono B.out.size))
    have Y := Lh (Y.out.below hb Y.out.lt)
    clear hb x0 x1 y0 y1 y2 hown hbb G
    obtain ⟨y0, y1, y2⟩ := Y.out.tri
    have f0 := Y.out.free 0
    have f1 := Y.out.free 1
    have f2 := Y.out.free 2
    go_wp2
    have z := Y.out.three (.int .u32 0) (.int .i64 0) (.int .u64 0)
    obtain ⟨z0, z1, z2⟩ := z.tri
    refine bodyPost_ret (v := .tuple #[supV 0 0 0, .bool false]) ?_ rfl ⟨rfl, (((B.out.setCell (p := ⟨w.heap.size + 1, 0, none⟩) (by simp) _).setCell (p := ⟨w.heap.size + 1, 1, none⟩) (by simp) _).setCell (p := ⟨w.heap.size + 1, 2, none⟩) (by simp) _)⟩
    clear y0 y1 y2 f0 f1 f2
    simp [results, Tryz.f90, go_sem, z0, z1, z2]
theorem smE_or (S : List Sec) (C : List Pnd) : smE S C = 0 ∨ (smE S C = 90 ∧ smV S C = (0, 0, 0)) := by
 unfold smE smV
 by_cases h : crE S C 0 1 = 0
 ·rw [if_pos h, if_pos h]
  by_cases h2 : suOk (crB S C 0 1)
  ·rw [if_pos h2]; exact .inl rfl
  ·rw [if_neg h2, if_neg h2]; exact .inr ⟨rfl, rfl⟩
 ·rw [if_neg h]; exact .inl rfl
theorem rread9_any (P T A M W Q : Int) (D : Option Addr) (n c : Nat) (D' : Option Addr) (n' c' : Nat) (S : List Sec) (C : List Pnd) (w : World) (hq : Dsk w D n c D' n' c' S C) (hs : SmallD S C) :
  Calls Tryz.prog 48 #[cfgV P T A M W Q, diskV D n c D' n' c'] w (SupOut w (srV P T A M W Q S C) (srE P T A M W Q S C)) := by
 obtain ⟨x, hbel⟩ := SBox.new P T A M W Q 0 0 0 hq
 obtain ⟨w0, hw0⟩ : ∃ x : World, x = ((w.alloc (.cells #[.int .i64 P, .int .i64 T, .int .i64 A, .int .i64 M, .int .i64 W, .int .i64 Q] 36)).alloc (.cells #[.slice D n c, .slice D' n' c'] 25)).alloc (.cells #[.int .u32 0, .int .i64 0, .int .u64 0] 29) := ⟨_, rfl⟩
 rw [← hw0] at x hbel
 have X := Lh x
 have B := Lh hbel
 have CK := Lh (fun wx hx => rmayT_any P T A M W Q D n c D' n' c' S C wx hx hs)
 obtain ⟨c0, c1, c2, c3, c4, c5, d0, d1, q0, q1, q2⟩ := x.cells
 unfold SupOut
 by_cases hm : mayT P T A M W Q S C
 ·rw [decide_eq_true hm] at CK
  rw [show srE P T A M W Q S C = smE S C from if_pos hm, show srV P T A M W Q S C = smV S C from if_pos hm]
  have GT := Lh (fun wx hx => rgot9_any P T A M W Q D n c D' n' c' S C wx hx hs hm)
  obtain ⟨v, hv⟩ : ∃ v, v = (smV S C).1 := ⟨_, rfl⟩
  obtain ⟨a, ha⟩ : ∃ v, v = (smV S C).2.1 := ⟨_, rfl⟩
  obtain ⟨g, hg⟩ : ∃ v, v = (smV S C).2.2 := ⟨_, rfl⟩
  rw [← hv, ← ha, ← hg] at GT ⊢
  rcases smE_or S C with h0 | ⟨h9, hz⟩
  ·rw [h0] at GT ⊢
   rw [show decide ((0 : Int) = 0) = true from rfl] at GT
   clear hm h0 hv ha hg hq hs x hbel
   go_enter Tryz.func48, Tryz.ntmps48
   go_wp2_with fail
   rw [← hw0]
   clear hw0
   refine (CK.out _ X.out.two.dsk.dsk).mono ?_
   rintro e w1 ⟨rfl, hb⟩
   have B := Lh (B.out.trans (hb.mono B.out.size))
   have X := Lh (X.out.below hb)
   clear hb CK c0 c1 c2 c3 c4 c5 d0 d1 q0 q1 q2
   obtain ⟨c0, c1, c2, c3, c4, c5, d0, d1, q0, q1, q2⟩ := X.out.cells
   go_wp2_with fail
   refine (GT.out _ X.out.two.dsk.dsk).mono ?_
   rintro e w2 ⟨rfl, hb⟩
   have hb := hb.alloc hb.size (.cells #[.int .u32 v, .int .i64 a, .int .u64 g] 29)
   have Y0 := Blk.new w2 29 [.int .u32 v, .int .i64 a, .int .u64 g]
   have B := Lh (B.out.trans (hb.mono B.out.size))
   have X := Lh (X.out.below hb)
   clear hb GT c0 c1 c2 c3 c4 c5 d0 d1 q0 q1 q2
   go_upto_region 4 with fail
   obtain ⟨G2, hG⟩ : ∃ x, x = w2.heap.size := ⟨_, rfl⟩
   rw [← hG] at Y0 ⊢
   obtain ⟨w3, hW⟩ : ∃ x : World, x = w2.alloc (.cells #[.int .u32 v, .int .i64 a, .int .u64 g] 29) := ⟨_, rfl⟩
   rw [← hW] at X B Y0 ⊢
   clear hW hG
   obtain ⟨c0, c1, c2, c3, c4, c5, d0, d1, q0, q1, q2⟩ := X.out.cells
   obtain ⟨y0, y1, y2⟩ := Y0.tri
   clear Y0
   have f0 := X.out.sup.free 0
   have f1 := X.out.sup.free 1
   have f2 := X.out.sup.free 2
   go_wp2
   have z := X.out.sup.three (.int .u32 v) (.int .i64 a) (.int .u64 g)
   obtain ⟨z0, z1, z2⟩ := z.tri
   refine bodyPost_ret (v := .tuple #[supV v a g, .int .i64 0]) ?_ rfl ⟨rfl, (((B.out.setCell (p := ⟨w.heap.size + 2, 0, none⟩) (by simp) _).setCell (p := ⟨w.heap.size + 2, 1, none⟩) (by simp) _).setCell (p := ⟨w.heap.size + 2, 2, none⟩) (by simp) _)⟩
   clear c0 c1 c2 c3 c4 c5 d0 d1 q0 q1 q2 f0 f1 f2 y0 y1 y2
   simp [results, Tryz.f48, go_sem, z0, z1, z2]
  ·rw [h9] at GT ⊢
   rw [hz] at hv ha hg
   dsimp only at hv ha hg
   subst hv; subst ha; subst hg
   rw [show decide ((90 : Int) = 0) = false from rfl] at GT
   clear hm h9 hz hq hs x hbel
   go_enter Tryz.func48, Tryz.ntmps48
   go_wp2_with fail
   rw [← hw0]
   clear hw0
   refine (CK.out _ X.out.two.dsk.dsk).mono ?_
   rintro e w1 ⟨rfl, hb⟩
   have B := Lh (B.out.trans (hb.mono B.out.size))
   have X := Lh (X.out.below hb)
   clear hb CK c0 c1 c2 c3 c4 c5 d0 d1 q0 q1 q2
   obtain ⟨c0, c1, c2, c3, c4, c5, d0, d1, q0, q1, q2⟩ := X.out.cells
   go_wp2_with fail
   refine (GT.out _ X.out.two.dsk.dsk).mono ?_
   rintro e w2 ⟨rfl, hb⟩
   have hb := hb.alloc hb.size (.cells #[.int .u32 0, .int .i64 0, .int .u64 0] 29)
   have Y0 := Blk.new w2 29 [.int .u32 0, .int .i64 0, .int .u64 0]
   have B := Lh (B.out.trans (hb.mono B.out.size))
   have X := Lh (X.out.below hb)
   clear hb GT c0 c1 c2 c3 c4 c5 d0 d1 q0 q1 q2
   go_upto_region 4 with fail
   obtain ⟨G2, hG⟩ : ∃ x, x = w2.heap.size := ⟨_, rfl⟩
   rw [← hG] at Y0 ⊢
   obtain ⟨w3, hW⟩ : ∃ x : World, x = w2.alloc (.cells #[.int .u32 0, .int .i64 0, .int .u64 0] 29) := ⟨_, rfl⟩
   rw [← hW] at X B Y0 ⊢
   clear hW hG
   obtain ⟨c0, c1, c2, c3, c4, c5, d0, d1, q0, q1, q2⟩ := X.out.cells
   obtain ⟨y0, y1, y2⟩ := Y0.tri
   clear Y0
   have f0 := X.out.sup.free 0
   have f1 := X.out.sup.free 1
   have f2 := X.out.sup.free 2
   go_wp2
   have z := X.out.sup.three (.int .u32 0) (.int .i64 0) (.int .u64 0)
   obtain ⟨z0, z1, z2⟩ := z.tri
   refine bodyPost_ret (v := .tuple #[supV 0 0 0, .int .i64 90]) ?_ rfl ⟨rfl, (((B.out.setCell (p := ⟨w.heap.size + 2, 0, none⟩) (by simp) _).setCell (p := ⟨w.heap.size + 2, 1, none⟩) (by simp) _).setCell (p := ⟨w.heap.size + 2, 2, none⟩) (by simp) _)⟩
   clear c0 c1 c2 c3 c4 c5 d0 d1 q0 q1 q2 f0 f1 f2 y0 y1 y2
   simp [results, Tryz.f48, go_sem, z0, z1, z2]
 ·rw [decide_eq_false hm] at CK
  rw [show srE P T A M W Q S C = 8 from if_neg hm, show srV P T A M W Q S C = (0, 0, 0) from if_neg hm]
  dsimp only
  clear hm hq hs x hbel
  go_enter Tryz.func48, Tryz.ntmps48
  go_wp2_with fail
  rw [← hw0]
  clear hw0
  refine (CK.out _ X.out.two.dsk.dsk).mono ?_
  rintro e w1 ⟨rfl, hb⟩
  have B := Lh (B.out.trans (hb.mono B.out.size))
  have X := Lh (X.out.below hb)
  clear hb CK c0 c1 c2 c3 c4 c5 d0 d1 q0 q1 q2
  obtain ⟨c0, c1, c2, c3, c4, c5, d0, d1, q0, q1, q2⟩ := X.out.cells
  have f0 := X.out.sup.free 0
  have f1 := X.out.sup.free 1
  have f2 := X.out.sup.free 2
  go_wp2
  have z := X.out.sup.three (.int .u32 0) (.int .i64 0) (.int .u64 0)
  obtain ⟨z0, z1, z2⟩ := z.tri
  refine bodyPost_ret (v := .tuple #[supV 0 0 0, .int .i64 8]) ?_ rfl ⟨rfl, (((B.out.setCell (p := ⟨w.heap.size + 2, 0, none⟩) (by simp) _).setCell (p := ⟨w.heap.size + 2, 1, none⟩) (by simp) _).setCell (p := ⟨w.heap.size + 2, 2, none⟩) (by simp) _)⟩
  clear c0 c1 c2 c3 c4 c5 d0 d1 q0 q1 q2 f0 f1 f2
  simp [results, Tryz.f48, go_sem, z0, z1, z2]
theorem rplan9_any (P T A M W Q : Int) (D : Option Addr) (n c : Nat) (D' : Option Addr) (n' c' : Nat) (S : List Sec) (C : List Pnd) (v a g : Int) (w : World) (hq : Dsk w D n c D' n' c' S C) (hs : SmallD S C) (hi : isS (v, a, g)) :
  Calls Tryz.prog 53 #[cfgV P T A M W Q, diskV D n c D' n' c', supV v a g] w (RPlan w (spL P T A M W Q S C (v, a, g)) (spE P T A M W Q S C (v, a, g))) := by
 obtain ⟨x, hbel⟩ := SBox.new P T A M W Q v a g hq
 obtain ⟨w0, hw0⟩ : ∃ x : World, x = ((w.alloc (.cells #[.int .i64 P, .int .i64 T, .int .i64 A, .int .i64 M, .int .i64 W, .int .i64 Q] 36)).alloc (.cells #[.slice D n c, .slice D' n' c'] 25)).alloc (.cells #[.int .u32 v, .int .i64 a, .int .u64 g] 29) := ⟨_, rfl⟩
 rw [← hw0] at x hbel
 have X := Lh x
 have B := Lh hbel
 have CK := Lh (fun wx hx => rmayT_any P T A M W Q D n c D' n' c' S C wx hx hs)
 obtain ⟨c0, c1, c2, c3, c4, c5, d0, d1, q0, q1, q2⟩ := x.cells
 by_cases hm : mayT P T A M W Q S C
 ·rw [decide_eq_true hm] at CK
  by_cases ha : arS a
  ·have hE : spE P T A M W Q S C (v, a, g) = cpE S C 0 1 (suT (v, a, g)) := (if_pos hm).trans (if_pos ha)
   have hL : spL P T A M W Q S C (v, a, g) = cpL S C 0 1 (suT (v, a, g)) := by
    unfold spL cpL
    rw [hE]
    split <;> rfl
   rw [hE, hL]
   have RW := Lh (fun wx : World => rrow9_any v a g hi ha wx)
   have PL := Lh (fun A0 c0 wx hx hy hsp => rplan6_any D n c D' n' c' S C 0 1 A0 13 c0 (suT (v, a, g)) wx hx hs hy (suT_byte _) (by decide) hsp)
   unfold RPlan at PL ⊢
   obtain ⟨t, ht⟩ : ∃ t, t = suT (v, a, g) := ⟨_, rfl⟩
   rw [← ht] at PL RW ⊢
   obtain ⟨L, hL⟩ : ∃ L, L = cpL S C 0 1 t := ⟨_, rfl⟩
   obtain ⟨E, hE⟩ : ∃ L, L = cpE S C 0 1 t := ⟨_, rfl⟩
   rw [← hL, ← hE] at PL ⊢
   obtain ⟨m, hmm⟩ : ∃ m, m = L.length := ⟨_, rfl⟩
   rw [← hmm] at PL ⊢
   have ha0 : ¬ a < 0 := by unfold arS at ha; omega
   have ha1 : ¬ 1 < a := by unfold arS at ha; omega
   clear hm ha hq hs hi x hbel ht hL hE hmm
   go_enter Tryz.func53, Tryz.ntmps53
   go_wp2_with fail
   rw [← hw0]
   clear hw0
   refine (CK.out _ X.out.two.dsk.dsk).mono ?_
   rintro e w1 ⟨rfl, hb⟩
   have B := Lh (B.out.trans (hb.mono B.out.size))
   have X := Lh (X.out.below hb)
   clear hb CK c0 c1 c2 c3 c4 c5 d0 d1 q0 q1 q2
   obtain ⟨c0, c1, c2, c3, c4, c5, d0, d1, q0, q1, q2⟩ := X.out.cells
   go_upto_region 5 with fail
   have hcur : Below w1.heap.size w1 w1.drew := below_drewN (Below.refl _ _) 1
   have keepX : ∀ wx, Below w1.heap.size w1 wx → wx.cell? ⟨w.heap.size + 1, 0, none⟩ = some (.slice D n c) ∧ wx.cell? ⟨w.heap.size + 1, 1, none⟩ = some (.slice D' n' c') ∧ wx.cell? ⟨w.heap.size + 2, 0, none⟩ = some (.int .u32 v) ∧ wx.cell? ⟨w.heap.size + 2, 1, none⟩ = some (.int .i64 a) ∧ wx.cell? ⟨w.heap.size + 2, 2, none⟩ = some (.int .u64 g) := fun wx hx => by
    obtain ⟨_, _, _, _, _, _, d0, d1, q0, q1, q2⟩ := (X.out.below hx).cells
    exact ⟨d0, d1, q0, q1, q2⟩
   have hkX := keepX _ hcur
   go_region_held3 (fun w' => w'.cell? ⟨w.heap.size + 1, 0, none⟩ = some (.slice D n c) ∧ w'.cell? ⟨w.heap.size + 1, 1, none⟩ = some (.slice D' n' c') ∧ w'.cell? ⟨w.heap.size + 2, 0, none⟩ = some (.int .u32 v) ∧ w'.cell? ⟨w.heap.size + 2, 1, none⟩ = some (.int .i64 a) ∧ w'.cell? ⟨w.heap.size + 2, 2, none⟩ = some (.int .u64 g))
    (first | exact hkX | go_keep)
    (first
     | (go_at_call 96; with_reducible refine (RW.out _).mono ?_; rintro e w3 ⟨AR, cR, rfl, hown, hb⟩; have hcur := hcur.trans (hb.mono hcur.size); have hkX := keepX _ hcur)
     | (go_at_call 95; have hM := hcur.size; with_reducible refine (PL.out AR cR _ (X.out.below hcur).two.dsk.dsk (Arg.own hown) (fun a ha => by obtain ⟨g, e, _⟩ := owns_int_at (j := 0) hown (by decide); rw [e] at ha; injection ha with ha; subst ha; exact .inl rfl)).mono ?_; rintro e w4 ⟨AL, cL, rfl, hownL, hb⟩; have hcur := hcur.trans (hb.mono hcur.size); have hkX := keepX _ hcur))
   have OL := Lh hownL
   have B := Lh (B.out.trans (hcur.mono B.out.size))
   clear hcur hkX keepX hown hownL hb hM RW PL c0 c1 c2 c3 c4 c5 d0 d1 q0 q1 q2
   go_wp2
   go_ret2
   exact ⟨AL, cL, rfl, OL.out, B.out⟩
  ·have hE : spE P T A M W Q S C (v, a, g) = 2 := (if_pos hm).trans (if_neg ha)
   have hL : spL P T A M W Q S C (v, a, g) = [] := by
    unfold spL
    rw [hE]
    rfl
   rw [hE, hL]
   by_cases ha0 : a < 0
   ·clear hm ha hq hs hi x hbel hE hL
    go_enter Tryz.func53, Tryz.ntmps53
    go_wp2_with fail
    rw [← hw0]
    clear hw0
    refine (CK.out _ X.out.two.dsk.dsk).mono ?_
    rintro e w1 ⟨rfl, hb⟩
    have B := Lh (B.out.trans (hb.mono B.out.size))
    have X := Lh (X.out.below hb)
    clear hb CK c0 c1 c2 c3 c4 c5 d0 d1 q0 q1 q2
    obtain ⟨c0, c1, c2, c3, c4, c5, d0, d1, q0, q1, q2⟩ := X.out.cells
    go_wp2
    go_ret2
    exact RPlan.none _ _ _ _ rfl B.out
   ·have ha1 : 1 < a := by unfold arS at ha; omega
    clear hm ha hq hs hi x hbel hE hL
    go_enter Tryz.func53, Tryz.ntmps53
    go_wp2_with fail
    rw [← hw0]
    clear hw0
    refine (CK.out _ X.out.two.dsk.dsk).mono ?_
    rintro e w1 ⟨rfl, hb⟩
    have B := Lh (B.out.trans (hb.mono B.out.size))
    have X := Lh (X.out.below hb)
    clear hb CK c0 c1 c2 c3 c4 c5 d0 d1 q0 q1 q2
    obtain ⟨c0, c1, c2, c3, c4, c5, d0, d1, q0, q1, q2⟩ := X.out.cells
    go_wp2
    go_ret2
    exact RPlan.none _ _ _ _ rfl B.out
 ·rw [decide_eq_false hm] at CK
  have hE : spE P T A M W Q S C (v, a, g) = 8 := if_neg hm
  have hL : spL P T A M W Q S C (v, a, g) = [] := by
   unfold spL
   rw [hE]
   rfl
  rw [hE, hL]
  clear hm hq hs hi x hbel hE hL
  go_enter Tryz.func53, Tryz.ntmps53
  go_wp2_with fail
  rw [← hw0]
  clear hw0
  refine (CK.out _ X.out.two.dsk.dsk).mono ?_
  rintro e w1 ⟨rfl, hb⟩
  have B := Lh (B.out.trans (hb.mono B.out.size))
  have X := Lh (X.out.below hb)
  clear hb CK c0 c1 c2 c3 c4 c5 d0 d1 q0 q1 q2
  obtain ⟨c0, c1, c2, c3, c4, c5, d0, d1, q0, q1, q2⟩ := X.out.cells
  go_wp2
  go_ret2
  exact RPlan.none _ _ _ _ rfl B.out
end Go.Proofs.YtifgcfepbenpjaaGreat
