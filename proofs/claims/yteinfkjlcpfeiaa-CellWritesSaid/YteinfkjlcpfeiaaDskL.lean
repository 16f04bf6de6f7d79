/- Layer 5, package disk: what a write of a fate leaves. -/
import Derived.Test.YteinfkjlcpfeiaaDskP4
import Derived.Test.YteinfkjlcpfeiaaHeldOne
import Derived.Deep.Cut
namespace Go.Proofs.Yteinfkjlcpfeiaa
open Go.RowKit
set_option linter.unusedVariables false

/-- Noughts, told without their block. -/
theorem noughts_out (w : World) : Calls Try.prog 49 #[] w fun e w' => ∃ g, e = .returned (.slice (some ⟨g, 0, none⟩) 32 32) ∧ w'.ownsRow w.heap.size 5 1 (.slice (some ⟨g, 0, none⟩) 32 32) 32 (ints .u8 noughts) ∧ Below w.heap.size w w' :=
  (noughts_any w).mono fun e w' ⟨h1, h2⟩ => ⟨_, h1, by rw [h2]; exact nown32 w, by rw [h2]; exact (Below.refl _ _).alloc (Nat.le_refl _) _⟩

/-- Six cells written over. -/
theorem Blk.six {w : World} {g : Nat} {t : TypeId} {a0 a1 a2 a3 a4 a5 : Value} (h : Blk w g t [a0, a1, a2, a3, a4, a5]) (b0 b1 b2 b3 b4 b5 : Value) : Blk ((((((w.setCell ⟨g, 0, none⟩ b0).setCell ⟨g, 1, none⟩ b1).setCell ⟨g, 2, none⟩ b2).setCell ⟨g, 3, none⟩ b3).setCell ⟨g, 4, none⟩ b4).setCell ⟨g, 5, none⟩ b5) g t [b0, b1, b2, b3, b4, b5] := ((((((h.set 0 b0).set 1 b1).set 2 b2).set 3 b3).set 4 b4).set 5 b5)
theorem owns_six {w : World} {e t : TypeId} {base g s : Nat} {v : Value} {k : Nat} {xs : List Value} {a0 a1 a2 a3 a4 a5 : Value} (ho : w.ownsRow base e s v k xs) (h : Blk w g t [a0, a1, a2, a3, a4, a5]) (ht : t ≠ e) (b0 b1 b2 b3 b4 b5 : Value) : ((((((w.setCell ⟨g, 0, none⟩ b0).setCell ⟨g, 1, none⟩ b1).setCell ⟨g, 2, none⟩ b2).setCell ⟨g, 3, none⟩ b3).setCell ⟨g, 4, none⟩ b4).setCell ⟨g, 5, none⟩ b5).ownsRow base e s v k xs := (owns_other_box (owns_other_box (owns_other_box (owns_other_box (owns_other_box (owns_other_box ho h ht 0 b0) (h.set 0 b0) ht 1 b1) ((h.set 0 b0).set 1 b1) ht 2 b2) (((h.set 0 b0).set 1 b1).set 2 b2) ht 3 b3) ((((h.set 0 b0).set 1 b1).set 2 b2).set 3 b3) ht 4 b4) (((((h.set 0 b0).set 1 b1).set 2 b2).set 3 b3).set 4 b4) ht 5 b5)
theorem below_six {B g : Nat} {w0 w : World} (h : Below B w0 w) (hg : B ≤ g) (b0 b1 b2 b3 b4 b5 : Value) : Below B w0 ((((((w.setCell ⟨g, 0, none⟩ b0).setCell ⟨g, 1, none⟩ b1).setCell ⟨g, 2, none⟩ b2).setCell ⟨g, 3, none⟩ b3).setCell ⟨g, 4, none⟩ b4).setCell ⟨g, 5, none⟩ b5) := ((((((h.setCell (p := ⟨g, 0, none⟩) hg b0).setCell (p := ⟨g, 1, none⟩) hg b1).setCell (p := ⟨g, 2, none⟩) hg b2).setCell (p := ⟨g, 3, none⟩) hg b3).setCell (p := ⟨g, 4, none⟩) hg b4).setCell (p := ⟨g, 5, none⟩) hg b5)

set_option maxRecDepth 100000 in
set_option maxHeartbeats 1600000 in
theorem left0 (A : Option Addr) (n c : Nat) (b : Bool) (t : Int) (A' : Option Addr) (n' c' : Nat) (w : World) :
    Calls Try.prog 89 #[.agg #[.slice A n c, .bool b], .agg #[.int .i64 t, .slice A' n' c'], .int .u8 0] w fun e w' => e = .returned (.agg #[.slice A n c, .bool b]) ∧ Below w.heap.size w w' := by
  obtain ⟨w1, hw1⟩ : ∃ w1, w1 = ((w.alloc (.cells #[.slice A n c, .bool b] 39)).alloc (.cells #[.int .i64 t, .slice A' n' c'] 63)).alloc (.cells #[.slice none 0 0, .bool false] 39) := ⟨_, rfl⟩
  have hb : Below w.heap.size w w1 := by rw [hw1]; exact (((Below.refl _ _).alloc (Nat.le_refl _) _).alloc (by simp) _).alloc (by simp; omega) _
  have b0 : Blk w1 w.heap.size 39 [.slice A n c, .bool b] := by rw [hw1]; exact ((Blk.new w 39 [.slice A n c, .bool b]).grown (World.grownBy_alloc _ _ none) (by simp)).grown (World.grownBy_alloc _ _ none) (by simp)
  have b1 : Blk w1 (w.heap.size + 1) 63 [.int .i64 t, .slice A' n' c'] := by
    have := Blk.new (w.alloc (.cells #[.slice A n c, .bool b] 39)) 63 [.int .i64 t, .slice A' n' c']
    rw [World.size_alloc] at this
    rw [hw1]; exact this.grown (World.grownBy_alloc _ _ none) (by simp)
  have b2 : Blk w1 (w.heap.size + 2) 39 [.slice none 0 0, .bool false] := by
    have := Blk.new ((w.alloc (.cells #[.slice A n c, .bool b] 39)).alloc (.cells #[.int .i64 t, .slice A' n' c'] 63)) 39 [.slice none 0 0, .bool false]
    rw [World.size_alloc, World.size_alloc] at this
    rw [hw1]; exact this
  have hsz : w1.heap.size = w.heap.size + 3 := by rw [hw1]; simp
  have B0 := Lib.hid b0
  have B1 := Lib.hid b1
  have B2 := Lib.hid b2
  have HB := Lib.hid hb
  have hle : w.heap.size ≤ w1.heap.size := by omega
  clear hb b0 b1 b2 hsz
  go_enter Try.func89, Try.ntmps89
  go_upto_region 1 with fail
  rw [← hw1]
  clear hw1
  have keepX : ∀ wx, Below w1.heap.size w1 wx → wx.cell? ⟨w.heap.size, 0, none⟩ = some (.slice A n c) ∧ wx.cell? ⟨w.heap.size, 1, none⟩ = some (.bool b) ∧ wx.cell? ⟨w.heap.size + 1, 1, none⟩ = some (.slice A' n' c') := fun wx hx =>
    ⟨(B0.out.below hx B0.out.lt).cell 0, (B0.out.below hx B0.out.lt).cell 1, (B1.out.below hx B1.out.lt).cell 1⟩
  have hcur : Below w1.heap.size w1 w1.drew := below_drewN (Below.refl _ _) 1
  have hHeld := keepX _ hcur
  refine wp_region_to 8 (fun w' => w'.cell? ⟨w.heap.size, 0, none⟩ = some (.slice A n c) ∧ w'.cell? ⟨w.heap.size, 1, none⟩ = some (.bool b) ∧ w'.cell? ⟨w.heap.size + 1, 1, none⟩ = some (.slice A' n' c')) (by kernel_rfl) ?_
  refine wpAnyG_take (i := 0) (v := ?_) rfl (by kernel_rfl) (by kernel_rfl) (by kernel_rfl) (by kernel_rfl) (by kernel_rfl) rfl (fun _ _ _ h => h) (Or.inl ⟨by rfl, ?_⟩) hHeld ?_
  rotate_left
  · (intro w' hSw; (try dsimp only at hSw); go_simp; (try with_reducible rfl))
  simp only [Act.put, List.setIfInBounds_toArray]
  refine wpAnyG_take (i := 1) (v := ?_) rfl (by kernel_rfl) (by kernel_rfl) (by kernel_rfl) (by kernel_rfl) (by kernel_rfl) rfl (fun _ _ _ h => h) (Or.inl ⟨by rfl, ?_⟩) hHeld ?_
  rotate_left
  · (intro w' hSw; (try dsimp only at hSw); go_simp; (try with_reducible rfl))
  simp only [Act.put]
  refine wpAnyG_take (i := 2) (v := ?_) rfl (by kernel_rfl) (by kernel_rfl) (by kernel_rfl) (by kernel_rfl) (by kernel_rfl) rfl (fun _ _ _ h => h) (Or.inl ⟨by rfl, ?_⟩) hHeld ?_
  rotate_left
  · (intro w' hSw; (try dsimp only at hSw); go_simp; (try with_reducible rfl))
  simp only [Act.put]
  refine wpAnyG_take (i := 3) (v := ?_) rfl (by kernel_rfl) (by kernel_rfl) (by kernel_rfl) (by kernel_rfl) (by kernel_rfl) rfl (fun _ _ _ h => h) (Or.inl ⟨by rfl, ?_⟩) hHeld ?_
  rotate_left
  · (intro w' hSw; (try dsimp only at hSw); go_simp; (try with_reducible rfl))
  simp only [Act.put]
  refine wpAnyG_two (i := 4) (j := 7) (by kernel_rfl) rfl rfl (fun K hK => ?_) (fun K hK => ?_)
  · go_simp
    go_at_call 49
    refine (noughts_out _).mono ?_
    rintro e w2 ⟨gN, rfl, hown, hbN⟩
    have hown := owns_base hown (show w.heap.size ≤ w1.drew.heap.size from hle)
    have hcur := hcur.trans (hbN.mono hcur.size)
    refine hK.out _ _ (fun _ => keepX _ hcur) (fun hHeld => ?_)
    have hHeld := hHeld (by decide)
    clear hK K
    try simp only [Act.put, List.setIfInBounds_toArray, List.set_cons_zero, List.set_cons_succ]
    refine wpAnyG_take (i := 5) (v := ?_) rfl (by kernel_rfl) (by kernel_rfl) (by kernel_rfl) (by kernel_rfl) (by kernel_rfl) rfl (fun _ _ _ h => h) (Or.inl ⟨by rfl, ?_⟩) hHeld ?_
    rotate_left
    · (intro w' hSw; (try dsimp only at hSw); go_simp; (try with_reducible rfl))
    simp only [Act.put, List.setIfInBounds_toArray]
    refine wpAnyG_take (i := 6) (v := ?_) rfl (by kernel_rfl) (by kernel_rfl) (by kernel_rfl) (by kernel_rfl) (by kernel_rfl) rfl (fun _ _ _ h => h) (Or.inl ⟨by rfl, ?_⟩) hHeld ?_
    rotate_left
    · (intro w' hSw; (try dsimp only at hSw); go_simp; (try with_reducible rfl))
    simp only [Act.put]
    refine wpAnyG_one (i := 7) (by kernel_rfl) rfl (fun K hK => ?_)
    go_simp
    have hcurA := hcur.alloc hcur.size (.cells #[.slice none 0 0, .bool false, .slice none 0 0, .bool false, .slice none 0 0, .bool false] 141)
    refine hK.out _ _ (fun _ => keepX _ hcurA) (fun hHeld => ?_)
    have hHeld := hHeld (by decide)
    clear hK K
    try simp only [Act.put, List.setIfInBounds_toArray, List.set_cons_zero, List.set_cons_succ]
    refine wpAnyG_one (i := 8) (by kernel_rfl) rfl (fun K hK => ?_)
    go_simp
    refine hK.out _ _ (fun h => absurd rfl h) (fun _ => ?_)
    clear hK K
    refine wpAnyG_done (by kernel_rfl) ?_ _
    have hx := Blk.new w2 141 [.slice A n c, .bool b, .slice A' n' c', .bool false, .slice (some ⟨gN, 0, none⟩) 32 32, .bool true]
    have hown := owns_below hown ((Below.refl w2.heap.size w2).alloc (Nat.le_refl _) (.cells #[.slice A n c, .bool b, .slice A' n' c', .bool false, .slice (some ⟨gN, 0, none⟩) 32 32, .bool true] 141))
    have hcur := hcur.alloc hcur.size (.cells #[.slice A n c, .bool b, .slice A' n' c', .bool false, .slice (some ⟨gN, 0, none⟩) 32 32, .bool true] 141)
    clear hcurA
    have hr := B2.out.below hcur B2.out.lt
    have y0 := hx.cell 0
    have y1 := hx.cell 1
    have g0 := hr.free 0
    have g1 := hr.free 1
    have h0 := hr.cell 0
    have h1 := hr.cell 1
    simp only [List.getElem?_cons_zero, List.getElem?_cons_succ] at y0 y1 h0 h1
    have z := hr.two (.slice A n c) (.bool b)
    have zz0 := z.cell 0
    have zz1 := z.cell 1
    simp only [List.getElem?_cons_zero, List.getElem?_cons_succ] at zz0 zz1
    have B9 := Lib.hid (below_two (HB.out.trans (hcur.mono HB.out.size)) (show w.heap.size ≤ w.heap.size + 2 by omega) (.slice A n c) (.bool b))
    have OW := Lib.hid (owns_other_box (owns_other_box hown hr (by decide) 0 (.slice A n c)) (hr.set 0 (.slice A n c)) (by decide) 1 (.bool b))
    clear hx hown hr hcur z hHeld keepX
    go_wp2
    refine bodyPost_ret (v := .agg #[.slice A n c, .bool b]) ?_ rfl ⟨rfl, B9.out⟩
    clear y0 y1 g0 g1 h0 h1
    simp [results, Try.f89, go_sem, zz0, zz1]
  · go_simp
    have hZ0 : Blk (w1.drew.alloc (.cells #[.slice none 0 0, .bool false, .slice none 0 0, .bool false, .slice none 0 0, .bool false] 141)) w1.heap.size 141 [.slice none 0 0, .bool false, .slice none 0 0, .bool false, .slice none 0 0, .bool false] := Blk.new w1.drew 141 [.slice none 0 0, .bool false, .slice none 0 0, .bool false, .slice none 0 0, .bool false]
    have hcur := hcur.alloc (show w1.heap.size ≤ w1.drew.heap.size from Nat.le_refl _) (.cells #[.slice none 0 0, .bool false, .slice none 0 0, .bool false, .slice none 0 0, .bool false] 141)
    refine hK.out _ _ (fun _ => keepX _ hcur) (fun hHeld => ?_)
    have hHeld := hHeld (by decide)
    clear hK K
    try simp only [Act.put, List.setIfInBounds_toArray, List.set_cons_zero, List.set_cons_succ]
    refine wpAnyG_one (i := 4) (by kernel_rfl) rfl (fun K hK => ?_)
    go_simp
    go_at_call 49
    refine (noughts_out _).mono ?_
    rintro e w2 ⟨gN, rfl, hown, hbN⟩
    have hown := owns_base hown (Nat.le_trans hle hcur.size)
    have hZ := hZ0.below hbN hZ0.lt
    have hcur := hcur.trans (hbN.mono hcur.size)
    have z0 := hZ.cell 0
    have f0 := hZ.free 0
    have z1 := hZ.cell 1
    have f1 := hZ.free 1
    have z2 := hZ.cell 2
    have f2 := hZ.free 2
    have z3 := hZ.cell 3
    have f3 := hZ.free 3
    have z4 := hZ.cell 4
    have f4 := hZ.free 4
    have z5 := hZ.cell 5
    have f5 := hZ.free 5
    simp only [List.getElem?_cons_zero, List.getElem?_cons_succ] at z0 z1 z2 z3 z4 z5
    refine hK.out _ _ (fun _ => keepX _ hcur) (fun hHeld => ?_)
    have hHeld := hHeld (by decide)
    clear hK K
    try simp only [Act.put, List.setIfInBounds_toArray, List.set_cons_zero, List.set_cons_succ]
    refine wpAnyG_take (i := 5) (v := ?_) rfl (by kernel_rfl) (by kernel_rfl) (by kernel_rfl) (by kernel_rfl) (by kernel_rfl) rfl (fun _ _ _ h => h) (Or.inl ⟨by rfl, ?_⟩) hHeld ?_
    rotate_left
    · (intro w' hSw; (try dsimp only at hSw); go_simp; (try with_reducible rfl))
    simp only [Act.put, List.setIfInBounds_toArray]
    refine wpAnyG_take (i := 6) (v := ?_) rfl (by kernel_rfl) (by kernel_rfl) (by kernel_rfl) (by kernel_rfl) (by kernel_rfl) rfl (fun _ _ _ h => h) (Or.inl ⟨by rfl, ?_⟩) hHeld ?_
    rotate_left
    · (intro w' hSw; (try dsimp only at hSw); go_simp; (try with_reducible rfl))
    simp only [Act.put]
    refine wpAnyG_one (i := 8) (by kernel_rfl) rfl (fun K hK => ?_)
    go_simp
    refine hK.out _ _ (fun h => absurd rfl h) (fun _ => ?_)
    clear hK K
    refine wpAnyG_done (by kernel_rfl) ?_ _
    have hx := hZ.six (.slice A n c) (.bool b) (.slice A' n' c') (.bool false) (.slice (some ⟨gN, 0, none⟩) 32 32) (.bool true)
    have hown := owns_six hown hZ (by decide) (.slice A n c) (.bool b) (.slice A' n' c') (.bool false) (.slice (some ⟨gN, 0, none⟩) 32 32) (.bool true)
    have hcur := below_six hcur (Nat.le_refl w1.heap.size) (.slice A n c) (.bool b) (.slice A' n' c') (.bool false) (.slice (some ⟨gN, 0, none⟩) 32 32) (.bool true)
    clear hZ hZ0 z0 z1 z2 z3 z4 z5 f0 f1 f2 f3 f4 f5
    obtain ⟨wx, hwx⟩ : ∃ wx, wx = ((((((w2.setCell ⟨w1.heap.size, 0, none⟩ (.slice A n c)).setCell ⟨w1.heap.size, 1, none⟩ (.bool b)).setCell ⟨w1.heap.size, 2, none⟩ (.slice A' n' c')).setCell ⟨w1.heap.size, 3, none⟩ (.bool false)).setCell ⟨w1.heap.size, 4, none⟩ (.slice (some ⟨gN, 0, none⟩) 32 32)).setCell ⟨w1.heap.size, 5, none⟩ (.bool true)) := ⟨_, rfl⟩
    rw [← hwx] at hx hown hcur
    rw [← hwx]
    clear hwx
    have hr := B2.out.below hcur B2.out.lt
    have y0 := hx.cell 0
    have y1 := hx.cell 1
    have g0 := hr.free 0
    have g1 := hr.free 1
    have h0 := hr.cell 0
    have h1 := hr.cell 1
    simp only [List.getElem?_cons_zero, List.getElem?_cons_succ] at y0 y1 h0 h1
    have z := hr.two (.slice A n c) (.bool b)
    have zz0 := z.cell 0
    have zz1 := z.cell 1
    simp only [List.getElem?_cons_zero, List.getElem?_cons_succ] at zz0 zz1
    have B9 := Lib.hid (below_two (HB.out.trans (hcur.mono HB.out.size)) (show w.heap.size ≤ w.heap.size + 2 by omega) (.slice A n c) (.bool b))
    have OW := Lib.hid (owns_other_box (owns_other_box hown hr (by decide) 0 (.slice A n c)) (hr.set 0 (.slice A n c)) (by decide) 1 (.bool b))
    clear hx hown hr hcur z hHeld keepX
    go_wp2
    refine bodyPost_ret (v := .agg #[.slice A n c, .bool b]) ?_ rfl ⟨rfl, B9.out⟩
    clear y0 y1 g0 g1 h0 h1
    simp [results, Try.f89, go_sem, zz0, zz1]

set_option maxRecDepth 100000 in
set_option maxHeartbeats 1600000 in
theorem left1 (A : Option Addr) (n c : Nat) (b : Bool) (t : Int) (A' : Option Addr) (n' c' : Nat) (w : World) :
    Calls Try.prog 89 #[.agg #[.slice A n c, .bool b], .agg #[.int .i64 t, .slice A' n' c'], .int .u8 1] w fun e w' => e = .returned (.agg #[.slice A' n' c', .bool false]) ∧ Below w.heap.size w w' := by
  obtain ⟨w1, hw1⟩ : ∃ w1, w1 = ((w.alloc (.cells #[.slice A n c, .bool b] 39)).alloc (.cells #[.int .i64 t, .slice A' n' c'] 63)).alloc (.cells #[.slice none 0 0, .bool false] 39) := ⟨_, rfl⟩
  have hb : Below w.heap.size w w1 := by rw [hw1]; exact (((Below.refl _ _).alloc (Nat.le_refl _) _).alloc (by simp) _).alloc (by simp; omega) _
  have b0 : Blk w1 w.heap.size 39 [.slice A n c, .bool b] := by rw [hw1]; exact ((Blk.new w 39 [.slice A n c, .bool b]).grown (World.grownBy_alloc _ _ none) (by simp)).grown (World.grownBy_alloc _ _ none) (by simp)
  have b1 : Blk w1 (w.heap.size + 1) 63 [.int .i64 t, .slice A' n' c'] := by
    have := Blk.new (w.alloc (.cells #[.slice A n c, .bool b] 39)) 63 [.int .i64 t, .slice A' n' c']
    rw [World.size_alloc] at this
    rw [hw1]; exact this.grown (World.grownBy_alloc _ _ none) (by simp)
  have b2 : Blk w1 (w.heap.size + 2) 39 [.slice none 0 0, .bool false] := by
    have := Blk.new ((w.alloc (.cells #[.slice A n c, .bool b] 39)).alloc (.cells #[.int .i64 t, .slice A' n' c'] 63)) 39 [.slice none 0 0, .bool false]
    rw [World.size_alloc, World.size_alloc] at this
    rw [hw1]; exact this
  have hsz : w1.heap.size = w.heap.size + 3 := by rw [hw1]; simp
  have B0 := Lib.hid b0
  have B1 := Lib.hid b1
  have B2 := Lib.hid b2
  have HB := Lib.hid hb
  have hle : w.heap.size ≤ w1.heap.size := by omega
  clear hb b0 b1 b2 hsz
  go_enter Try.func89, Try.ntmps89
  go_upto_region 1 with fail
  rw [← hw1]
  clear hw1
  have keepX : ∀ wx, Below w1.heap.size w1 wx → wx.cell? ⟨w.heap.size, 0, none⟩ = some (.slice A n c) ∧ wx.cell? ⟨w.heap.size, 1, none⟩ = some (.bool b) ∧ wx.cell? ⟨w.heap.size + 1, 1, none⟩ = some (.slice A' n' c') := fun wx hx =>
    ⟨(B0.out.below hx B0.out.lt).cell 0, (B0.out.below hx B0.out.lt).cell 1, (B1.out.below hx B1.out.lt).cell 1⟩
  have hcur : Below w1.heap.size w1 w1.drew := below_drewN (Below.refl _ _) 1
  have hHeld := keepX _ hcur
  refine wp_region_to 8 (fun w' => w'.cell? ⟨w.heap.size, 0, none⟩ = some (.slice A n c) ∧ w'.cell? ⟨w.heap.size, 1, none⟩ = some (.bool b) ∧ w'.cell? ⟨w.heap.size + 1, 1, none⟩ = some (.slice A' n' c')) (by kernel_rfl) ?_
  refine wpAnyG_take (i := 0) (v := ?_) rfl (by kernel_rfl) (by kernel_rfl) (by kernel_rfl) (by kernel_rfl) (by kernel_rfl) rfl (fun _ _ _ h => h) (Or.inl ⟨by rfl, ?_⟩) hHeld ?_
  rotate_left
  · (intro w' hSw; (try dsimp only at hSw); go_simp; (try with_reducible rfl))
  simp only [Act.put, List.setIfInBounds_toArray]
  refine wpAnyG_take (i := 1) (v := ?_) rfl (by kernel_rfl) (by kernel_rfl) (by kernel_rfl) (by kernel_rfl) (by kernel_rfl) rfl (fun _ _ _ h => h) (Or.inl ⟨by rfl, ?_⟩) hHeld ?_
  rotate_left
  · (intro w' hSw; (try dsimp only at hSw); go_simp; (try with_reducible rfl))
  simp only [Act.put]
  refine wpAnyG_take (i := 2) (v := ?_) rfl (by kernel_rfl) (by kernel_rfl) (by kernel_rfl) (by kernel_rfl) (by kernel_rfl) rfl (fun _ _ _ h => h) (Or.inl ⟨by rfl, ?_⟩) hHeld ?_
  rotate_left
  · (intro w' hSw; (try dsimp only at hSw); go_simp; (try with_reducible rfl))
  simp only [Act.put]
  refine wpAnyG_take (i := 3) (v := ?_) rfl (by kernel_rfl) (by kernel_rfl) (by kernel_rfl) (by kernel_rfl) (by kernel_rfl) rfl (fun _ _ _ h => h) (Or.inl ⟨by rfl, ?_⟩) hHeld ?_
  rotate_left
  · (intro w' hSw; (try dsimp only at hSw); go_simp; (try with_reducible rfl))
  simp only [Act.put]
  refine wpAnyG_two (i := 4) (j := 7) (by kernel_rfl) rfl rfl (fun K hK => ?_) (fun K hK => ?_)
  · go_simp
    go_at_call 49
    refine (noughts_out _).mono ?_
    rintro e w2 ⟨gN, rfl, hown, hbN⟩
    have hown := owns_base hown (show w.heap.size ≤ w1.drew.heap.size from hle)
    have hcur := hcur.trans (hbN.mono hcur.size)
    refine hK.out _ _ (fun _ => keepX _ hcur) (fun hHeld => ?_)
    have hHeld := hHeld (by decide)
    clear hK K
    try simp only [Act.put, List.setIfInBounds_toArray, List.set_cons_zero, List.set_cons_succ]
    refine wpAnyG_take (i := 5) (v := ?_) rfl (by kernel_rfl) (by kernel_rfl) (by kernel_rfl) (by kernel_rfl) (by kernel_rfl) rfl (fun _ _ _ h => h) (Or.inl ⟨by rfl, ?_⟩) hHeld ?_
    rotate_left
    · (intro w' hSw; (try dsimp only at hSw); go_simp; (try with_reducible rfl))
    simp only [Act.put, List.setIfInBounds_toArray]
    refine wpAnyG_take (i := 6) (v := ?_) rfl (by kernel_rfl) (by kernel_rfl) (by kernel_rfl) (by kernel_rfl) (by kernel_rfl) rfl (fun _ _ _ h => h) (Or.inl ⟨by rfl, ?_⟩) hHeld ?_
    rotate_left
    · (intro w' hSw; (try dsimp only at hSw); go_simp; (try with_reducible rfl))
    simp only [Act.put]
    refine wpAnyG_one (i := 7) (by kernel_rfl) rfl (fun K hK => ?_)
    go_simp
    have hcurA := hcur.alloc hcur.size (.cells #[.slice none 0 0, .bool false, .slice none 0 0, .bool false, .slice none 0 0, .bool false] 141)
    refine hK.out _ _ (fun _ => keepX _ hcurA) (fun hHeld => ?_)
    have hHeld := hHeld (by decide)
    clear hK K
    try simp only [Act.put, List.setIfInBounds_toArray, List.set_cons_zero, List.set_cons_succ]
    refine wpAnyG_one (i := 8) (by kernel_rfl) rfl (fun K hK => ?_)
    go_simp
    refine hK.out _ _ (fun h => absurd rfl h) (fun _ => ?_)
    clear hK K
    refine wpAnyG_done (by kernel_rfl) ?_ _
    have hx := Blk.new w2 141 [.slice A n c, .bool b, .slice A' n' c', .bool false, .slice (some ⟨gN, 0, none⟩) 32 32, .bool true]
    have hown := owns_below hown ((Below.refl w2.heap.size w2).alloc (Nat.le_refl _) (.cells #[.slice A n c, .bool b, .slice A' n' c', .bool false, .slice (some ⟨gN, 0, none⟩) 32 32, .bool true] 141))
    have hcur := hcur.alloc hcur.size (.cells #[.slice A n c, .bool b, .slice A' n' c', .bool false, .slice (some ⟨gN, 0, none⟩) 32 32, .bool true] 141)
    clear hcurA
    have hr := B2.out.below hcur B2.out.lt
    have y0 := hx.cell 2
    have y1 := hx.cell 3
    have g0 := hr.free 0
    have g1 := hr.free 1
    have h0 := hr.cell 0
    have h1 := hr.cell 1
    simp only [List.getElem?_cons_zero, List.getElem?_cons_succ] at y0 y1 h0 h1
    have z := hr.two (.slice A' n' c') (.bool false)
    have zz0 := z.cell 0
    have zz1 := z.cell 1
    simp only [List.getElem?_cons_zero, List.getElem?_cons_succ] at zz0 zz1
    have B9 := Lib.hid (below_two (HB.out.trans (hcur.mono HB.out.size)) (show w.heap.size ≤ w.heap.size + 2 by omega) (.slice A' n' c') (.bool false))
    have OW := Lib.hid (owns_other_box (owns_other_box hown hr (by decide) 0 (.slice A' n' c')) (hr.set 0 (.slice A' n' c')) (by decide) 1 (.bool false))
    clear hx hown hr hcur z hHeld keepX
    go_wp2
    refine bodyPost_ret (v := .agg #[.slice A' n' c', .bool false]) ?_ rfl ⟨rfl, B9.out⟩
    clear y0 y1 g0 g1 h0 h1
    simp [results, Try.f89, go_sem, zz0, zz1]
  · go_simp
    have hZ0 : Blk (w1.drew.alloc (.cells #[.slice none 0 0, .bool false, .slice none 0 0, .bool false, .slice none 0 0, .bool false] 141)) w1.heap.size 141 [.slice none 0 0, .bool false, .slice none 0 0, .bool false, .slice none 0 0, .bool false] := Blk.new w1.drew 141 [.slice none 0 0, .bool false, .slice none 0 0, .bool false, .slice none 0 0, .bool false]
    have hcur := hcur.alloc (show w1.heap.size ≤ w1.drew.heap.size from Nat.le_refl _) (.cells #[.slice none 0 0, .bool false, .slice none 0 0, .bool false, .slice none 0 0, .bool false] 141)
    refine hK.out _ _ (fun _ => keepX _ hcur) (fun hHeld => ?_)
    have hHeld := hHeld (by decide)
    clear hK K
    try simp only [Act.put, List.setIfInBounds_toArray, List.set_cons_zero, List.set_cons_succ]
    refine wpAnyG_one (i := 4) (by kernel_rfl) rfl (fun K hK => ?_)
    go_simp
    go_at_call 49
    refine (noughts_out _).mono ?_
    rintro e w2 ⟨gN, rfl, hown, hbN⟩
    have hown := owns_base hown (Nat.le_trans hle hcur.size)
    have hZ := hZ0.below hbN hZ0.lt
    have hcur := hcur.trans (hbN.mono hcur.size)
    have z0 := hZ.cell 0
    have f0 := hZ.free 0
    have z1 := hZ.cell 1
    have f1 := hZ.free 1
    have z2 := hZ.cell 2
    have f2 := hZ.free 2
    have z3 := hZ.cell 3
    have f3 := hZ.free 3
    have z4 := hZ.cell 4
    have f4 := hZ.free 4
    have z5 := hZ.cell 5
    have f5 := hZ.free 5
    simp only [List.getElem?_cons_zero, List.getElem?_cons_succ] at z0 z1 z2 z3 z4 z5
    refine hK.out _ _ (fun _ => keepX _ hcur) (fun hHeld => ?_)
    have hHeld := hHeld (by decide)
    clear hK K
    try simp only [Act.put, List.setIfInBounds_toArray, List.set_cons_zero, List.set_cons_succ]
    refine wpAnyG_take (i := 5) (v := ?_) rfl (by kernel_rfl) (by kernel_rfl) (by kernel_rfl) (by kernel_rfl) (by kernel_rfl) rfl (fun _ _ _ h => h) (Or.inl ⟨by rfl, ?_⟩) hHeld ?_
    rotate_left
    · (intro w' hSw; (try dsimp only at hSw); go_simp; (try with_reducible rfl))
    simp only [Act.put, List.setIfInBounds_toArray]
    refine wpAnyG_take (i := 6) (v := ?_) rfl (by kernel_rfl) (by kernel_rfl) (by kernel_rfl) (by kernel_rfl) (by kernel_rfl) rfl (fun _ _ _ h => h) (Or.inl ⟨by rfl, ?_⟩) hHeld ?_
    rotate_left
    · (intro w' hSw; (try dsimp only at hSw); go_simp; (try with_reducible rfl))
    simp only [Act.put]
    refine wpAnyG_one (i := 8) (by kernel_rfl) rfl (fun K hK => ?_)
    go_simp
    refine hK.out _ _ (fun h => absurd rfl h) (fun _ => ?_)
    clear hK K
    refine wpAnyG_done (by kernel_rfl) ?_ _
    have hx := hZ.six (.slice A n c) (.bool b) (.slice A' n' c') (.bool false) (.slice (some ⟨gN, 0, none⟩) 32 32) (.bool true)
    have hown := owns_six hown hZ (by decide) (.slice A n c) (.bool b) (.slice A' n' c') (.bool false) (.slice (some ⟨gN, 0, none⟩) 32 32) (.bool true)
    have hcur := below_six hcur (Nat.le_refl w1.heap.size) (.slice A n c) (.bool b) (.slice A' n' c') (.bool false) (.slice (some ⟨gN, 0, none⟩) 32 32) (.bool true)
    clear hZ hZ0 z0 z1 z2 z3 z4 z5 f0 f1 f2 f3 f4 f5
    obtain ⟨wx, hwx⟩ : ∃ wx, wx = ((((((w2.setCell ⟨w1.heap.size, 0, none⟩ (.slice A n c)).setCell ⟨w1.heap.size, 1, none⟩ (.bool b)).setCell ⟨w1.heap.size, 2, none⟩ (.slice A' n' c')).setCell ⟨w1.heap.size, 3, none⟩ (.bool false)).setCell ⟨w1.heap.size, 4, none⟩ (.slice (some ⟨gN, 0, none⟩) 32 32)).setCell ⟨w1.heap.size, 5, none⟩ (.bool true)) := ⟨_, rfl⟩
    rw [← hwx] at hx hown hcur
    rw [← hwx]
    clear hwx
    have hr := B2.out.below hcur B2.out.lt
    have y0 := hx.cell 2
    have y1 := hx.cell 3
    have g0 := hr.free 0
    have g1 := hr.free 1
    have h0 := hr.cell 0
    have h1 := hr.cell 1
    simp only [List.getElem?_cons_zero, List.getElem?_cons_succ] at y0 y1 h0 h1
    have z := hr.two (.slice A' n' c') (.bool false)
    have zz0 := z.cell 0
    have zz1 := z.cell 1
    simp only [List.getElem?_cons_zero, List.getElem?_cons_succ] at zz0 zz1
    have B9 := Lib.hid (below_two (HB.out.trans (hcur.mono HB.out.size)) (show w.heap.size ≤ w.heap.size + 2 by omega) (.slice A' n' c') (.bool false))
    have OW := Lib.hid (owns_other_box (owns_other_box hown hr (by decide) 0 (.slice A' n' c')) (hr.set 0 (.slice A' n' c')) (by decide) 1 (.bool false))
    clear hx hown hr hcur z hHeld keepX
    go_wp2
    refine bodyPost_ret (v := .agg #[.slice A' n' c', .bool false]) ?_ rfl ⟨rfl, B9.out⟩
    clear y0 y1 g0 g1 h0 h1
    simp [results, Try.f89, go_sem, zz0, zz1]

set_option maxRecDepth 100000 in
set_option maxHeartbeats 1600000 in
theorem left2 (A : Option Addr) (n c : Nat) (b : Bool) (t : Int) (A' : Option Addr) (n' c' : Nat) (w : World) :
    Calls Try.prog 89 #[.agg #[.slice A n c, .bool b], .agg #[.int .i64 t, .slice A' n' c'], .int .u8 2] w fun e w' => ∃ g, e = .returned (.agg #[.slice (some ⟨g, 0, none⟩) 32 32, .bool true]) ∧ w'.ownsRow w.heap.size 5 1 (.slice (some ⟨g, 0, none⟩) 32 32) 32 (ints .u8 noughts) ∧ Below w.heap.size w w' := by
  obtain ⟨w1, hw1⟩ : ∃ w1, w1 = ((w.alloc (.cells #[.slice A n c, .bool b] 39)).alloc (.cells #[.int .i64 t, .slice A' n' c'] 63)).alloc (.cells #[.slice none 0 0, .bool false] 39) := ⟨_, rfl⟩
  have hb : Below w.heap.size w w1 := by rw [hw1]; exact (((Below.refl _ _).alloc (Nat.le_refl _) _).alloc (by simp) _).alloc (by simp; omega) _
  have b0 : Blk w1 w.heap.size 39 [.slice A n c, .bool b] := by rw [hw1]; exact ((Blk.new w 39 [.slice A n c, .bool b]).grown (World.grownBy_alloc _ _ none) (by simp)).grown (World.grownBy_alloc _ _ none) (by simp)
  have b1 : Blk w1 (w.heap.size + 1) 63 [.int .i64 t, .slice A' n' c'] := by
    have := Blk.new (w.alloc (.cells #[.slice A n c, .bool b] 39)) 63 [.int .i64 t, .slice A' n' c']
    rw [World.size_alloc] at this
    rw [hw1]; exact this.grown (World.grownBy_alloc _ _ none) (by simp)
  have b2 : Blk w1 (w.heap.size + 2) 39 [.slice none 0 0, .bool false] := by
    have := Blk.new ((w.alloc (.cells #[.slice A n c, .bool b] 39)).alloc (.cells #[.int .i64 t, .slice A' n' c'] 63)) 39 [.slice none 0 0, .bool false]
    rw [World.size_alloc, World.size_alloc] at this
    rw [hw1]; exact this
  have hsz : w1.heap.size = w.heap.size + 3 := by rw [hw1]; simp
  have B0 := Lib.hid b0
  have B1 := Lib.hid b1
  have B2 := Lib.hid b2
  have HB := Lib.hid hb
  have hle : w.heap.size ≤ w1.heap.size := by omega
  clear hb b0 b1 b2 hsz
  go_enter Try.func89, Try.ntmps89
  go_upto_region 1 with fail
  rw [← hw1]
  clear hw1
  have keepX : ∀ wx, Below w1.heap.size w1 wx → wx.cell? ⟨w.heap.size, 0, none⟩ = some (.slice A n c) ∧ wx.cell? ⟨w.heap.size, 1, none⟩ = some (.bool b) ∧ wx.cell? ⟨w.heap.size + 1, 1, none⟩ = some (.slice A' n' c') := fun wx hx =>
    ⟨(B0.out.below hx B0.out.lt).cell 0, (B0.out.below hx B0.out.lt).cell 1, (B1.out.below hx B1.out.lt).cell 1⟩
  have hcur : Below w1.heap.size w1 w1.drew := below_drewN (Below.refl _ _) 1
  have hHeld := keepX _ hcur
  refine wp_region_to 8 (fun w' => w'.cell? ⟨w.heap.size, 0, none⟩ = some (.slice A n c) ∧ w'.cell? ⟨w.heap.size, 1, none⟩ = some (.bool b) ∧ w'.cell? ⟨w.heap.size + 1, 1, none⟩ = some (.slice A' n' c')) (by kernel_rfl) ?_
  refine wpAnyG_take (i := 0) (v := ?_) rfl (by kernel_rfl) (by kernel_rfl) (by kernel_rfl) (by kernel_rfl) (by kernel_rfl) rfl (fun _ _ _ h => h) (Or.inl ⟨by rfl, ?_⟩) hHeld ?_
  rotate_left
  · (intro w' hSw; (try dsimp only at hSw); go_simp; (try with_reducible rfl))
  simp only [Act.put, List.setIfInBounds_toArray]
  refine wpAnyG_take (i := 1) (v := ?_) rfl (by kernel_rfl) (by kernel_rfl) (by kernel_rfl) (by kernel_rfl) (by kernel_rfl) rfl (fun _ _ _ h => h) (Or.inl ⟨by rfl, ?_⟩) hHeld ?_
  rotate_left
  · (intro w' hSw; (try dsimp only at hSw); go_simp; (try with_reducible rfl))
  simp only [Act.put]
  refine wpAnyG_take (i := 2) (v := ?_) rfl (by kernel_rfl) (by kernel_rfl) (by kernel_rfl) (by kernel_rfl) (by kernel_rfl) rfl (fun _ _ _ h => h) (Or.inl ⟨by rfl, ?_⟩) hHeld ?_
  rotate_left
  · (intro w' hSw; (try dsimp only at hSw); go_simp; (try with_reducible rfl))
  simp only [Act.put]
  refine wpAnyG_take (i := 3) (v := ?_) rfl (by kernel_rfl) (by kernel_rfl) (by kernel_rfl) (by kernel_rfl) (by kernel_rfl) rfl (fun _ _ _ h => h) (Or.inl ⟨by rfl, ?_⟩) hHeld ?_
  rotate_left
  · (intro w' hSw; (try dsimp only at hSw); go_simp; (try with_reducible rfl))
  simp only [Act.put]
  refine wpAnyG_two (i := 4) (j := 7) (by kernel_rfl) rfl rfl (fun K hK => ?_) (fun K hK => ?_)
  · go_simp
    go_at_call 49
    refine (noughts_out _).mono ?_
    rintro e w2 ⟨gN, rfl, hown, hbN⟩
    have hown := owns_base hown (show w.heap.size ≤ w1.drew.heap.size from hle)
    have hcur := hcur.trans (hbN.mono hcur.size)
    refine hK.out _ _ (fun _ => keepX _ hcur) (fun hHeld => ?_)
    have hHeld := hHeld (by decide)
    clear hK K
    try simp only [Act.put, List.setIfInBounds_toArray, List.set_cons_zero, List.set_cons_succ]
    refine wpAnyG_take (i := 5) (v := ?_) rfl (by kernel_rfl) (by kernel_rfl) (by kernel_rfl) (by kernel_rfl) (by kernel_rfl) rfl (fun _ _ _ h => h) (Or.inl ⟨by rfl, ?_⟩) hHeld ?_
    rotate_left
    · (intro w' hSw; (try dsimp only at hSw); go_simp; (try with_reducible rfl))
    simp only [Act.put, List.setIfInBounds_toArray]
    refine wpAnyG_take (i := 6) (v := ?_) rfl (by kernel_rfl) (by kernel_rfl) (by kernel_rfl) (by kernel_rfl) (by kernel_rfl) rfl (fun _ _ _ h => h) (Or.inl ⟨by rfl, ?_⟩) hHeld ?_
    rotate_left
    · (intro w' hSw; (try dsimp only at hSw); go_simp; (try with_reducible rfl))
    simp only [Act.put]
    refine wpAnyG_one (i := 7) (by kernel_rfl) rfl (fun K hK => ?_)
    go_simp
    have hcurA := hcur.alloc hcur.size (.cells #[.slice none 0 0, .bool false, .slice none 0 0, .bool false, .slice none 0 0, .bool false] 141)
    refine hK.out _ _ (fun _ => keepX _ hcurA) (fun hHeld => ?_)
    have hHeld := hHeld (by decide)
    clear hK K
    try simp only [Act.put, List.setIfInBounds_toArray, List.set_cons_zero, List.set_cons_succ]
    refine wpAnyG_one (i := 8) (by kernel_rfl) rfl (fun K hK => ?_)
    go_simp
    refine hK.out _ _ (fun h => absurd rfl h) (fun _ => ?_)
    clear hK K
    refine wpAnyG_done (by kernel_rfl) ?_ _
    have hx := Blk.new w2 141 [.slice A n c, .bool b, .slice A' n' c', .bool false, .slice (some ⟨gN, 0, none⟩) 32 32, .bool true]
    have hown := owns_below hown ((Below.refl w2.heap.size w2).alloc (Nat.le_refl _) (.cells #[.slice A n c, .bool b, .slice A' n' c', .bool false, .slice (some ⟨gN, 0, none⟩) 32 32, .bool true] 141))
    have hcur := hcur.alloc hcur.size (.cells #[.slice A n c, .bool b, .slice A' n' c', .bool false, .slice (some ⟨gN, 0, none⟩) 32 32, .bool true] 141)
    clear hcurA
    have hr := B2.out.below hcur B2.out.lt
    have y0 := hx.cell 4
    have y1 := hx.cell 5
    have g0 := hr.free 0
    have g1 := hr.free 1
    have h0 := hr.cell 0
    have h1 := hr.cell 1
    simp only [List.getElem?_cons_zero, List.getElem?_cons_succ] at y0 y1 h0 h1
    have z := hr.two (.slice (some ⟨gN, 0, none⟩) 32 32) (.bool true)
    have zz0 := z.cell 0
    have zz1 := z.cell 1
    simp only [List.getElem?_cons_zero, List.getElem?_cons_succ] at zz0 zz1
    have B9 := Lib.hid (below_two (HB.out.trans (hcur.mono HB.out.size)) (show w.heap.size ≤ w.heap.size + 2 by omega) (.slice (some ⟨gN, 0, none⟩) 32 32) (.bool true))
    have OW := Lib.hid (owns_other_box (owns_other_box hown hr (by decide) 0 (.slice (some ⟨gN, 0, none⟩) 32 32)) (hr.set 0 (.slice (some ⟨gN, 0, none⟩) 32 32)) (by decide) 1 (.bool true))
    clear hx hown hr hcur z hHeld keepX
    go_wp2
    refine bodyPost_ret (v := .agg #[.slice (some ⟨gN, 0, none⟩) 32 32, .bool true]) ?_ rfl ⟨gN, rfl, OW.out, B9.out⟩
    clear y0 y1 g0 g1 h0 h1
    simp [results, Try.f89, go_sem, zz0, zz1]
  · go_simp
    have hZ0 : Blk (w1.drew.alloc (.cells #[.slice none 0 0, .bool false, .slice none 0 0, .bool false, .slice none 0 0, .bool false] 141)) w1.heap.size 141 [.slice none 0 0, .bool false, .slice none 0 0, .bool false, .slice none 0 0, .bool false] := Blk.new w1.drew 141 [.slice none 0 0, .bool false, .slice none 0 0, .bool false, .slice none 0 0, .bool false]
    have hcur := hcur.alloc (show w1.heap.size ≤ w1.drew.heap.size from Nat.le_refl _) (.cells #[.slice none 0 0, .bool false, .slice none 0 0, .bool false, .slice none 0 0, .bool false] 141)
    refine hK.out _ _ (fun _ => keepX _ hcur) (fun hHeld => ?_)
    have hHeld := hHeld (by decide)
    clear hK K
    try simp only [Act.put, List.setIfInBounds_toArray, List.set_cons_zero, List.set_cons_succ]
    refine wpAnyG_one (i := 4) (by kernel_rfl) rfl (fun K hK => ?_)
    go_simp
    go_at_call 49
    refine (noughts_out _).mono ?_
    rintro e w2 ⟨gN, rfl, hown, hbN⟩
    have hown := owns_base hown (Nat.le_trans hle hcur.size)
    have hZ := hZ0.below hbN hZ0.lt
    have hcur := hcur.trans (hbN.mono hcur.size)
    have z0 := hZ.cell 0
    have f0 := hZ.free 0
    have z1 := hZ.cell 1
    have f1 := hZ.free 1
    have z2 := hZ.cell 2
    have f2 := hZ.free 2
    have z3 := hZ.cell 3
    have f3 := hZ.free 3
    have z4 := hZ.cell 4
    have f4 := hZ.free 4
    have z5 := hZ.cell 5
    have f5 := hZ.free 5
    simp only [List.getElem?_cons_zero, List.getElem?_cons_succ] at z0 z1 z2 z3 z4 z5
    refine hK.out _ _ (fun _ => keepX _ hcur) (fun hHeld => ?_)
    have hHeld := hHeld (by decide)
    clear hK K
    try simp only [Act.put, List.setIfInBounds_toArray, List.set_cons_zero, List.set_cons_succ]
    refine wpAnyG_take (i := 5) (v := ?_) rfl (by kernel_rfl) (by kernel_rfl) (by kernel_rfl) (by kernel_rfl) (by kernel_rfl) rfl (fun _ _ _ h => h) (Or.inl ⟨by rfl, ?_⟩) hHeld ?_
    rotate_left
    · (intro w' hSw; (try dsimp only at hSw); go_simp; (try with_reducible rfl))
    simp only [Act.put, List.setIfInBounds_toArray]
    refine wpAnyG_take (i := 6) (v := ?_) rfl (by kernel_rfl) (by kernel_rfl) (by kernel_rfl) (by kernel_rfl) (by kernel_rfl) rfl (fun _ _ _ h => h) (Or.inl ⟨by rfl, ?_⟩) hHeld ?_
    rotate_left
    · (intro w' hSw; (try dsimp only at hSw); go_simp; (try with_reducible rfl))
    simp only [Act.put]
    refine wpAnyG_one (i := 8) (by kernel_rfl) rfl (fun K hK => ?_)
    go_simp
    refine hK.out _ _ (fun h => absurd rfl h) (fun _ => ?_)
    clear hK K
    refine wpAnyG_done (by kernel_rfl) ?_ _
    have hx := hZ.six (.slice A n c) (.bool b) (.slice A' n' c') (.bool false) (.slice (some ⟨gN, 0, none⟩) 32 32) (.bool true)
    have hown := owns_six hown hZ (by decide) (.slice A n c) (.bool b) (.slice A' n' c') (.bool false) (.slice (some ⟨gN, 0, none⟩) 32 32) (.bool true)
    have hcur := below_six hcur (Nat.le_refl w1.heap.size) (.slice A n c) (.bool b) (.slice A' n' c') (.bool false) (.slice (some ⟨gN, 0, none⟩) 32 32) (.bool true)
    clear hZ hZ0 z0 z1 z2 z3 z4 z5 f0 f1 f2 f3 f4 f5
    obtain ⟨wx, hwx⟩ : ∃ wx, wx = ((((((w2.setCell ⟨w1.heap.size, 0, none⟩ (.slice A n c)).setCell ⟨w1.heap.size, 1, none⟩ (.bool b)).setCell ⟨w1.heap.size, 2, none⟩ (.slice A' n' c')).setCell ⟨w1.heap.size, 3, none⟩ (.bool false)).setCell ⟨w1.heap.size, 4, none⟩ (.slice (some ⟨gN, 0, none⟩) 32 32)).setCell ⟨w1.heap.size, 5, none⟩ (.bool true)) := ⟨_, rfl⟩
    rw [← hwx] at hx hown hcur
    rw [← hwx]
    clear hwx
    have hr := B2.out.below hcur B2.out.lt
    have y0 := hx.cell 4
    have y1 := hx.cell 5
    have g0 := hr.free 0
    have g1 := hr.free 1
    have h0 := hr.cell 0
    have h1 := hr.cell 1
    simp only [List.getElem?_cons_zero, List.getElem?_cons_succ] at y0 y1 h0 h1
    have z := hr.two (.slice (some ⟨gN, 0, none⟩) 32 32) (.bool true)
    have zz0 := z.cell 0
    have zz1 := z.cell 1
    simp only [List.getElem?_cons_zero, List.getElem?_cons_succ] at zz0 zz1
    have B9 := Lib.hid (below_two (HB.out.trans (hcur.mono HB.out.size)) (show w.heap.size ≤ w.heap.size + 2 by omega) (.slice (some ⟨gN, 0, none⟩) 32 32) (.bool true))
    have OW := Lib.hid (owns_other_box (owns_other_box hown hr (by decide) 0 (.slice (some ⟨gN, 0, none⟩) 32 32)) (hr.set 0 (.slice (some ⟨gN, 0, none⟩) 32 32)) (by decide) 1 (.bool true))
    clear hx hown hr hcur z hHeld keepX
    go_wp2
    refine bodyPost_ret (v := .agg #[.slice (some ⟨gN, 0, none⟩) 32 32, .bool true]) ?_ rfl ⟨gN, rfl, OW.out, B9.out⟩
    clear y0 y1 g0 g1 h0 h1
    simp [results, Try.f89, go_sem, zz0, zz1]

end Go.Proofs.Yteinfkjlcpfeiaa
