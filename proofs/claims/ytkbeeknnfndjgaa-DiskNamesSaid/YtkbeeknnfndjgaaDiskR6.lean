/- Layer 5: the document's own: a disk with a write more. -/
import Derived.Test.YtkbeeknnfndjgaaDiskR5
import Derived.Deep.Cut
namespace Go.Proofs.Ytkbeeknnfndjgaa
open Go.RowKit
set_option linter.unusedVariables false

/-- What a call hands back beside a number: a disk of its own. -/
def DiskOut (w : World) (S : List Sec) (C : List Pnd) (E : Int) (e : Ending) (w' : World) : Prop :=
  ∃ A c A' c', e = .returned (.tuple #[diskV A S.length c A' C.length c', .int .i64 E]) ∧ OwnDsk w' w.heap.size A S.length c A' C.length c' S C ∧ Below w.heap.size w w'

set_option maxRecDepth 100000 in
set_option maxHeartbeats 6400000 in
theorem with_any (A : Option Addr) (n c : Nat) (A' : Option Addr) (n' c' : Nat) (S : List Sec) (C : List Pnd) (at_ : Int) (Ab : Option Addr) (nb cb : Nat) (b : Txt) (w : World) (hq : Dsk w A n c A' n' c' S C) (hs : SmallD S C) (hb : Arg w .u8 Ab nb cb b) (hby : ∀ z ∈ b, isByte z) (hbl : b.length ≤ 100) :
    Calls Try.prog 56 #[diskV A n c A' n' c', .int .i64 at_, .slice Ab nb cb] w fun e w' => ∃ B d B' d', e = .returned (diskV B n d B' (n' + 1) d') ∧ OwnDsk w' w.heap.size B n d B' (n' + 1) d' S (C ++ [(at_, b)]) ∧ Below w.heap.size w w' := by
  obtain ⟨i0, hi0, hz0, hz1, hz2⟩ := info_parts byte_info
  have hml : (1000 : Nat) ≤ maxLen := by decide
  obtain ⟨x1, x2, hbel⟩ := boxes2 w A n c A' n' c' none 0 0 none 0 0
  have T := twin_any A n c A' n' c' S C _ (hq.below hbel) hs
  have hn' := hs.pnds
  rw [hq.pnds.len] at hn'
  have c0 := x1.cell 0
  have c1 := x1.cell 1
  simp only [List.getElem?_cons_zero, List.getElem?_cons_succ] at c0 c1
  have hsz : ((w.alloc (.cells #[.slice A n c, .slice A' n' c'] 25)).alloc (.cells #[.slice none 0 0, .slice none 0 0] 25)).heap.size = w.heap.size + 2 := by simp
  have hnb : nb ≤ 100 := by rw [← hb.len]; exact hbl
  have HB := Lib.hid hb
  have HBY := Lib.hid hby
  obtain ⟨w1, hw1⟩ : ∃ w1, w1 = (w.alloc (.cells #[.slice A n c, .slice A' n' c'] 25)).alloc (.cells #[.slice none 0 0, .slice none 0 0] 25) := ⟨_, rfl⟩
  rw [← hw1] at x1 x2 hbel T c0 c1 hsz
  have X1 := Lib.hid x1
  have X2 := Lib.hid x2
  have BEL := Lib.hid hbel
  have T := Lib.hid T
  have HSZ := Lib.hid hsz
  clear x1 x2 hbel hq hs hb hby hbl hsz
  go_enter Try.func56, Try.ntmps56
  rw [hw1] at c0 c1 T
  go_wp2_with fail
  refine T.out.mono ?_
  rintro e w4 ⟨B, d, B', d', rfl, hown, hb4⟩
  rw [← hw1] at hown hb4 T
  have hz1' := HSZ.out
  have hz4 := hb4.size
  have x2 := X2.out.below hb4 (by omega)
  have xg := Blk.new w4 25 [.slice B n d, .slice B' n' d']
  have x2 := x2.grown (World.grownBy_alloc w4 (.cells #[.slice B n d, .slice B' n' d'] 25) none) (by simp)
  have O5 := hown.below ((Below.refl _ _).alloc (Nat.le_refl _) (.cells #[.slice B n d, .slice B' n' d'] 25))
  have B5 := (BEL.out.trans (hb4.mono BEL.out.size)).alloc (Nat.le_trans BEL.out.size hz4) (.cells #[.slice B n d, .slice B' n' d'] 25)
  clear c0 c1 T hown hb4
  go_wp2
  obtain ⟨G, hG⟩ : ∃ G, G = w4.heap.size := ⟨_, rfl⟩
  rw [← hG] at xg hz4 ⊢
  obtain ⟨w5, hw5⟩ : ∃ w5, w5 = w4.alloc (.cells #[.slice B n d, .slice B' n' d'] 25) := ⟨_, rfl⟩
  have hz5 : w5.heap.size = G + 1 := by rw [hw5, hG]; exact World.size_alloc _ _
  change Blk (w4.alloc (.cells #[.slice B n d, .slice B' n' d'] 25)) G 25 [.slice B n d, .slice B' n' d'] at xg
  rw [← hw5] at x2 xg O5 B5 ⊢
  have X2 := Lib.hid (show Blk w5.drew (w.heap.size + 1) 25 [.slice none 0 0, .slice none 0 0] from x2)
  have XG := Lib.hid (show Blk w5.drew G 25 [.slice B n d, .slice B' n' d'] from xg)
  have OD := Lib.hid (show OwnDsk w5.drew w1.heap.size B n d B' n' d' S C from O5.below (below_drewN (Below.refl _ _) 1))
  have BD := Lib.hid (show Below w.heap.size w w5.drew from below_drewN B5 1)
  have HBD := Lib.hid (show Arg w5.drew .u8 Ab nb cb b from HB.out.below BD.out)
  have q1 := xg.cell 1
  simp only [List.getElem?_cons_zero, List.getElem?_cons_succ] at q1
  have hGl : G < w5.drew.heap.size := by show G < w5.heap.size; omega
  have hle : w1.heap.size ≤ w5.drew.heap.size := by show _ ≤ w5.heap.size; omega
  have keepS : ∀ wx, Below w5.drew.heap.size w5.drew wx → wx.cell? ⟨G, 1, none⟩ = some (.slice B' n' d') := fun wx hx => (hx.cell (p := ⟨G, 1, none⟩) hGl).trans q1
  have hHeld := keepS w5.drew (Below.refl _ _)
  have hGw : w1.heap.size ≤ G := hz4
  have HS1 := Lib.hid hz1'
  clear hw5 hG x2 xg O5 B5 hz5 hz4 q1 hw1
  refine wp_region_to 10 (fun w' => w'.cell? ⟨G, 1, none⟩ = some (.slice B' n' d')) (by kernel_rfl) ?_
  refine wpAnyG_take (i := 0) (v := ?_) rfl (by kernel_rfl) (by kernel_rfl) (by kernel_rfl) (by kernel_rfl) (by kernel_rfl) rfl (fun _ _ _ h => h) (Or.inl ⟨by rfl, ?_⟩) hHeld ?_
  rotate_left
  · (intro w' hSw; (try dsimp only at hSw); go_simp; (try with_reducible rfl))
  simp only [Act.put, List.setIfInBounds_toArray]
  refine wpAnyG_take (i := 1) (v := ?_) rfl (by kernel_rfl) (by kernel_rfl) (by kernel_rfl) (by kernel_rfl) (by kernel_rfl) rfl (fun _ _ _ h => h) (Or.inl ⟨by rfl, ?_⟩) hHeld ?_
  rotate_left
  · (intro w' hSw; (try dsimp only at hSw); go_simp; (try with_reducible rfl))
  simp only [Act.put]
  refine wpAnyG_take (i := 2) (v := ?_) rfl (by kernel_rfl) (by kernel_rfl) (by kernel_rfl) (by kernel_rfl) (by kernel_rfl) rfl (fun _ _ _ h => h) (Or.inl ⟨by rfl, ?_⟩) hHeld ?_
  rotate_left
  · (intro w' hSw; (try dsimp only at hSw); go_simp; (try with_reducible rfl))
  simp only [Act.put]
  refine wpAnyG_take (i := 4) (v := ?_) rfl (by kernel_rfl) (by kernel_rfl) (by kernel_rfl) (by kernel_rfl) (by kernel_rfl) rfl (fun _ _ _ h => h) (Or.inl ⟨by rfl, ?_⟩) hHeld ?_
  rotate_left
  · (intro w' hSw; (try dsimp only at hSw); go_simp; (try with_reducible rfl))
  simp only [Act.put]
  refine wpAnyG_one (i := 3) (by kernel_rfl) rfl (fun K hK => ?_)
  go_simp
  refine hK.out _ _ (fun _ => keepS _ ((Below.refl _ _).alloc (Nat.le_refl _) _)) (fun hHeld => ?_)
  have hHeld := hHeld (by decide)
  clear hK K
  try simp only [Act.put, List.setIfInBounds_toArray, List.set_cons_zero, List.set_cons_succ]
  refine wpAnyG_one (i := 5) (by kernel_rfl) rfl (fun K hK => ?_)
  refine step_dup_g w5.drew (by rfl) (.tmp 13) (.tmp 14) _ (by rfl) 5 i0 _ 1 Try.underlying31 hi0 hz0 hz1 hz2 rfl (by rfl) Ab nb cb (ints .u8 b) (by rfl) (by rw [ints_length, HBD.out.len]) HBD.out.seq (ints_one _ _) (by omega) (by omega) ?_
  intro A6 c6 w6 hown6 hb6
  refine hK.out _ _ (fun _ => keepS _ hb6) (fun hHeld => ?_)
  have hHeld := hHeld (by decide)
  clear hK K
  try simp only [Act.put, List.setIfInBounds_toArray]
  refine wpAnyG_take (i := 6) (v := ?_) rfl (by kernel_rfl) (by kernel_rfl) (by kernel_rfl) (by kernel_rfl) (by kernel_rfl) rfl (fun _ _ _ h => h) (Or.inl ⟨by rfl, ?_⟩) hHeld ?_
  rotate_left
  · (intro w' hSw; (try dsimp only at hSw); go_simp; (try with_reducible rfl))
  simp only [Act.put]
  refine wpAnyG_one (i := 7) (by kernel_rfl) rfl (fun K hK => ?_)
  go_simp
  refine hK.out _ _ (fun _ => keepS _ (hb6.alloc hb6.size _)) (fun hHeld => ?_)
  have hHeld := hHeld (by decide)
  clear hK K
  try simp only [Act.put, List.setIfInBounds_toArray, List.set_cons_zero, List.set_cons_succ]
  refine wpAnyG_one (i := 8) (by kernel_rfl) rfl (fun K hK => ?_)
  refine step_pnd w5.drew w6 (by rfl) (.tmp 11) (.tmp 17) (by rfl) w1.heap.size B' n' d' C (by rfl) (OD.out.pnds.below hb6) A6 nb c6 at_ b HBY.out (owns_base hown6 hle) (by rfl) (by omega) (hb6.mono hle) hle ?_
  intro g7 c7 w7 hO7 hb7 hg7
  have x7 := ((XG.out.below hb6 hGl).grown (World.grownBy_alloc w6 (.cells #[.int .i64 at_, .slice A6 nb c6] 63) none) (by simp)).grown hg7 (((OD.out.pnds.below hb6).below ((Below.refl _ _).alloc (Nat.le_refl _) _)).not_blk ((XG.out.below hb6 hGl).grown (World.grownBy_alloc w6 (.cells #[.int .i64 at_, .slice A6 nb c6] 63) none) (by simp)))
  have l7 := x7.cell 1
  have f7 := x7.free 1
  simp only [List.getElem?_cons_zero, List.getElem?_cons_succ] at l7
  refine hK.out _ _ (fun _ => l7) (fun hHeld => ?_)
  have hHeld := hHeld (by decide)
  clear hK K
  try simp only [Act.put, List.setIfInBounds_toArray]
  refine wpAnyG_take (i := 9) (v := ?_) rfl (by kernel_rfl) (by kernel_rfl) (by kernel_rfl) (by kernel_rfl) (by kernel_rfl) rfl (fun _ _ _ h => h) (Or.inl ⟨by rfl, ?_⟩) hHeld ?_
  rotate_left
  · (intro w' hSw; (try dsimp only at hSw); go_simp; (try with_reducible rfl))
  simp only [Act.put]
  refine wpAnyG_one (i := 10) (by kernel_rfl) rfl (fun K hK => ?_)
  go_simp
  refine hK.out _ _ (fun h => absurd rfl h) (fun _ => ?_)
  clear hK K
  refine wpAnyG_done (by kernel_rfl) ?_ _
  have hz1' := HS1.out
  have x2 := (X2.out.below hb7 (by omega)).away (g' := G) (by omega) 1 (.slice (some ⟨g7, 0, none⟩) (n' + 1) c7)
  have xg := x7.set 1 (.slice (some ⟨g7, 0, none⟩) (n' + 1) c7)
  simp only [List.set_cons_zero, List.set_cons_succ] at xg
  have hsec := (((OD.out.secs.below hb6).below ((Below.refl _ _).alloc (Nat.le_refl _) _)).beside ((OD.out.pnds.below hb6).below ((Below.refl _ _).alloc (Nat.le_refl _) _)) hg7)
  have O8 := (OwnDsk.mk hsec hO7).box x7 1 (.slice (some ⟨g7, 0, none⟩) (n' + 1) c7)
  have B8 := (BD.out.trans (hb7.mono (by omega))).setCell (p := ⟨G, 1, none⟩) (show w.heap.size ≤ G by omega) (.slice (some ⟨g7, 0, none⟩) (n' + 1) c7)
  obtain ⟨w8, hw8⟩ : ∃ w8, w8 = w7.setCell ⟨G, 1, none⟩ (.slice (some ⟨g7, 0, none⟩) (n' + 1) c7) := ⟨_, rfl⟩
  rw [← hw8] at x2 xg O8 B8 ⊢
  have k0 := xg.cell 0
  have k1 := xg.cell 1
  have e0 := x2.cell 0
  have e1 := x2.cell 1
  have g0 := x2.free 0
  have g1 := x2.free 1
  simp only [List.getElem?_cons_zero, List.getElem?_cons_succ] at k0 k1 e0 e1
  have R2 := Lib.hid x2
  have O8 := Lib.hid O8
  have B8 := Lib.hid B8
  clear hw8 x2 xg hsec hO7 hb7 hg7 x7 l7 f7 hown6 hb6 keepS hHeld hz1'
  go_wp2
  have z := R2.out.two (.slice B n d) (.slice (some ⟨g7, 0, none⟩) (n' + 1) c7)
  have z0 := z.cell 0
  have z1 := z.cell 1
  simp only [List.getElem?_cons_zero, List.getElem?_cons_succ] at z0 z1
  have O9 := O8.out.two R2.out (.slice B n d) (.slice (some ⟨g7, 0, none⟩) (n' + 1) c7)
  have B9 := below_two B8.out (show w.heap.size ≤ w.heap.size + 1 by omega) (.slice B n d) (.slice (some ⟨g7, 0, none⟩) (n' + 1) c7)
  have hz1' := HS1.out
  refine bodyPost_ret (v := diskV B n d (some ⟨g7, 0, none⟩) (n' + 1) c7) ?_ rfl ⟨B, d, _, c7, rfl, O9.lower (by omega), B9⟩
  clear k0 k1 e0 e1 g0 g1
  simp [results, Try.f56, go_sem, z0, z1]

end Go.Proofs.Ytkbeeknnfndjgaa
