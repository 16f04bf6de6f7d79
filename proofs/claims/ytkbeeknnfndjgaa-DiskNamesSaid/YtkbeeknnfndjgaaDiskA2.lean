/- Layer 5: the law's own: a disk of two sectors where two writes wait, from what the calls do. -/
import Derived.Test.YtkbeeknnfndjgaaDiskA
import Derived.Deep.RegionHeld3
import Derived.Deep.Cut
namespace Go.Proofs.Ytkbeeknnfndjgaa
open Go.RowKit
set_option linter.unusedVariables false

theorem DiskOut.is {w : World} {S S' : List Sec} {C C' : List Pnd} {E E' : Int} {e : Ending} {w' : World} (x : DiskOut w S C E e w') {n n' : Nat} (hS : S = S') (hC : C = C') (hE : E = E') (hn : S'.length = n) (hn' : C'.length = n') :
    ∃ A c A' c', e = .returned (.tuple #[diskV A n c A' n' c', .int .i64 E']) ∧ OwnDsk w' w.heap.size A n c A' n' c' S' C' ∧ Below w.heap.size w w' := by
  subst hS; subst hC; subst hE; subst hn; subst hn'; exact x
theorem few_small {S : List Sec} {C : List Pnd} (h : (decide (S.length ≤ 100) && decide (C.length ≤ 100) && S.all (fun s => decide (s.2.length ≤ 100)) && C.all (fun s => decide (s.2.length ≤ 100))) = true) : SmallD S C := by
  rw [Bool.and_eq_true, Bool.and_eq_true, Bool.and_eq_true, decide_eq_true_iff, decide_eq_true_iff, List.all_eq_true, List.all_eq_true] at h
  exact ⟨h.1.1.1, h.1.1.2, fun s hs => of_decide_eq_true (h.1.2 s hs), fun s hs => of_decide_eq_true (h.2 s hs)⟩
theorem full_byte {n : Nat} {z : Int} (h0 : 0 ≤ z) (h1 : z < 256) : ∀ x ∈ List.replicate n z, isByte x := fun x hx => by
  rw [List.eq_of_mem_replicate hx]
  exact ⟨h0, h1⟩
def twoS : List Sec := [(false, noughts), (false, noughts)]
def twoC : List Pnd := [(1, List.replicate 32 120), (1, List.replicate 32 121)]

set_option maxRecDepth 100000 in
set_option maxHeartbeats 6400000 in
theorem two_of (P : DskDoes) (w : World) : Calls Try.prog 14 #[] w fun e w' => ∃ A c A' c', e = .returned (.tuple #[diskV A 2 c A' 2 c', .bool true]) ∧ OwnDsk w' w.heap.size A 2 c A' 2 c' twoS twoC ∧ Below w.heap.size w w' := by
  have hbel : Below w.heap.size w (w.alloc (.cells #[.slice none 0 0, .slice none 0 0] 25)) := (Below.refl _ _).alloc (Nat.le_refl _) _
  have x := Blk.new w 25 [.slice none 0 0, .slice none 0 0]
  have X0 := Lib.hid x
  have B := Lib.hid hbel
  have PP := Lib.hid P
  have N := Lib.hid (P.new 2 (w.alloc (.cells #[.slice none 0 0, .slice none 0 0] 25)) (.inl (by decide)))
  clear P x hbel
  go_enter Try.func14, Try.ntmps14
  go_wp2_with fail
  refine N.out.mono ?_
  intro e w1 hout
  obtain ⟨A1, c1, A1', c1', rfl, hown, hb⟩ := hout.is (S' := twoS) (C' := []) (E' := 0) (n := 2) (n' := 0) (by kernel_rfl) rfl (by kernel_rfl) rfl rfl
  have K : Below w1.heap.size w1 (w1.alloc (.cells #[.slice A1 2 c1, .slice A1' 0 c1'] 25)) := (Below.refl _ _).alloc (Nat.le_refl _) _
  have Y := hb.trans (K.mono hb.size)
  have X0 := Lib.hid (X0.out.below Y X0.out.lt)
  have B := Lib.hid (B.out.trans (Y.mono B.out.size))
  have X := DBox.new (Dsk.of_own hown)
  obtain ⟨b1, hB⟩ : ∃ x, x = w1.heap.size := ⟨_, rfl⟩
  go_upto_region 2 with fail
  rw [← hB] at X ⊢
  obtain ⟨v1, hW⟩ : ∃ x : World, x = w1.alloc (.cells #[.slice A1 2 c1, .slice A1' 0 c1'] 25) := ⟨_, rfl⟩
  rw [← hW] at X X0 B ⊢
  clear hB hW hout hown hb K Y N
  have X := Lib.hid X
  have hcur : Below v1.heap.size v1 v1.drew := below_drewN (Below.refl _ _) 1
  have keepX : ∀ wx, Below v1.heap.size v1 wx → wx.cell? ⟨b1, 0, none⟩ = some (.slice A1 2 c1) ∧ wx.cell? ⟨b1, 1, none⟩ = some (.slice A1' 0 c1') := fun wx hx => (X.out.below hx).cells
  have hkX := keepX _ hcur
  go_region_held3 (fun w' => w'.cell? ⟨b1, 0, none⟩ = some (.slice A1 2 c1) ∧ w'.cell? ⟨b1, 1, none⟩ = some (.slice A1' 0 c1'))
    (first | exact hkX | exact keepX _ (below_drewN ((Below.refl _ _).alloc (Nat.le_refl _) _) 1) | exact keepX _ ((hcur.setCell (p := ⟨_, 0, none⟩) hL _).setCell (p := ⟨_, 1, none⟩) hL _) | go_keep)
    (first
      | (go_at_call 17; with_reducible refine (of_any 120 v1.drew).mono ?_; rintro e wO ⟨AO, rfl, hownO, hbO⟩; have hcur := hcur.trans (hbO.mono hcur.size); have hkX := keepX _ hcur)
      | (go_at_call 17; have hL := Nat.le_refl v1.heap.size; have hcur : Below v1.heap.size v1 (v1.alloc (.cells #[.slice none 0 0, .slice none 0 0] 25)).drew := below_drewN ((Below.refl _ _).alloc (Nat.le_refl _) _) 1; have hZ0 := Blk.new v1 25 [.slice none 0 0, .slice none 0 0]; have hZ := hZ0.below (below_drewN (Below.refl _ _) 1) hZ0.lt; with_reducible refine (of_any 120 _).mono ?_; rintro e wO ⟨AO, rfl, hownO, hbO⟩; have hZ := hZ.below hbO hZ.lt; have hcur := hcur.trans (hbO.mono hcur.size); have hkX := keepX _ hcur)
      | (go_at_call 16; have hM := hcur.size; with_reducible refine (PP.out.write A1 2 c1 A1' 0 c1' twoS [] 1 AO 32 32 (List.replicate 32 120) _ (X.out.below hcur).dsk (few_small (by kernel_rfl)) (Arg.own hownO) (full_byte (by decide) (by decide)) (by decide)).mono ?_; intro e w2 hout; obtain ⟨A2, c2, A2', c2', rfl, hown, hb⟩ := hout.is (S' := twoS) (C' := [(1, List.replicate 32 120)]) (E' := 0) (n := 2) (n' := 1) (by kernel_rfl) (by kernel_rfl) (by kernel_rfl) rfl rfl; have hcur := hcur.trans (hb.mono hcur.size); have hkX := keepX _ hcur; try (have hZ := hZ.below hb hZ.lt; have z0 := hZ.cell 0; have z1 := hZ.cell 1; have g0 := hZ.free 0; have g1 := hZ.free 1; simp only [List.getElem?_cons_zero, List.getElem?_cons_succ] at z0 z1))
      | (go_at_call 16; have hL := hcur.size; have hcur := hcur.alloc hcur.size (.cells #[.slice none 0 0, .slice none 0 0] 25); have hZ := Blk.new wO 25 [.slice none 0 0, .slice none 0 0]; have hownO := owns_below hownO ((Below.refl wO.heap.size wO).alloc (Nat.le_refl _) (.cells #[.slice none 0 0, .slice none 0 0] 25)); have hM := hcur.size; with_reducible refine (PP.out.write A1 2 c1 A1' 0 c1' twoS [] 1 AO 32 32 (List.replicate 32 120) _ (X.out.below hcur).dsk (few_small (by kernel_rfl)) (Arg.own hownO) (full_byte (by decide) (by decide)) (by decide)).mono ?_; intro e w2 hout; obtain ⟨A2, c2, A2', c2', rfl, hown, hb⟩ := hout.is (S' := twoS) (C' := [(1, List.replicate 32 120)]) (E' := 0) (n := 2) (n' := 1) (by kernel_rfl) (by kernel_rfl) (by kernel_rfl) rfl rfl; have hcur := hcur.trans (hb.mono hcur.size); have hkX := keepX _ hcur; have hZ := hZ.below hb hZ.lt; have z0 := hZ.cell 0; have z1 := hZ.cell 1; have g0 := hZ.free 0; have g1 := hZ.free 1; simp only [List.getElem?_cons_zero, List.getElem?_cons_succ] at z0 z1))
  all_goals first
    | (have hY : Below v1.heap.size v1 _ := (hcur.setCell (p := ⟨wO.heap.size, 0, none⟩) hL (.slice A2 2 c2)).setCell (p := ⟨wO.heap.size, 1, none⟩) hL (.slice A2' 1 c2')
       have OZ := hown.two hZ (.slice A2 2 c2) (.slice A2' 1 c2')
       have X : DBox _ wO.heap.size A2 2 c2 A2' 1 c2' twoS [(1, List.replicate 32 120)] := ⟨hZ.two (.slice A2 2 c2) (.slice A2' 1 c2'), Dsk.of_own OZ⟩
       have O := OZ.lower (Nat.le_trans B.out.size hM)
       have X0 := X0.out.below hY X0.out.lt
       have B := B.out.trans (hY.mono B.out.size)
       clear hcur keepX hkX hown hb hM hownO hbO hY hL hZ z0 z1 g0 g1 OZ
       obtain ⟨b2, hB⟩ : ∃ x, x = wO.heap.size := ⟨_, rfl⟩
       rw [← hB] at X X0 B O ⊢
       obtain ⟨v2, hW⟩ : ∃ x : World, x = (w2.setCell ⟨b2, 0, none⟩ (.slice A2 2 c2)).setCell ⟨b2, 1, none⟩ (.slice A2' 1 c2') := ⟨_, rfl⟩
       rw [← hW] at X X0 B O ⊢
       clear hB hW
       have X := Lib.hid X
       have X0 := Lib.hid X0
       have B := Lib.hid B
       have O := Lib.hid O)
    | (have hY : Below v1.heap.size v1 _ := (hcur.setCell (p := ⟨v1.heap.size, 0, none⟩) hL (.slice A2 2 c2)).setCell (p := ⟨v1.heap.size, 1, none⟩) hL (.slice A2' 1 c2')
       have OZ := hown.two hZ (.slice A2 2 c2) (.slice A2' 1 c2')
       have X : DBox _ v1.heap.size A2 2 c2 A2' 1 c2' twoS [(1, List.replicate 32 120)] := ⟨hZ.two (.slice A2 2 c2) (.slice A2' 1 c2'), Dsk.of_own OZ⟩
       have O := OZ.lower (Nat.le_trans B.out.size hM)
       have X0 := X0.out.below hY X0.out.lt
       have B := B.out.trans (hY.mono B.out.size)
       clear hcur keepX hkX hown hb hM hownO hbO hY hL hZ hZ0 z0 z1 g0 g1 OZ
       obtain ⟨b2, hB⟩ : ∃ x, x = v1.heap.size := ⟨_, rfl⟩
       rw [← hB] at X X0 B O ⊢
       obtain ⟨v2, hW⟩ : ∃ x : World, x = (w2.setCell ⟨b2, 0, none⟩ (.slice A2 2 c2)).setCell ⟨b2, 1, none⟩ (.slice A2' 1 c2') := ⟨_, rfl⟩
       rw [← hW] at X X0 B O ⊢
       clear hB hW
       have X := Lib.hid X
       have X0 := Lib.hid X0
       have B := Lib.hid B
       have O := Lib.hid O)
    | (have K : Below w2.heap.size w2 (w2.alloc (.cells #[.slice A2 2 c2, .slice A2' 1 c2'] 25)) := (Below.refl _ _).alloc (Nat.le_refl _) _
       have hY := hcur.alloc hcur.size (.cells #[.slice A2 2 c2, .slice A2' 1 c2'] 25)
       have X := DBox.new (Dsk.of_own hown)
       have O := (hown.below K).lower (Nat.le_trans B.out.size hM)
       have X0 := X0.out.below hY X0.out.lt
       have B := B.out.trans (hY.mono B.out.size)
       clear hcur keepX hkX hown hb hM hownO hbO hY K
       obtain ⟨b2, hB⟩ : ∃ x, x = w2.heap.size := ⟨_, rfl⟩
       rw [← hB] at X ⊢
       obtain ⟨v2, hW⟩ : ∃ x : World, x = w2.alloc (.cells #[.slice A2 2 c2, .slice A2' 1 c2'] 25) := ⟨_, rfl⟩
       rw [← hW] at X X0 B O ⊢
       clear hB hW
       have X := Lib.hid X
       have X0 := Lib.hid X0
       have B := Lib.hid B
       have O := Lib.hid O)
  all_goals (
    clear O
    go_upto_region 3 with fail
    have hcur : Below v2.heap.size v2 v2.drew := below_drewN (Below.refl _ _) 1
    have keepX : ∀ wx, Below v2.heap.size v2 wx → wx.cell? ⟨b2, 0, none⟩ = some (.slice A2 2 c2) ∧ wx.cell? ⟨b2, 1, none⟩ = some (.slice A2' 1 c2') := fun wx hx => (X.out.below hx).cells
    have hkX := keepX _ hcur
    go_region_held3 (fun w' => w'.cell? ⟨b2, 0, none⟩ = some (.slice A2 2 c2) ∧ w'.cell? ⟨b2, 1, none⟩ = some (.slice A2' 1 c2'))
      (first | exact hkX | exact keepX _ (below_drewN ((Below.refl _ _).alloc (Nat.le_refl _) _) 1) | exact keepX _ ((hcur.setCell (p := ⟨_, 0, none⟩) hL _).setCell (p := ⟨_, 1, none⟩) hL _) | go_keep)
      (first
        | (go_at_call 17; with_reducible refine (of_any 121 v2.drew).mono ?_; rintro e wO ⟨AO, rfl, hownO, hbO⟩; have hcur := hcur.trans (hbO.mono hcur.size); have hkX := keepX _ hcur)
        | (go_at_call 17; have hL := Nat.le_refl v2.heap.size; have hcur : Below v2.heap.size v2 (v2.alloc (.cells #[.slice none 0 0, .slice none 0 0] 25)).drew := below_drewN ((Below.refl _ _).alloc (Nat.le_refl _) _) 1; have hZ0 := Blk.new v2 25 [.slice none 0 0, .slice none 0 0]; have hZ := hZ0.below (below_drewN (Below.refl _ _) 1) hZ0.lt; with_reducible refine (of_any 121 _).mono ?_; rintro e wO ⟨AO, rfl, hownO, hbO⟩; have hZ := hZ.below hbO hZ.lt; have hcur := hcur.trans (hbO.mono hcur.size); have hkX := keepX _ hcur)
        | (go_at_call 16; have hM := hcur.size; with_reducible refine (PP.out.write A2 2 c2 A2' 1 c2' twoS [(1, List.replicate 32 120)] 1 AO 32 32 (List.replicate 32 121) _ (X.out.below hcur).dsk (few_small (by kernel_rfl)) (Arg.own hownO) (full_byte (by decide) (by decide)) (by decide)).mono ?_; intro e w3 hout; obtain ⟨A3, c3, A3', c3', rfl, hown, hb⟩ := hout.is (S' := twoS) (C' := twoC) (E' := 0) (n := 2) (n' := 2) (by kernel_rfl) (by kernel_rfl) (by kernel_rfl) rfl rfl; have hcur := hcur.trans (hb.mono hcur.size); have hkX := keepX _ hcur; try (have hZ := hZ.below hb hZ.lt; have z0 := hZ.cell 0; have z1 := hZ.cell 1; have g0 := hZ.free 0; have g1 := hZ.free 1; simp only [List.getElem?_cons_zero, List.getElem?_cons_succ] at z0 z1))
        | (go_at_call 16; have hL := hcur.size; have hcur := hcur.alloc hcur.size (.cells #[.slice none 0 0, .slice none 0 0] 25); have hZ := Blk.new wO 25 [.slice none 0 0, .slice none 0 0]; have hownO := owns_below hownO ((Below.refl wO.heap.size wO).alloc (Nat.le_refl _) (.cells #[.slice none 0 0, .slice none 0 0] 25)); have hM := hcur.size; with_reducible refine (PP.out.write A2 2 c2 A2' 1 c2' twoS [(1, List.replicate 32 120)] 1 AO 32 32 (List.replicate 32 121) _ (X.out.below hcur).dsk (few_small (by kernel_rfl)) (Arg.own hownO) (full_byte (by decide) (by decide)) (by decide)).mono ?_; intro e w3 hout; obtain ⟨A3, c3, A3', c3', rfl, hown, hb⟩ := hout.is (S' := twoS) (C' := twoC) (E' := 0) (n := 2) (n' := 2) (by kernel_rfl) (by kernel_rfl) (by kernel_rfl) rfl rfl; have hcur := hcur.trans (hb.mono hcur.size); have hkX := keepX _ hcur; have hZ := hZ.below hb hZ.lt; have z0 := hZ.cell 0; have z1 := hZ.cell 1; have g0 := hZ.free 0; have g1 := hZ.free 1; simp only [List.getElem?_cons_zero, List.getElem?_cons_succ] at z0 z1))
    all_goals first
      | (have hY : Below v2.heap.size v2 _ := (hcur.setCell (p := ⟨wO.heap.size, 0, none⟩) hL (.slice A3 2 c3)).setCell (p := ⟨wO.heap.size, 1, none⟩) hL (.slice A3' 2 c3')
         have OZ := hown.two hZ (.slice A3 2 c3) (.slice A3' 2 c3')
         have X : DBox _ wO.heap.size A3 2 c3 A3' 2 c3' twoS twoC := ⟨hZ.two (.slice A3 2 c3) (.slice A3' 2 c3'), Dsk.of_own OZ⟩
         have O := OZ.lower (Nat.le_trans B.out.size hM)
         have X0 := X0.out.below hY X0.out.lt
         have B := B.out.trans (hY.mono B.out.size)
         clear hcur keepX hkX hown hb hM hownO hbO hY hL hZ z0 z1 g0 g1 OZ
         obtain ⟨b3, hB⟩ : ∃ x, x = wO.heap.size := ⟨_, rfl⟩
         rw [← hB] at X X0 B O ⊢
         obtain ⟨v3, hW⟩ : ∃ x : World, x = (w3.setCell ⟨b3, 0, none⟩ (.slice A3 2 c3)).setCell ⟨b3, 1, none⟩ (.slice A3' 2 c3') := ⟨_, rfl⟩
         rw [← hW] at X X0 B O ⊢
         clear hB hW
         have X := Lib.hid X
         have X0 := Lib.hid X0
         have B := Lib.hid B
         have O := Lib.hid O)
      | (have hY : Below v2.heap.size v2 _ := (hcur.setCell (p := ⟨v2.heap.size, 0, none⟩) hL (.slice A3 2 c3)).setCell (p := ⟨v2.heap.size, 1, none⟩) hL (.slice A3' 2 c3')
         have OZ := hown.two hZ (.slice A3 2 c3) (.slice A3' 2 c3')
         have X : DBox _ v2.heap.size A3 2 c3 A3' 2 c3' twoS twoC := ⟨hZ.two (.slice A3 2 c3) (.slice A3' 2 c3'), Dsk.of_own OZ⟩
         have O := OZ.lower (Nat.le_trans B.out.size hM)
         have X0 := X0.out.below hY X0.out.lt
         have B := B.out.trans (hY.mono B.out.size)
         clear hcur keepX hkX hown hb hM hownO hbO hY hL hZ hZ0 z0 z1 g0 g1 OZ
         obtain ⟨b3, hB⟩ : ∃ x, x = v2.heap.size := ⟨_, rfl⟩
         rw [← hB] at X X0 B O ⊢
         obtain ⟨v3, hW⟩ : ∃ x : World, x = (w3.setCell ⟨b3, 0, none⟩ (.slice A3 2 c3)).setCell ⟨b3, 1, none⟩ (.slice A3' 2 c3') := ⟨_, rfl⟩
         rw [← hW] at X X0 B O ⊢
         clear hB hW
         have X := Lib.hid X
         have X0 := Lib.hid X0
         have B := Lib.hid B
         have O := Lib.hid O)
      | (have K : Below w3.heap.size w3 (w3.alloc (.cells #[.slice A3 2 c3, .slice A3' 2 c3'] 25)) := (Below.refl _ _).alloc (Nat.le_refl _) _
         have hY := hcur.alloc hcur.size (.cells #[.slice A3 2 c3, .slice A3' 2 c3'] 25)
         have X := DBox.new (Dsk.of_own hown)
         have O := (hown.below K).lower (Nat.le_trans B.out.size hM)
         have X0 := X0.out.below hY X0.out.lt
         have B := B.out.trans (hY.mono B.out.size)
         clear hcur keepX hkX hown hb hM hownO hbO hY K
         obtain ⟨b3, hB⟩ : ∃ x, x = w3.heap.size := ⟨_, rfl⟩
         rw [← hB] at X ⊢
         obtain ⟨v3, hW⟩ : ∃ x : World, x = w3.alloc (.cells #[.slice A3 2 c3, .slice A3' 2 c3'] 25) := ⟨_, rfl⟩
         rw [← hW] at X X0 B O ⊢
         clear hB hW
         have X := Lib.hid X
         have X0 := Lib.hid X0
         have B := Lib.hid B
         have O := Lib.hid O)
    all_goals (
      obtain ⟨c0, c1⟩ := X.out.cells
      have e0 := X0.out.cell 0
      have e1 := X0.out.cell 1
      have g0 := X0.out.free 0
      have g1 := X0.out.free 1
      simp only [List.getElem?_cons_zero, List.getElem?_cons_succ] at e0 e1
      go_wp2
      have z := X0.out.two (.slice A3 2 c3) (.slice A3' 2 c3')
      have z0 := z.cell 0
      have z1 := z.cell 1
      simp only [List.getElem?_cons_zero, List.getElem?_cons_succ] at z0 z1
      have O3 := O.out.two X0.out (.slice A3 2 c3) (.slice A3' 2 c3')
      refine bodyPost_ret (v := .tuple #[diskV A3 2 c3 A3' 2 c3', .bool true]) ?_ rfl ⟨A3, c3, A3', c3', rfl, O3, below_two B.out (Nat.le_refl _) _ _⟩
      clear e0 e1 g0 g1 c0 c1
      simp [results, Try.f14, go_sem, z0, z1]))

end Go.Proofs.Ytkbeeknnfndjgaa
