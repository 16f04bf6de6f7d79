/- Layer 9: the law's own disk of noughts, and the chapter's examples. -/
import Derived.Test.YtncnppffllfbeaaSupPut
namespace Go.Proofs.Ytncnppffllfbeaa
open Go.RowKit
set_option linter.unusedVariables false

/-- The chapter's disk of noughts. -/
def nS : List Sec := List.replicate 86 (false, noughts)
theorem nS_len : nS.length = 86 := by kernel_rfl
theorem nS_new : newS 86 = nS ∧ newE 86 = 0 := ⟨by kernel_rfl, by kernel_rfl⟩
theorem nS_sec : secN 2 9 4 2 2 8 = 86 ∧ chkC 2 9 4 2 2 8 = 0 := ⟨by decide +kernel, by decide +kernel⟩
theorem nS_byte : ∀ s ∈ nS, ∀ z ∈ s.2, isByte z := fun s h z hz => by
  unfold nS at h
  rw [(List.mem_replicate.1 h).2] at hz
  unfold noughts at hz
  rw [(List.mem_replicate.1 hz).2]
  exact ⟨by decide, by decide⟩
theorem none_byteC : ∀ p ∈ ([] : List Pnd), ∀ z ∈ p.2, isByte z := fun p h => absurd h (by simp)
theorem nS_small : SmallD nS [] := few_smallJ (by kernel_rfl)
theorem s3_is : isS (3, 1, 65537) := ⟨⟨by decide, by decide⟩, by decide, by decide⟩
theorem n_r : srE 2 9 4 2 2 8 nS [] = 0 ∧ srV 2 9 4 2 2 8 nS [] = (0, 0, 0) := ⟨by kernel_rfl, by kernel_rfl⟩
theorem n_p : spE 2 9 4 2 2 8 nS [] (3, 1, 65537) = 0 := by kernel_rfl
def nL : List Pnd := spL 2 9 4 2 2 8 nS [] (3, 1, 65537)
theorem spL_cpL {P T A M W Q : Int} {S : List Sec} {C : List Pnd} {s : Sup} (h : spE P T A M W Q S C s = 0) : spL P T A M W Q S C s = cpL S C 0 1 (suT s) := if_pos h
theorem nL_cpL : nL = cpL nS [] 0 1 (suT (3, 1, 65537)) := spL_cpL n_p
theorem nL_one : nL.length = 1 := by rw [nL_cpL]; exact (spL_good n_p).1
theorem n_at : (nL.getD 0 (0, [])).1 = 0 := by kernel_rfl
theorem n_len : (nL.getD 0 (0, [])).2.length = 32 := by kernel_rfl
theorem n_t : ((nL.getD 0 (0, [])).2.drop 8).take (21 - 8) = [0, 0, 0, 3, 1, 0, 0, 0, 0, 0, 1, 0, 1] := by kernel_rfl
theorem nL_good : ∀ p ∈ nL, (0 ≤ p.1 ∧ p.1 < (nS.length : Int) ∧ p.2.length = 32) ∧ ∀ z ∈ p.2, isByte z := by rw [nL_cpL]; exact (spL_good n_p).2
theorem nL_small : SmallD nS nL := by
  have := small_more nS_small nL_good (k := 1) (by decide)
  rwa [List.nil_append, List.take_of_length_le (Nat.le_of_eq nL_one)] at this
theorem n_x : srE 2 9 4 2 2 8 nS nL = 0 ∧ srV 2 9 4 2 2 8 nS nL = (3, 1, 65537) := by
  have h := (sup_tells n_p s3_is nS_byte none_byteC (by decide) []).2.1
  rw [List.nil_append, ← nL_cpL] at h
  exact h
theorem str_13 : (strOfNums [0, 0, 0, 3, 1, 0, 0, 0, 0, 0, 1, 0, 1]).toList = ([0, 0, 0, 3, 1, 0, 0, 0, 0, 0, 1, 0, 1] : List UInt8) := by kernel_rfl

set_option maxRecDepth 100000 in
set_option maxHeartbeats 12800000 in
theorem blank9_any (w : World) : Calls Try.prog 6 #[] w fun e w' => ∃ A c A' c', e = .returned (.tuple #[diskV A 86 c A' 0 c', .bool true]) ∧ OwnDsk w' w.heap.size A 86 c A' 0 c' nS [] ∧ Below w.heap.size w w' := by
  have x0 := Blk.new w 25 [.slice none 0 0, .slice none 0 0]
  have hb0 : Below w.heap.size w (w.alloc (.cells #[.slice none 0 0, .slice none 0 0] 25)) := (Below.refl _ _).alloc (Nat.le_refl _) _
  obtain ⟨v0, hW⟩ : ∃ x : World, x = w.alloc (.cells #[.slice none 0 0, .slice none 0 0] 25) := ⟨_, rfl⟩
  rw [← hW] at x0 hb0
  have X0 := Lib.hid x0
  have B := Lib.hid hb0
  have PS := Lib.hid (fun w' : World => psectors_any 2 9 4 2 2 8 w')
  rw [nS_sec.1, nS_sec.2] at PS
  clear x0 hb0
  go_enter Try.func6, Try.ntmps6
  go_wp2_with fail
  rw [← hW]
  clear hW
  refine (two9_any _).mono ?_
  rintro e w1 ⟨rfl, hb⟩
  have B := Lib.hid (B.out.trans (hb.mono B.out.size))
  have X0 := Lib.hid (X0.out.below hb X0.out.lt)
  clear hb
  go_wp2_with fail
  refine (PS.out _).mono ?_
  rintro e w2 ⟨rfl, hb⟩
  have B := Lib.hid (B.out.trans (hb.mono B.out.size))
  have X0 := Lib.hid (X0.out.below hb X0.out.lt)
  clear hb
  go_wp2_with fail
  refine (dsk_does.new 86 w2 (.inl (by decide))).mono ?_
  intro e w3 hout
  obtain ⟨A3, c3, A3', c3', rfl, hown, hb⟩ := DiskOut.as hout (S' := nS) (C' := []) (E' := 0) (n := 86) (n' := 0) nS_new.1 rfl nS_new.2 nS_len rfl
  have hb2 := hb.alloc hb.size (.cells #[.slice A3 86 c3, .slice A3' 0 c3'] 25)
  have hkA : Below w3.heap.size w3 (w3.alloc (.cells #[.slice A3 86 c3, .slice A3' 0 c3'] 25)) := (Below.refl _ _).alloc (Nat.le_refl _) _
  have Y := Blk.new w3 25 [.slice A3 86 c3, .slice A3' 0 c3']
  have x0 := X0.out.below hb2 X0.out.lt
  have OD := Lib.hid ((hown.below hkA).lower B.out.size)
  have BF := Lib.hid (below_two (B.out.trans (hb2.mono B.out.size)) (Nat.le_refl _) (.slice A3 86 c3) (.slice A3' 0 c3'))
  have y0 := Y.cell 0
  have y1 := Y.cell 1
  have p0 := x0.cell 0
  have p1 := x0.cell 1
  have f0 := x0.free 0
  have f1 := x0.free 1
  simp only [List.getElem?_cons_zero, List.getElem?_cons_succ] at y0 y1 p0 p1
  have XF := Lib.hid x0
  clear hout hown hb hb2 hkA Y x0 X0 B
  go_wp2
  have r := XF.out.two (.slice A3 86 c3) (.slice A3' 0 c3')
  have r0 := r.cell 0
  have r1 := r.cell 1
  simp only [List.getElem?_cons_zero, List.getElem?_cons_succ] at r0 r1
  refine bodyPost_ret (v := .tuple #[diskV A3 86 c3 A3' 0 c3', .bool true]) ?_ rfl ⟨A3, c3, A3', c3', rfl, OD.out.two XF.out _ _, BF.out⟩
  clear y0 y1 p0 p1 f0 f1
  simp [results, Try.f6, go_sem, r0, r1]

set_option maxRecDepth 100000 in
set_option maxHeartbeats 12800000 in
theorem alive_super (w : World) : Calls Try.prog 12 #[] w fun e w' => e = .returned (.bool true) ∧ Below w.heap.size w w' := by
  have B := Lib.hid (Below.refl w.heap.size w)
  have RD1 := Lib.hid (fun A1 c1 A1' c1' wx (hx : Dsk wx A1 86 c1 A1' 0 c1' nS []) => (show Calls Try.prog 10 #[cfgV 2 9 4 2 2 8, diskV A1 86 c1 A1' 0 c1'] wx (fun e w' => e = .returned (.tuple #[supV 0 0 0, .int .i64 0]) ∧ Below wx.heap.size wx w') from by
    have r := sread_any 2 9 4 2 2 8 A1 86 c1 A1' 0 c1' nS [] wx hx nS_small
    unfold SupOut at r
    rw [n_r.1, n_r.2] at r
    exact r))
  have RD2 := Lib.hid (fun A1 c1 A1' c1' wx (hx : Dsk wx A1 86 c1 A1' 1 c1' nS nL) => (show Calls Try.prog 10 #[cfgV 2 9 4 2 2 8, diskV A1 86 c1 A1' 1 c1'] wx (fun e w' => e = .returned (.tuple #[supV 3 1 65537, .int .i64 0]) ∧ Below wx.heap.size wx w') from by
    have r := sread_any 2 9 4 2 2 8 A1 86 c1 A1' 1 c1' nS nL wx hx nL_small
    unfold SupOut at r
    rw [n_x.1, n_x.2] at r
    exact r))
  have PL := Lib.hid (fun A1 c1 A1' c1' wx (hx : Dsk wx A1 86 c1 A1' 0 c1' nS []) => (show Calls Try.prog 8 #[cfgV 2 9 4 2 2 8, diskV A1 86 c1 A1' 0 c1', supV 3 1 65537] wx (fun e w' => ∃ A c, e = .returned (.tuple #[.slice A 1 c, .int .i64 0]) ∧ OwnPnds w' wx.heap.size A 1 c nL ∧ Below wx.heap.size wx w') from by
    have r := splan_any 2 9 4 2 2 8 A1 86 c1 A1' 0 c1' nS [] 3 1 65537 wx hx nS_small s3_is
    unfold PlanOut at r
    rw [n_p, show spL 2 9 4 2 2 8 nS [] (3, 1, 65537) = nL from rfl, nL_one] at r
    exact r))
  have PU := Lib.hid (fun A1 c1 A1' c1' wx (hx : Dsk wx A1 86 c1 A1' 0 c1' nS []) => (show Calls Try.prog 19 #[cfgV 2 9 4 2 2 8, diskV A1 86 c1 A1' 0 c1', supV 3 1 65537] wx (fun e w' => ∃ A2 c2 A2' c2', e = .returned (.tuple #[diskV A2 86 c2 A2' 1 c2', .bool true]) ∧ OwnDsk w' wx.heap.size A2 86 c2 A2' 1 c2' nS nL ∧ Below wx.heap.size wx w') from
    put_yes 2 9 4 2 2 8 A1 86 c1 A1' 0 c1' nS [] 3 1 65537 wx hx nS_small s3_is n_p (by decide)))
  go_enter Try.func12, Try.ntmps12
  go_wp2_with fail
  refine (blank9_any _).mono ?_
  rintro e w1 ⟨A1, c1, A1', c1', rfl, hown, hb⟩
  have hb2 := hb.alloc hb.size (.cells #[.slice A1 86 c1, .slice A1' 0 c1'] 25)
  have X := Lib.hid (DBox.new (Dsk.of_own hown))
  have B := Lib.hid (B.out.trans (hb2.mono B.out.size))
  clear hown hb hb2
  go_upto_region 2 with fail
  obtain ⟨G1, hG⟩ : ∃ x, x = w1.heap.size := ⟨_, rfl⟩
  rw [← hG] at X ⊢
  obtain ⟨v1, hW⟩ : ∃ x : World, x = w1.alloc (.cells #[.slice A1 86 c1, .slice A1' 0 c1'] 25) := ⟨_, rfl⟩
  rw [← hW] at X B ⊢
  clear hW hG
  go_cut [3, 4] from 15 to 20 (fun x e wx => ∃ g : Nat, x = .pointer (some ⟨g, 0, none⟩) ∧ e = .int .i64 0 ∧ Blk wx g 31 (supL 0 0 0) ∧ Below v1.heap.size v1 wx)
  case first =>
    have hcur : Below v1.heap.size v1 v1.drew := below_drewN (Below.refl _ _) 1
    have keepX : ∀ wx, Below v1.heap.size v1 wx → wx.cell? ⟨G1, 0, none⟩ = some (.slice A1 86 c1) ∧ wx.cell? ⟨G1, 1, none⟩ = some (.slice A1' 0 c1') := fun wx hx => (X.out.below hx).cells
    have hkX := keepX _ hcur
    go_region_held3 (fun w' => w'.cell? ⟨G1, 0, none⟩ = some (.slice A1 86 c1) ∧ w'.cell? ⟨G1, 1, none⟩ = some (.slice A1' 0 c1'))
      (first | exact hkX | exact keepX _ (below_drewN ((Below.refl _ _).alloc (Nat.le_refl _) _) 1) | exact keepX _ (hcur.alloc hcur.size _) | exact keepX _ (((hcur.setCell (p := ⟨_, 0, none⟩) hL _).setCell (p := ⟨_, 1, none⟩) hL _).setCell (p := ⟨_, 2, none⟩) hL _) | go_keep)
      (first
        | (go_at_call 9; with_reducible refine (two9_any v1.drew).mono ?_; rintro e wT ⟨rfl, hb⟩; have hcur := hcur.trans (hb.mono hcur.size); have hkX := keepX _ hcur; try (have hZ := hZ.below hb hZ.lt))
        | (go_at_call 9; have hL := Nat.le_refl v1.heap.size; have hcur : Below v1.heap.size v1 (v1.alloc (.cells #[.int .u32 0, .int .i64 0, .int .u64 0] 31)).drew := below_drewN ((Below.refl _ _).alloc (Nat.le_refl _) _) 1; have hZ0 := Blk.new v1 31 [.int .u32 0, .int .i64 0, .int .u64 0]; have hZ := hZ0.below (below_drewN (Below.refl _ _) 1) hZ0.lt; with_reducible refine (two9_any _).mono ?_; rintro e wT ⟨rfl, hb⟩; have hZ := hZ.below hb hZ.lt; have hcur := hcur.trans (hb.mono hcur.size); have hkX := keepX _ hcur)
        | (go_at_call 10; have hM := hcur.size; with_reducible refine (RD1.out A1 c1 A1' c1' wT (X.out.below hcur).dsk).mono ?_; rintro e w2 ⟨rfl, hb⟩; have hcur := hcur.trans (hb.mono hcur.size); have hkX := keepX _ hcur; try (have hZ := hZ.below hb hZ.lt; have z0 := hZ.cell 0; have z1 := hZ.cell 1; have z2 := hZ.cell 2; have g0 := hZ.free 0; have g1 := hZ.free 1; have g2 := hZ.free 2; simp only [List.getElem?_cons_zero, List.getElem?_cons_succ] at z0 z1 z2))
        | (go_at_call 10; have hL := hcur.size; have hcur := hcur.alloc hcur.size (.cells #[.int .u32 0, .int .i64 0, .int .u64 0] 31); have hZ := Blk.new wT 31 [.int .u32 0, .int .i64 0, .int .u64 0]; have hM := hcur.size; with_reducible refine (RD1.out A1 c1 A1' c1' _ (X.out.below hcur).dsk).mono ?_; rintro e w2 ⟨rfl, hb⟩; have hZ := hZ.below hb hZ.lt; have hcur := hcur.trans (hb.mono hcur.size); have hkX := keepX _ hcur; have z0 := hZ.cell 0; have z1 := hZ.cell 1; have z2 := hZ.cell 2; have g0 := hZ.free 0; have g1 := hZ.free 1; have g2 := hZ.free 2; simp only [List.getElem?_cons_zero, List.getElem?_cons_succ] at z0 z1 z2))
    all_goals (go_wp2_with fail; go_meet)
    all_goals first
      | exact ⟨_, rfl, rfl, Blk.new _ _ _, hcur.alloc hcur.size _⟩
      | exact ⟨_, rfl, rfl, hZ.three _ _ _, (((hcur.setCell (p := ⟨_, 0, none⟩) hL _).setCell (p := ⟨_, 1, none⟩) hL _).setCell (p := ⟨_, 2, none⟩) hL _)⟩
  case rest =>
    obtain ⟨Ga, rfl, rfl, hya, hb⟩ := hcut
    have B := Lib.hid (B.out.trans (hb.mono B.out.size))
    have X := Lib.hid (X.out.below hb)
    have Y := Lib.hid hya
    clear hb hya RD1
    go_upto_region 3 with fail
    have hcur : Below wc.heap.size wc wc.drew := below_drewN (Below.refl _ _) 1
    have keepX : ∀ wx, Below wc.heap.size wc wx → wx.cell? ⟨G1, 0, none⟩ = some (.slice A1 86 c1) ∧ wx.cell? ⟨G1, 1, none⟩ = some (.slice A1' 0 c1') := fun wx hx => (X.out.below hx).cells
    have hkX := keepX _ hcur
    go_region_held3 (fun w' => w'.cell? ⟨G1, 0, none⟩ = some (.slice A1 86 c1) ∧ w'.cell? ⟨G1, 1, none⟩ = some (.slice A1' 0 c1'))
      (first | exact hkX | go_keep)
      (first
        | (go_at_call 9; with_reducible refine (two9_any wc.drew).mono ?_; rintro e wT ⟨rfl, hb⟩; have hcur := hcur.trans (hb.mono hcur.size); have hkX := keepX _ hcur)
        | (go_at_call 7; with_reducible refine (three9_any wT).mono ?_; rintro e wH ⟨rfl, hb⟩; have hcur := hcur.trans (hb.mono hcur.size); have hkX := keepX _ hcur)
        | (go_at_call 8; have hM := hcur.size; with_reducible refine (PL.out A1 c1 A1' c1' wH (X.out.below hcur).dsk).mono ?_; rintro e v3 ⟨AL, cL, rfl, hown, hb⟩; have hcur := hcur.trans (hb.mono hcur.size); have hkX := keepX _ hcur; have PN := Lib.hid (Pnds.of_own hown)))
    have B := Lib.hid (B.out.trans (hcur.mono B.out.size))
    have X := Lib.hid (X.out.below hcur)
    have Y := Lib.hid (Y.out.below hcur Y.out.lt)
    clear keepX hkX hcur hown hb hM PL
    go_upto_region 4 with fail
    go_cut [7, 8] from 28 to 34 (fun x e wx => ∃ g A9 c9 A9' c9', x = .pointer (some ⟨g, 0, none⟩) ∧ e = .bool true ∧ Blk wx g 25 [.slice A9 86 c9, .slice A9' 1 c9'] ∧ Dsk wx A9 86 c9 A9' 1 c9' nS nL ∧ Below v3.heap.size v3 wx)
    case first =>
      have hcur : Below v3.heap.size v3 v3.drew := below_drewN (Below.refl _ _) 1
      have keepX : ∀ wx, Below v3.heap.size v3 wx → wx.cell? ⟨G1, 0, none⟩ = some (.slice A1 86 c1) ∧ wx.cell? ⟨G1, 1, none⟩ = some (.slice A1' 0 c1') := fun wx hx => (X.out.below hx).cells
      have hkX := keepX _ hcur
      go_region_held3 (fun w' => w'.cell? ⟨G1, 0, none⟩ = some (.slice A1 86 c1) ∧ w'.cell? ⟨G1, 1, none⟩ = some (.slice A1' 0 c1'))
        (first | exact hkX | exact keepX _ (below_drewN ((Below.refl _ _).alloc (Nat.le_refl _) _) 1) | exact keepX _ (hcur.alloc hcur.size _) | exact keepX _ ((hcur.setCell (p := ⟨_, 0, none⟩) hL _).setCell (p := ⟨_, 1, none⟩) hL _) | go_keep)
        (first
          | (go_at_call 9; with_reducible refine (two9_any v3.drew).mono ?_; rintro e wT ⟨rfl, hb⟩; have hcur := hcur.trans (hb.mono hcur.size); have hkX := keepX _ hcur; try (have hZ := hZ.below hb hZ.lt))
          | (go_at_call 9; have hL := Nat.le_refl v3.heap.size; have hcur : Below v3.heap.size v3 (v3.alloc (.cells #[.slice none 0 0, .slice none 0 0] 25)).drew := below_drewN ((Below.refl _ _).alloc (Nat.le_refl _) _) 1; have hZ0 := Blk.new v3 25 [.slice none 0 0, .slice none 0 0]; have hZ := hZ0.below (below_drewN (Below.refl _ _) 1) hZ0.lt; with_reducible refine (two9_any _).mono ?_; rintro e wT ⟨rfl, hb⟩; have hZ := hZ.below hb hZ.lt; have hcur := hcur.trans (hb.mono hcur.size); have hkX := keepX _ hcur)
          | (go_at_call 7; with_reducible refine (three9_any wT).mono ?_; rintro e wH ⟨rfl, hb⟩; have hcur := hcur.trans (hb.mono hcur.size); have hkX := keepX _ hcur; try (have hZ := hZ.below hb hZ.lt))
          | (go_at_call 7; have hL := hcur.size; have hcur := hcur.alloc hcur.size (.cells #[.slice none 0 0, .slice none 0 0] 25); have hZ := Blk.new wT 25 [.slice none 0 0, .slice none 0 0]; with_reducible refine (three9_any _).mono ?_; rintro e wH ⟨rfl, hb⟩; have hZ := hZ.below hb hZ.lt; have hcur := hcur.trans (hb.mono hcur.size); have hkX := keepX _ hcur)
          | (go_at_call 19; have hM := hcur.size; with_reducible refine (PU.out A1 c1 A1' c1' wH (X.out.below hcur).dsk).mono ?_; rintro e w5 ⟨A9, c9, A9', c9', rfl, hd, hb⟩; have hcur := hcur.trans (hb.mono hcur.size); have hkX := keepX _ hcur; try (have hZ := hZ.below hb hZ.lt; have z0 := hZ.cell 0; have z1 := hZ.cell 1; have g0 := hZ.free 0; have g1 := hZ.free 1; simp only [List.getElem?_cons_zero, List.getElem?_cons_succ] at z0 z1))
          | (go_at_call 19; have hL := hcur.size; have hcur := hcur.alloc hcur.size (.cells #[.slice none 0 0, .slice none 0 0] 25); have hZ := Blk.new wH 25 [.slice none 0 0, .slice none 0 0]; have hM := hcur.size; with_reducible refine (PU.out A1 c1 A1' c1' _ (X.out.below hcur).dsk).mono ?_; rintro e w5 ⟨A9, c9, A9', c9', rfl, hd, hb⟩; have hZ := hZ.below hb hZ.lt; have hcur := hcur.trans (hb.mono hcur.size); have hkX := keepX _ hcur; have z0 := hZ.cell 0; have z1 := hZ.cell 1; have g0 := hZ.free 0; have g1 := hZ.free 1; simp only [List.getElem?_cons_zero, List.getElem?_cons_succ] at z0 z1))
      all_goals (go_wp2_with fail; go_meet)
      all_goals first
        | exact ⟨_, A9, c9, A9', c9', rfl, rfl, Blk.new _ _ _, Dsk.of_own (hd.below ((Below.refl _ _).alloc (Nat.le_refl _) _)), hcur.alloc hcur.size _⟩
        | exact ⟨_, A9, c9, A9', c9', rfl, rfl, hZ.two _ _, Dsk.of_own (hd.two hZ _ _), ((hcur.setCell (p := ⟨_, 0, none⟩) hL _).setCell (p := ⟨_, 1, none⟩) hL _)⟩
    case rest =>
      obtain ⟨G9, A9, c9, A9', c9', rfl, rfl, hg, hd, hb⟩ := hcut
      have B := Lib.hid (B.out.trans (hb.mono B.out.size))
      have X9 := Lib.hid (⟨hg, hd⟩ : DBox _ G9 A9 86 c9 A9' 1 c9' nS nL)
      have Y := Lib.hid (Y.out.below hb Y.out.lt)
      have PN := Lib.hid (PN.out.below hb)
      clear X hb hg hd PU
      go_upto_region 5 with fail
      go_cut [9, 10] from 35 to 40 (fun x e wx => ∃ g : Nat, x = .pointer (some ⟨g, 0, none⟩) ∧ e = .int .i64 0 ∧ Blk wx g 31 (supL 3 1 65537) ∧ Below wc.heap.size wc wx)
      case first =>
        have hcur : Below wc.heap.size wc wc.drew := below_drewN (Below.refl _ _) 1
        have keepX : ∀ wx, Below wc.heap.size wc wx → wx.cell? ⟨G9, 0, none⟩ = some (.slice A9 86 c9) ∧ wx.cell? ⟨G9, 1, none⟩ = some (.slice A9' 1 c9') := fun wx hx => (X9.out.below hx).cells
        have hkX := keepX _ hcur
        go_region_held3 (fun w' => w'.cell? ⟨G9, 0, none⟩ = some (.slice A9 86 c9) ∧ w'.cell? ⟨G9, 1, none⟩ = some (.slice A9' 1 c9'))
          (first | exact hkX | exact keepX _ (below_drewN ((Below.refl _ _).alloc (Nat.le_refl _) _) 1) | exact keepX _ (hcur.alloc hcur.size _) | exact keepX _ (((hcur.setCell (p := ⟨_, 0, none⟩) hL _).setCell (p := ⟨_, 1, none⟩) hL _).setCell (p := ⟨_, 2, none⟩) hL _) | go_keep)
          (first
            | (go_at_call 9; with_reducible refine (two9_any wc.drew).mono ?_; rintro e wT ⟨rfl, hb⟩; have hcur := hcur.trans (hb.mono hcur.size); have hkX := keepX _ hcur; try (have hZ := hZ.below hb hZ.lt))
            | (go_at_call 9; have hL := Nat.le_refl wc.heap.size; have hcur : Below wc.heap.size wc (wc.alloc (.cells #[.int .u32 0, .int .i64 0, .int .u64 0] 31)).drew := below_drewN ((Below.refl _ _).alloc (Nat.le_refl _) _) 1; have hZ0 := Blk.new wc 31 [.int .u32 0, .int .i64 0, .int .u64 0]; have hZ := hZ0.below (below_drewN (Below.refl _ _) 1) hZ0.lt; with_reducible refine (two9_any _).mono ?_; rintro e wT ⟨rfl, hb⟩; have hZ := hZ.below hb hZ.lt; have hcur := hcur.trans (hb.mono hcur.size); have hkX := keepX _ hcur)
            | (go_at_call 10; have hM := hcur.size; with_reducible refine (RD2.out A9 c9 A9' c9' wT (X9.out.below hcur).dsk).mono ?_; rintro e w6 ⟨rfl, hb⟩; have hcur := hcur.trans (hb.mono hcur.size); have hkX := keepX _ hcur; try (have hZ := hZ.below hb hZ.lt; have z0 := hZ.cell 0; have z1 := hZ.cell 1; have z2 := hZ.cell 2; have g0 := hZ.free 0; have g1 := hZ.free 1; have g2 := hZ.free 2; simp only [List.getElem?_cons_zero, List.getElem?_cons_succ] at z0 z1 z2))
            | (go_at_call 10; have hL := hcur.size; have hcur := hcur.alloc hcur.size (.cells #[.int .u32 0, .int .i64 0, .int .u64 0] 31); have hZ := Blk.new wT 31 [.int .u32 0, .int .i64 0, .int .u64 0]; have hM := hcur.size; with_reducible refine (RD2.out A9 c9 A9' c9' _ (X9.out.below hcur).dsk).mono ?_; rintro e w6 ⟨rfl, hb⟩; have hZ := hZ.below hb hZ.lt; have hcur := hcur.trans (hb.mono hcur.size); have hkX := keepX _ hcur; have z0 := hZ.cell 0; have z1 := hZ.cell 1; have z2 := hZ.cell 2; have g0 := hZ.free 0; have g1 := hZ.free 1; have g2 := hZ.free 2; simp only [List.getElem?_cons_zero, List.getElem?_cons_succ] at z0 z1 z2))
        all_goals (go_wp2_with fail; go_meet)
        all_goals first
          | exact ⟨_, rfl, rfl, Blk.new _ _ _, hcur.alloc hcur.size _⟩
          | exact ⟨_, rfl, rfl, hZ.three _ _ _, (((hcur.setCell (p := ⟨_, 0, none⟩) hL _).setCell (p := ⟨_, 1, none⟩) hL _).setCell (p := ⟨_, 2, none⟩) hL _)⟩
      case rest =>
        obtain ⟨Gb, rfl, rfl, hyb, hb⟩ := hcut
        have B := Lib.hid (B.out.trans (hb.mono B.out.size))
        have Y := Lib.hid (Y.out.below hb Y.out.lt)
        have Z := Lib.hid hyb
        have PN := Lib.hid (PN.out.below hb)
        clear X9 hb hyb RD2
        obtain ⟨bk, ok, Ak, nk, ck, rfl, hlt, p0, p1, hak⟩ := one_cells PN.out
        rw [n_at] at p0
        have hnk : nk = 32 := by rw [← hak.len]; exact n_len
        subst hnk
        obtain ⟨gb, ob, eg, _, _⟩ := hak.seq.at_ (by rw [ints_length]; have := n_len; omega)
        subst eg
        have hck : 32 ≤ ck := hak.cap
        have hckm : ck ≤ maxLen := hak.max
        unfold maxLen at hckm
        have a13 : Arg _ .u8 (some ⟨gb, ob + 8, none⟩) 13 (ck - 8) (((nL.getD 0 (0, [])).2.drop 8).take (21 - 8)) := arg_bit hak (lo := 8) (hi := 21) (by decide) (by decide)
        rw [n_t] at a13
        have A13 := Lib.hid a13
        obtain ⟨s0, hs0⟩ : ∃ s, s = strOfNums [0, 0, 0, 3, 1, 0, 0, 0, 0, 0, 1, 0, 1] := ⟨_, rfl⟩
        have HS0 := Lib.hid hs0
        have hst : s0.toList = ([0, 0, 0, 3, 1, 0, 0, 0, 0, 0, 1, 0, 1] : List UInt8) := hs0 ▸ str_13
        have keepX : ∀ wx, Below wc.heap.size wc wx → wx.cell? ⟨Ga, 0, none⟩ = some (.int .u32 0) ∧ wx.cell? ⟨Ga, 1, none⟩ = some (.int .i64 0) ∧ wx.cell? ⟨Ga, 2, none⟩ = some (.int .u64 0) ∧ wx.cell? ⟨Gb, 0, none⟩ = some (.int .u32 3) ∧ wx.cell? ⟨Gb, 1, none⟩ = some (.int .i64 1) ∧ wx.cell? ⟨Gb, 2, none⟩ = some (.int .u64 65537) ∧ wx.cell? ⟨bk, ok, none⟩ = some (.int .i64 0) ∧ wx.cell? ⟨bk, ok + 1, none⟩ = some (.slice (some ⟨gb, ob, none⟩) 32 ck) ∧ (convert 41 9 (.slice (some ⟨gb, ob + 8, none⟩) 13 (ck - 8))).run Try.prog wx = .ok (.string s0) wx := fun wx hx => by
          obtain ⟨a0, a1, a2⟩ := (Y.out.below hx Y.out.lt).tri
          obtain ⟨b0, b1, b2⟩ := (Z.out.below hx Z.out.lt).tri
          exact ⟨a0, a1, a2, b0, b1, b2, (hx.cell (p := ⟨bk, ok, none⟩) hlt).trans p0, (hx.cell (p := ⟨bk, ok + 1, none⟩) hlt).trans p1, by rw [HS0.out]; exact str_arg (A13.out.below hx)⟩
        have EQ1 := fun (wx : World) => eq_sup 0 0 0 0 0 0 wx
        have EQ2 := fun (wx : World) => eq_sup 3 1 65537 3 1 65537 wx
        have h8 : (8 : Int) < (ck : Int) := by omega
        have h8n : ¬ ck = 8 := by omega
        have h21 : (21 : Int) ≤ (ck : Int) := by omega
        clear p0 p1 hak a13 hs0 hck
        go_upto_region 6 with fail
        have hcur : Below wc.heap.size wc wc.drew := below_drewN (Below.refl _ _) 1
        have hkX := keepX _ hcur
        have hHeld := hkX
        refine wp_region_to 55 (fun w' => w'.cell? ⟨Ga, 0, none⟩ = some (.int .u32 0) ∧ w'.cell? ⟨Ga, 1, none⟩ = some (.int .i64 0) ∧ w'.cell? ⟨Ga, 2, none⟩ = some (.int .u64 0) ∧ w'.cell? ⟨Gb, 0, none⟩ = some (.int .u32 3) ∧ w'.cell? ⟨Gb, 1, none⟩ = some (.int .i64 1) ∧ w'.cell? ⟨Gb, 2, none⟩ = some (.int .u64 65537) ∧ w'.cell? ⟨bk, ok, none⟩ = some (.int .i64 0) ∧ w'.cell? ⟨bk, ok + 1, none⟩ = some (.slice (some ⟨gb, ob, none⟩) 32 ck) ∧ (convert 41 9 (.slice (some ⟨gb, ob + 8, none⟩) 13 (ck - 8))).run Try.prog w' = .ok (.string s0) w') (by kernel_rfl) ?_
        refine wpAnyG_take1 (i := 0) (v := ?_) rfl (by kernel_rfl) (by kernel_rfl) (by kernel_rfl) (by kernel_rfl) (by kernel_rfl) rfl (fun _ _ _ h => h) (Or.inl ⟨by rfl, ?_⟩) hHeld ?_
        rotate_left
        · (intro w' hSw; (try dsimp only at hSw); go_simp; (try with_reducible rfl))
        simp only [Act.put, List.setIfInBounds_toArray, List.set_cons_zero, List.set_cons_succ, List.getElem_toArray, List.getElem_cons_zero]
        refine wpAnyG_take1 (i := 1) (v := ?_) rfl (by kernel_rfl) (by kernel_rfl) (by kernel_rfl) (by kernel_rfl) (by kernel_rfl) rfl (fun _ _ _ h => h) (Or.inl ⟨by rfl, ?_⟩) hHeld ?_
        rotate_left
        · (intro w' hSw; (try dsimp only at hSw); go_simp; (try with_reducible rfl))
        simp only [Act.put, List.setIfInBounds_toArray, List.set_cons_zero, List.set_cons_succ, List.getElem_toArray, List.getElem_cons_zero, List.getElem_cons_succ]
        refine wpAnyG_take1 (i := 2) (v := ?_) rfl (by kernel_rfl) (by kernel_rfl) (by kernel_rfl) (by kernel_rfl) (by kernel_rfl) rfl (fun _ _ _ h => h) (Or.inl ⟨by rfl, ?_⟩) hHeld ?_
        rotate_left
        · (intro w' hSw; (try dsimp only at hSw); go_simp; (try with_reducible rfl))
        simp only [Act.put, List.setIfInBounds_toArray, List.set_cons_zero, List.set_cons_succ, List.getElem_toArray, List.getElem_cons_zero, List.getElem_cons_succ]
        refine wpAnyG_take1 (i := 3) (v := ?_) rfl (by kernel_rfl) (by kernel_rfl) (by kernel_rfl) (by kernel_rfl) (by kernel_rfl) rfl (fun _ _ _ h => h) (Or.inl ⟨by rfl, ?_⟩) hHeld ?_
        rotate_left
        · (intro w' hSw; (try dsimp only at hSw); go_simp; (try with_reducible rfl))
        simp only [Act.put, List.setIfInBounds_toArray, List.set_cons_zero, List.set_cons_succ, List.getElem_toArray, List.getElem_cons_zero, List.getElem_cons_succ]
        refine wpAnyG_take1 (i := 4) (v := ?_) rfl (by kernel_rfl) (by kernel_rfl) (by kernel_rfl) (by kernel_rfl) (by kernel_rfl) rfl (fun _ _ _ h => h) (Or.inl ⟨by rfl, ?_⟩) hHeld ?_
        rotate_left
        · (intro w' hSw; (try dsimp only at hSw); go_simp; (try with_reducible rfl))
        simp only [Act.put, List.setIfInBounds_toArray, List.set_cons_zero, List.set_cons_succ, List.getElem_toArray, List.getElem_cons_zero, List.getElem_cons_succ]
        refine wpAnyG_take1 (i := 5) (v := ?_) rfl (by kernel_rfl) (by kernel_rfl) (by kernel_rfl) (by kernel_rfl) (by kernel_rfl) rfl (fun _ _ _ h => h) (Or.inl ⟨by rfl, ?_⟩) hHeld ?_
        rotate_left
        · (intro w' hSw; (try dsimp only at hSw); go_simp; (try with_reducible rfl))
        simp only [Act.put, List.setIfInBounds_toArray, List.set_cons_zero, List.set_cons_succ, List.getElem_toArray, List.getElem_cons_zero, List.getElem_cons_succ]
        refine wpAnyG_take1 (i := 6) (v := ?_) rfl (by kernel_rfl) (by kernel_rfl) (by kernel_rfl) (by kernel_rfl) (by kernel_rfl) rfl (fun _ _ _ h => h) (Or.inl ⟨by rfl, ?_⟩) hHeld ?_
        rotate_left
        · (intro w' hSw; (try dsimp only at hSw); go_simp; (try with_reducible rfl))
        simp only [Act.put, List.setIfInBounds_toArray, List.set_cons_zero, List.set_cons_succ, List.getElem_toArray, List.getElem_cons_zero, List.getElem_cons_succ]
        refine wpAnyG_take1 (i := 7) (v := ?_) rfl (by kernel_rfl) (by kernel_rfl) (by kernel_rfl) (by kernel_rfl) (by kernel_rfl) rfl (fun _ _ _ h => h) (Or.inl ⟨by rfl, ?_⟩) hHeld ?_
        rotate_left
        · (intro w' hSw; (try dsimp only at hSw); go_simp; (try with_reducible rfl))
        simp only [Act.put, List.setIfInBounds_toArray, List.set_cons_zero, List.set_cons_succ, List.getElem_toArray, List.getElem_cons_zero, List.getElem_cons_succ]
        refine wpAnyG_take1 (i := 8) (v := ?_) rfl (by kernel_rfl) (by kernel_rfl) (by kernel_rfl) (by kernel_rfl) (by kernel_rfl) rfl (fun _ _ _ h => h) (Or.inl ⟨by rfl, ?_⟩) hHeld ?_
        rotate_left
        · (intro w' hSw; (try dsimp only at hSw); go_simp; (try with_reducible rfl))
        simp only [Act.put, List.setIfInBounds_toArray, List.set_cons_zero, List.set_cons_succ, List.getElem_toArray, List.getElem_cons_zero, List.getElem_cons_succ]
        refine wpAnyG_take1 (i := 9) (v := ?_) rfl (by kernel_rfl) (by kernel_rfl) (by kernel_rfl) (by kernel_rfl) (by kernel_rfl) rfl (fun _ _ _ h => h) (Or.inl ⟨by rfl, ?_⟩) hHeld ?_
        rotate_left
        · (intro w' hSw; (try dsimp only at hSw); go_simp; (try with_reducible rfl))
        simp only [Act.put, List.setIfInBounds_toArray, List.set_cons_zero, List.set_cons_succ, List.getElem_toArray, List.getElem_cons_zero, List.getElem_cons_succ]
        refine wpAnyG_take1 (i := 10) (v := ?_) rfl (by kernel_rfl) (by kernel_rfl) (by kernel_rfl) (by kernel_rfl) (by kernel_rfl) rfl (fun _ _ _ h => h) (Or.inl ⟨by rfl, ?_⟩) hHeld ?_
        rotate_left
        · (intro w' hSw; (try dsimp only at hSw); go_simp; (try with_reducible rfl))
        simp only [Act.put, List.setIfInBounds_toArray, List.set_cons_zero, List.set_cons_succ, List.getElem_toArray, List.getElem_cons_zero, List.getElem_cons_succ]
        refine wpAnyG_take1 (i := 11) (v := ?_) rfl (by kernel_rfl) (by kernel_rfl) (by kernel_rfl) (by kernel_rfl) (by kernel_rfl) rfl (fun _ _ _ h => h) (Or.inl ⟨by rfl, ?_⟩) hHeld ?_
        rotate_left
        · (intro w' hSw; (try dsimp only at hSw); go_simp; (try with_reducible rfl))
        simp only [Act.put, List.setIfInBounds_toArray, List.set_cons_zero, List.set_cons_succ, List.getElem_toArray, List.getElem_cons_zero, List.getElem_cons_succ]
        refine wpAnyG_take1 (i := 12) (v := ?_) rfl (by kernel_rfl) (by kernel_rfl) (by kernel_rfl) (by kernel_rfl) (by kernel_rfl) rfl (fun _ _ _ h => h) (Or.inl ⟨by rfl, ?_⟩) hHeld ?_
        rotate_left
        · (intro w' hSw; (try dsimp only at hSw); go_simp; (try with_reducible rfl))
        simp only [Act.put, List.setIfInBounds_toArray, List.set_cons_zero, List.set_cons_succ, List.getElem_toArray, List.getElem_cons_zero, List.getElem_cons_succ]
        refine wpAnyG_take1 (i := 13) (v := ?_) rfl (by kernel_rfl) (by kernel_rfl) (by kernel_rfl) (by kernel_rfl) (by kernel_rfl) rfl (fun _ _ _ h => h) (Or.inl ⟨by rfl, ?_⟩) hHeld ?_
        rotate_left
        · (intro w' hSw; (try dsimp only at hSw); go_simp; (try with_reducible rfl))
        simp only [Act.put, List.setIfInBounds_toArray, List.set_cons_zero, List.set_cons_succ, List.getElem_toArray, List.getElem_cons_zero, List.getElem_cons_succ]
        refine wpAnyG_take1 (i := 14) (v := ?_) rfl (by kernel_rfl) (by kernel_rfl) (by kernel_rfl) (by kernel_rfl) (by kernel_rfl) rfl (fun _ _ _ h => h) (Or.inl ⟨by rfl, ?_⟩) hHeld ?_
        rotate_left
        · (intro w' hSw; (try dsimp only at hSw); go_simp; (try with_reducible rfl))
        simp only [Act.put, List.setIfInBounds_toArray, List.set_cons_zero, List.set_cons_succ, List.getElem_toArray, List.getElem_cons_zero, List.getElem_cons_succ]
        refine wpAnyG_take1 (i := 15) (v := ?_) rfl (by kernel_rfl) (by kernel_rfl) (by kernel_rfl) (by kernel_rfl) (by kernel_rfl) rfl (fun _ _ _ h => h) (Or.inl ⟨by rfl, ?_⟩) hHeld ?_
        rotate_left
        · (intro w' hSw; (try dsimp only at hSw); go_simp; (try with_reducible rfl))
        simp only [Act.put, List.setIfInBounds_toArray, List.set_cons_zero, List.set_cons_succ, List.getElem_toArray, List.getElem_cons_zero, List.getElem_cons_succ]
        refine wpAnyG_take1 (i := 16) (v := ?_) rfl (by kernel_rfl) (by kernel_rfl) (by kernel_rfl) (by kernel_rfl) (by kernel_rfl) rfl (fun _ _ _ h => h) (Or.inl ⟨by rfl, ?_⟩) hHeld ?_
        rotate_left
        · (intro w' hSw; (try dsimp only at hSw); go_simp; (try with_reducible rfl))
        simp only [Act.put, List.setIfInBounds_toArray, List.set_cons_zero, List.set_cons_succ, List.getElem_toArray, List.getElem_cons_zero, List.getElem_cons_succ]
        refine wpAnyG_take1 (i := 17) (v := ?_) rfl (by kernel_rfl) (by kernel_rfl) (by kernel_rfl) (by kernel_rfl) (by kernel_rfl) rfl (fun _ _ _ h => h) (Or.inl ⟨by rfl, ?_⟩) hHeld ?_
        rotate_left
        · (intro w' hSw; (try dsimp only at hSw); go_simp; (try with_reducible rfl))
        simp only [Act.put, List.setIfInBounds_toArray, List.set_cons_zero, List.set_cons_succ, List.getElem_toArray, List.getElem_cons_zero, List.getElem_cons_succ]
        refine wpAnyG_take1 (i := 18) (v := ?_) rfl (by kernel_rfl) (by kernel_rfl) (by kernel_rfl) (by kernel_rfl) (by kernel_rfl) rfl (fun _ _ _ h => h) (Or.inl ⟨by rfl, ?_⟩) hHeld ?_
        rotate_left
        · (intro w' hSw; (try dsimp only at hSw); go_simp; (try with_reducible rfl))
        simp only [Act.put, List.setIfInBounds_toArray, List.set_cons_zero, List.set_cons_succ, List.getElem_toArray, List.getElem_cons_zero, List.getElem_cons_succ]
        refine wpAnyG_take1 (i := 19) (v := ?_) rfl (by kernel_rfl) (by kernel_rfl) (by kernel_rfl) (by kernel_rfl) (by kernel_rfl) rfl (fun _ _ _ h => h) (Or.inl ⟨by rfl, ?_⟩) hHeld ?_
        rotate_left
        · (intro w' hSw; (try dsimp only at hSw); go_simp; (try with_reducible rfl))
        simp only [Act.put, List.setIfInBounds_toArray, List.set_cons_zero, List.set_cons_succ, List.getElem_toArray, List.getElem_cons_zero, List.getElem_cons_succ]
        refine wpAnyG_take1 (i := 20) (v := ?_) rfl (by kernel_rfl) (by kernel_rfl) (by kernel_rfl) (by kernel_rfl) (by kernel_rfl) rfl (fun _ _ _ h => h) (Or.inl ⟨by rfl, ?_⟩) hHeld ?_
        rotate_left
        · (intro w' hSw; (try dsimp only at hSw); go_simp; (try with_reducible rfl))
        simp only [Act.put, List.setIfInBounds_toArray, List.set_cons_zero, List.set_cons_succ, List.getElem_toArray, List.getElem_cons_zero, List.getElem_cons_succ]
        refine wpAnyG_take1 (i := 21) (v := ?_) rfl (by kernel_rfl) (by kernel_rfl) (by kernel_rfl) (by kernel_rfl) (by kernel_rfl) rfl (fun _ _ _ h => h) (Or.inl ⟨by rfl, ?_⟩) hHeld ?_
        rotate_left
        · (intro w' hSw; (try dsimp only at hSw); go_simp; (try with_reducible rfl))
        simp only [Act.put, List.setIfInBounds_toArray, List.set_cons_zero, List.set_cons_succ, List.getElem_toArray, List.getElem_cons_zero, List.getElem_cons_succ]
        refine wpAnyG_take1 (i := 22) (v := ?_) rfl (by kernel_rfl) (by kernel_rfl) (by kernel_rfl) (by kernel_rfl) (by kernel_rfl) rfl (fun _ _ _ h => h) (Or.inl ⟨by rfl, ?_⟩) hHeld ?_
        rotate_left
        · (intro w' hSw; (try dsimp only at hSw); go_simp; (try with_reducible rfl))
        simp only [Act.put, List.setIfInBounds_toArray, List.set_cons_zero, List.set_cons_succ, List.getElem_toArray, List.getElem_cons_zero, List.getElem_cons_succ]
        refine wpAnyG_take1 (i := 23) (v := ?_) rfl (by kernel_rfl) (by kernel_rfl) (by kernel_rfl) (by kernel_rfl) (by kernel_rfl) rfl (fun _ _ _ h => h) (Or.inl ⟨by rfl, ?_⟩) hHeld ?_
        rotate_left
        · (intro w' hSw; (try dsimp only at hSw); go_simp; (try with_reducible rfl))
        simp only [Act.put, List.setIfInBounds_toArray, List.set_cons_zero, List.set_cons_succ, List.getElem_toArray, List.getElem_cons_zero, List.getElem_cons_succ]
        refine wpAnyG_take1 (i := 24) (v := ?_) rfl (by kernel_rfl) (by kernel_rfl) (by kernel_rfl) (by kernel_rfl) (by kernel_rfl) rfl (fun _ _ _ h => h) (Or.inl ⟨by rfl, ?_⟩) hHeld ?_
        rotate_left
        · (intro w' hSw; (try dsimp only at hSw); go_simp; (try with_reducible rfl))
        simp only [Act.put, List.setIfInBounds_toArray, List.set_cons_zero, List.set_cons_succ, List.getElem_toArray, List.getElem_cons_zero, List.getElem_cons_succ]
        refine wpAnyG_take1 (i := 25) (v := ?_) rfl (by kernel_rfl) (by kernel_rfl) (by kernel_rfl) (by kernel_rfl) (by kernel_rfl) rfl (fun _ _ _ h => h) (Or.inl ⟨by rfl, ?_⟩) hHeld ?_
        rotate_left
        · (intro w' hSw; (try dsimp only at hSw); go_simp; (try with_reducible rfl))
        simp only [Act.put, List.setIfInBounds_toArray, List.set_cons_zero, List.set_cons_succ, List.getElem_toArray, List.getElem_cons_zero, List.getElem_cons_succ]
        refine wpAnyG_take1 (i := 26) (v := ?_) rfl (by kernel_rfl) (by kernel_rfl) (by kernel_rfl) (by kernel_rfl) (by kernel_rfl) rfl (fun _ _ _ h => h) (Or.inl ⟨by rfl, ?_⟩) hHeld ?_
        rotate_left
        · (intro w' hSw; (try dsimp only at hSw); go_simp; (try with_reducible rfl))
        simp only [Act.put, List.setIfInBounds_toArray, List.set_cons_zero, List.set_cons_succ, List.getElem_toArray, List.getElem_cons_zero, List.getElem_cons_succ]
        refine wpAnyG_take1 (i := 27) (v := ?_) rfl (by kernel_rfl) (by kernel_rfl) (by kernel_rfl) (by kernel_rfl) (by kernel_rfl) rfl (fun _ _ _ h => h) (Or.inl ⟨by rfl, ?_⟩) hHeld ?_
        rotate_left
        · (intro w' hSw; (try dsimp only at hSw); go_simp; (try with_reducible rfl))
        simp only [Act.put, List.setIfInBounds_toArray, List.set_cons_zero, List.set_cons_succ, List.getElem_toArray, List.getElem_cons_zero, List.getElem_cons_succ]
        refine wpAnyG_take1 (i := 28) (v := ?_) rfl (by kernel_rfl) (by kernel_rfl) (by kernel_rfl) (by kernel_rfl) (by kernel_rfl) rfl (fun _ _ _ h => h) (Or.inl ⟨by rfl, ?_⟩) hHeld ?_
        rotate_left
        · (intro w' hSw; (try dsimp only at hSw); go_simp; (try with_reducible rfl))
        simp only [Act.put, List.setIfInBounds_toArray, List.set_cons_zero, List.set_cons_succ, List.getElem_toArray, List.getElem_cons_zero, List.getElem_cons_succ]
        refine wpAnyG_take1 (i := 29) (v := ?_) rfl (by kernel_rfl) (by kernel_rfl) (by kernel_rfl) (by kernel_rfl) (by kernel_rfl) rfl (fun _ _ _ h => h) (Or.inl ⟨by rfl, ?_⟩) hHeld ?_
        rotate_left
        · (intro w' hSw; (try dsimp only at hSw); go_simp; (try with_reducible rfl))
        simp only [Act.put, List.setIfInBounds_toArray, List.set_cons_zero, List.set_cons_succ, List.getElem_toArray, List.getElem_cons_zero, List.getElem_cons_succ]
        refine wpAnyG_take1 (i := 30) (v := ?_) rfl (by kernel_rfl) (by kernel_rfl) (by kernel_rfl) (by kernel_rfl) (by kernel_rfl) rfl (fun _ _ _ h => h) (Or.inl ⟨by rfl, ?_⟩) hHeld ?_
        rotate_left
        · (intro w' hSw; (try dsimp only at hSw); go_simp; (try with_reducible rfl))
        simp only [Act.put, List.setIfInBounds_toArray, List.set_cons_zero, List.set_cons_succ, List.getElem_toArray, List.getElem_cons_zero, List.getElem_cons_succ]
        refine wpAnyG_take1 (i := 31) (v := ?_) rfl (by kernel_rfl) (by kernel_rfl) (by kernel_rfl) (by kernel_rfl) (by kernel_rfl) rfl (fun _ _ _ h => h) (Or.inl ⟨by rfl, ?_⟩) hHeld ?_
        rotate_left
        · (intro w' hSw; (try dsimp only at hSw); go_simp; (try with_reducible rfl))
        simp only [Act.put, List.setIfInBounds_toArray, List.set_cons_zero, List.set_cons_succ, List.getElem_toArray, List.getElem_cons_zero, List.getElem_cons_succ]
        refine wpAnyG_take1 (i := 32) (v := ?_) rfl (by kernel_rfl) (by kernel_rfl) (by kernel_rfl) (by kernel_rfl) (by kernel_rfl) rfl (fun _ _ _ h => h) (Or.inl ⟨by rfl, ?_⟩) hHeld ?_
        rotate_left
        · (intro w' hSw; (try dsimp only at hSw); go_simp; (try with_reducible rfl))
        simp only [Act.put, List.setIfInBounds_toArray, List.set_cons_zero, List.set_cons_succ, List.getElem_toArray, List.getElem_cons_zero, List.getElem_cons_succ]
        refine wpAnyG_take1 (i := 33) (v := ?_) rfl (by kernel_rfl) (by kernel_rfl) (by kernel_rfl) (by kernel_rfl) (by kernel_rfl) rfl (fun _ _ _ h => h) (Or.inl ⟨by rfl, ?_⟩) hHeld ?_
        rotate_left
        · (intro w' hSw; (try dsimp only at hSw); go_simp; (try with_reducible rfl))
        simp only [Act.put, List.setIfInBounds_toArray, List.set_cons_zero, List.set_cons_succ, List.getElem_toArray, List.getElem_cons_zero, List.getElem_cons_succ]
        refine wpAnyG_take1 (i := 34) (v := ?_) rfl (by kernel_rfl) (by kernel_rfl) (by kernel_rfl) (by kernel_rfl) (by kernel_rfl) rfl (fun _ _ _ h => h) (Or.inl ⟨by rfl, ?_⟩) hHeld ?_
        rotate_left
        · (intro w' hSw; (try dsimp only at hSw); go_simp; (try with_reducible rfl))
        simp only [Act.put, List.setIfInBounds_toArray, List.set_cons_zero, List.set_cons_succ, List.getElem_toArray, List.getElem_cons_zero, List.getElem_cons_succ]
        refine wpAnyG_take1 (i := 35) (v := ?_) rfl (by kernel_rfl) (by kernel_rfl) (by kernel_rfl) (by kernel_rfl) (by kernel_rfl) rfl (fun _ _ _ h => h) (Or.inl ⟨by rfl, ?_⟩) hHeld ?_
        rotate_left
        · (intro w' hSw; (try dsimp only at hSw); go_simp; (try with_reducible rfl))
        simp only [Act.put, List.setIfInBounds_toArray, List.set_cons_zero, List.set_cons_succ, List.getElem_toArray, List.getElem_cons_zero, List.getElem_cons_succ]
        refine wpAnyG_take1 (i := 36) (v := ?_) rfl (by kernel_rfl) (by kernel_rfl) (by kernel_rfl) (by kernel_rfl) (by kernel_rfl) rfl (fun _ _ _ h => h) (Or.inl ⟨by rfl, ?_⟩) hHeld ?_
        rotate_left
        · (intro w' hSw; (try dsimp only at hSw); go_simp; (try with_reducible rfl))
        simp only [Act.put, List.setIfInBounds_toArray, List.set_cons_zero, List.set_cons_succ, List.getElem_toArray, List.getElem_cons_zero, List.getElem_cons_succ]
        refine wpAnyG_take1 (i := 37) (v := ?_) rfl (by kernel_rfl) (by kernel_rfl) (by kernel_rfl) (by kernel_rfl) (by kernel_rfl) rfl (fun _ _ _ h => h) (Or.inl ⟨by rfl, ?_⟩) hHeld ?_
        rotate_left
        · (intro w' hSw; (try dsimp only at hSw); go_simp; (try with_reducible rfl))
        simp only [Act.put, List.setIfInBounds_toArray, List.set_cons_zero, List.set_cons_succ, List.getElem_toArray, List.getElem_cons_zero, List.getElem_cons_succ]
        refine wpAnyG_take1 (i := 38) (v := ?_) rfl (by kernel_rfl) (by kernel_rfl) (by kernel_rfl) (by kernel_rfl) (by kernel_rfl) rfl (fun _ _ _ h => h) (Or.inl ⟨by rfl, ?_⟩) hHeld ?_
        rotate_left
        · (intro w' hSw; (try dsimp only at hSw); go_simp; (try with_reducible rfl))
        simp only [Act.put, List.setIfInBounds_toArray, List.set_cons_zero, List.set_cons_succ, List.getElem_toArray, List.getElem_cons_zero, List.getElem_cons_succ]
        refine wpAnyG_take1 (i := 39) (v := ?_) rfl (by kernel_rfl) (by kernel_rfl) (by kernel_rfl) (by kernel_rfl) (by kernel_rfl) rfl (fun _ _ _ h => h) (Or.inl ⟨by rfl, ?_⟩) hHeld ?_
        rotate_left
        · (intro w' hSw; (try dsimp only at hSw); go_simp; (try with_reducible rfl))
        simp only [Act.put, List.setIfInBounds_toArray, List.set_cons_zero, List.set_cons_succ, List.getElem_toArray, List.getElem_cons_zero, List.getElem_cons_succ]
        refine wpAnyG_take1 (i := 40) (v := ?_) rfl (by kernel_rfl) (by kernel_rfl) (by kernel_rfl) (by kernel_rfl) (by kernel_rfl) rfl (fun _ _ _ h => h) (Or.inl ⟨by rfl, ?_⟩) hHeld ?_
        rotate_left
        · (intro w' hSw; (try dsimp only at hSw); go_simp; (try with_reducible rfl))
        simp only [Act.put, List.setIfInBounds_toArray, List.set_cons_zero, List.set_cons_succ, List.getElem_toArray, List.getElem_cons_zero, List.getElem_cons_succ]
        refine wpAnyG_take1 (i := 41) (v := ?_) rfl (by kernel_rfl) (by kernel_rfl) (by kernel_rfl) (by kernel_rfl) (by kernel_rfl) rfl (fun _ _ _ h => h) (Or.inl ⟨by rfl, ?_⟩) hHeld ?_
        rotate_left
        · (intro w' hSw; (try dsimp only at hSw); go_simp; (try with_reducible rfl))
        simp only [Act.put, List.setIfInBounds_toArray, List.set_cons_zero, List.set_cons_succ, List.getElem_toArray, List.getElem_cons_zero, List.getElem_cons_succ]
        refine wpAnyG_take1 (i := 42) (v := ?_) rfl (by kernel_rfl) (by kernel_rfl) (by kernel_rfl) (by kernel_rfl) (by kernel_rfl) rfl (fun _ _ _ h => h) (Or.inl ⟨by rfl, ?_⟩) hHeld ?_
        rotate_left
        · (intro w' hSw; (try dsimp only at hSw); go_simp; (try with_reducible rfl))
        simp only [Act.put, List.setIfInBounds_toArray, List.set_cons_zero, List.set_cons_succ, List.getElem_toArray, List.getElem_cons_zero, List.getElem_cons_succ]
        refine wpAnyG_take1 (i := 43) (v := ?_) rfl (by kernel_rfl) (by kernel_rfl) (by kernel_rfl) (by kernel_rfl) (by kernel_rfl) rfl (fun _ _ _ h => h) (Or.inl ⟨by rfl, ?_⟩) hHeld ?_
        rotate_left
        · (intro w' hSw; (try dsimp only at hSw); go_simp; (try with_reducible rfl))
        simp only [Act.put, List.setIfInBounds_toArray, List.set_cons_zero, List.set_cons_succ, List.getElem_toArray, List.getElem_cons_zero, List.getElem_cons_succ]
        refine wpAnyG_take1 (i := 44) (v := ?_) rfl (by kernel_rfl) (by kernel_rfl) (by kernel_rfl) (by kernel_rfl) (by kernel_rfl) rfl (fun _ _ _ h => h) (Or.inl ⟨by rfl, ?_⟩) hHeld ?_
        rotate_left
        · (intro w' hSw; (try dsimp only at hSw); go_simp; (try with_reducible rfl))
        simp only [Act.put, List.setIfInBounds_toArray, List.set_cons_zero, List.set_cons_succ, List.getElem_toArray, List.getElem_cons_zero, List.getElem_cons_succ]
        refine wpAnyG_take1 (i := 45) (v := ?_) rfl (by kernel_rfl) (by kernel_rfl) (by kernel_rfl) (by kernel_rfl) (by kernel_rfl) rfl (fun _ _ _ h => h) (Or.inl ⟨by rfl, ?_⟩) hHeld ?_
        rotate_left
        · (intro w' hSw; (try dsimp only at hSw); go_simp; (try with_reducible rfl))
        simp only [Act.put, List.setIfInBounds_toArray, List.set_cons_zero, List.set_cons_succ, List.getElem_toArray, List.getElem_cons_zero, List.getElem_cons_succ]
        refine wpAnyG_take1 (i := 46) (v := ?_) rfl (by kernel_rfl) (by kernel_rfl) (by kernel_rfl) (by kernel_rfl) (by kernel_rfl) rfl (fun _ _ _ h => h) (Or.inl ⟨by rfl, ?_⟩) hHeld ?_
        rotate_left
        · (intro w' hSw; (try dsimp only at hSw); go_simp; (try with_reducible rfl))
        simp only [Act.put, List.setIfInBounds_toArray, List.set_cons_zero, List.set_cons_succ, List.getElem_toArray, List.getElem_cons_zero, List.getElem_cons_succ]
        refine wpAnyG_take1 (i := 47) (v := ?_) rfl (by kernel_rfl) (by kernel_rfl) (by kernel_rfl) (by kernel_rfl) (by kernel_rfl) rfl (fun _ _ _ h => h) (Or.inl ⟨by rfl, ?_⟩) hHeld ?_
        rotate_left
        · (intro w' hSw; (try dsimp only at hSw); go_simp; (try with_reducible rfl))
        simp only [Act.put, List.setIfInBounds_toArray, List.set_cons_zero, List.set_cons_succ, List.getElem_toArray, List.getElem_cons_zero, List.getElem_cons_succ]
        refine wpAnyG_take1 (i := 48) (v := ?_) rfl (by kernel_rfl) (by kernel_rfl) (by kernel_rfl) (by kernel_rfl) (by kernel_rfl) rfl (fun _ _ _ h => h) (Or.inl ⟨by rfl, ?_⟩) hHeld ?_
        rotate_left
        · (intro w' hSw; (try dsimp only at hSw); go_simp; (try with_reducible rfl))
        simp only [Act.put, List.setIfInBounds_toArray, List.set_cons_zero, List.set_cons_succ, List.getElem_toArray, List.getElem_cons_zero, List.getElem_cons_succ]
        refine wpAnyG_take1 (i := 49) (v := ?_) rfl (by kernel_rfl) (by kernel_rfl) (by kernel_rfl) (by kernel_rfl) (by kernel_rfl) rfl (fun _ _ _ h => h) (Or.inl ⟨by rfl, ?_⟩) hHeld ?_
        rotate_left
        · (intro w' hSw; (try dsimp only at hSw); go_simp; (try with_reducible rfl))
        simp only [Act.put, List.setIfInBounds_toArray, List.set_cons_zero, List.set_cons_succ, List.getElem_toArray, List.getElem_cons_zero, List.getElem_cons_succ]
        refine wpAnyG_take1 (i := 50) (v := ?_) rfl (by kernel_rfl) (by kernel_rfl) (by kernel_rfl) (by kernel_rfl) (by kernel_rfl) rfl (fun _ _ _ h => h) (Or.inl ⟨by rfl, ?_⟩) hHeld ?_
        rotate_left
        · (intro w' hSw; (try dsimp only at hSw); go_simp; (try with_reducible rfl))
        simp only [Act.put, List.setIfInBounds_toArray, List.set_cons_zero, List.set_cons_succ, List.getElem_toArray, List.getElem_cons_zero, List.getElem_cons_succ]
        refine wpAnyG_take1 (i := 51) (v := ?_) rfl (by kernel_rfl) (by kernel_rfl) (by kernel_rfl) (by kernel_rfl) (by kernel_rfl) rfl (fun _ _ _ h => h) (Or.inl ⟨by rfl, ?_⟩) hHeld ?_
        rotate_left
        · (intro w' hSw; (try dsimp only at hSw); go_simp; (try with_reducible rfl))
        simp only [Act.put, List.setIfInBounds_toArray, List.set_cons_zero, List.set_cons_succ, List.getElem_toArray, List.getElem_cons_zero, List.getElem_cons_succ]
        refine wpAnyG_one (i := 52) (by kernel_rfl) rfl (fun K hK => ?_)
        go_simp
        go_at_call 7
        refine (three9_any _).mono ?_
        rintro e wH ⟨rfl, hb⟩
        have hcur := hcur.trans (hb.mono hcur.size)
        refine hK.out _ _ (fun _ => keepX _ hcur) (fun hHeld => ?_)
        have hHeld := hHeld (by decide)
        clear hK K
        try simp only [Act.put, List.setIfInBounds_toArray, List.set_cons_zero, List.set_cons_succ]
        refine wpAnyG_take1 (i := 53) (v := ?_) rfl (by kernel_rfl) (by kernel_rfl) (by kernel_rfl) (by kernel_rfl) (by kernel_rfl) rfl (fun _ _ _ h => h) (Or.inl ⟨by rfl, ?_⟩) hHeld ?_
        rotate_left
        · (intro w' hSw; (try dsimp only at hSw); go_simp; (try with_reducible rfl))
        simp only [Act.put, List.setIfInBounds_toArray, List.set_cons_zero, List.set_cons_succ, List.getElem_toArray, List.getElem_cons_zero, List.getElem_cons_succ]
        refine wpAnyG_take1 (i := 54) (v := ?_) rfl (by kernel_rfl) (by kernel_rfl) (by kernel_rfl) (by kernel_rfl) (by kernel_rfl) rfl (fun _ _ _ h => h) (Or.inl ⟨by rfl, ?_⟩) hHeld ?_
        rotate_left
        · (intro w' hSw; (try dsimp only at hSw); go_simp; (try with_reducible rfl))
        simp only [Act.put, List.setIfInBounds_toArray, List.set_cons_zero, List.set_cons_succ, List.getElem_toArray, List.getElem_cons_zero, List.getElem_cons_succ]
        refine wpAnyG_one (i := 55) (by kernel_rfl) rfl (fun K hK => ?_)
        go_simp
        refine hK.out _ _ (fun h => absurd rfl h) (fun _ => ?_)
        clear hK K
        refine wpAnyG_done (by kernel_rfl) ?_ _
        have B := Lib.hid (B.out.trans (hcur.mono B.out.size))
        clear keepX hkX hcur
        go_wp2
        go_ret
        exact ⟨rfl, B.out⟩

end Go.Proofs.Ytncnppffllfbeaa
