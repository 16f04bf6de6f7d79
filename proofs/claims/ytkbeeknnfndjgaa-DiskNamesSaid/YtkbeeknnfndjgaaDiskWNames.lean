/- Layer 5, DiskNames: the walk: the limits' and errors' numbers, and the examples. -/
import Derived.Test.YtkbeeknnfndjgaaDiskA4
import Derived.Deep.RegionHeld3
import Derived.Deep.Cut
import Derived.Deep.CutRange
namespace Go.Proofs.Ytkbeeknnfndjgaa
open Go.RowKit
set_option linter.unusedVariables false

theorem of_ptr (z : Int) (w : World) :
    Calls Try.prog 17 #[.int .u8 z] w fun e w' => ∃ g, e = .returned (.slice (some ⟨g, 0, none⟩) 32 32) ∧ w'.ownsRow w.heap.size 5 1 (.slice (some ⟨g, 0, none⟩) 32 32) 32 (ints .u8 (List.replicate 32 z)) ∧ Below w.heap.size w w' := by
  refine (of_any z w).mono ?_
  rintro e w' ⟨A, rfl, hown, hb⟩
  obtain ⟨g, cap, h⟩ := ownsRow_some hown
  injection h with h1 h2 h3
  subst h1
  exact ⟨g, rfl, hown, hb⟩
theorem Arg.behind {w : World} {k : IntKind} {g o n c : Nat} {zs : List Int} (h : Arg w k (some ⟨g, o, none⟩) (n + 1) (c + 1) zs) : Arg w k (some ⟨g, o + 1, none⟩) n c (zs.drop 1) := by
  refine ⟨?_, by rw [List.length_drop, h.len]; rfl, Nat.le_of_succ_le_succ h.cap, Nat.le_trans (Nat.le_succ _) h.max⟩
  have := h.seq.drop 1
  unfold ints at this ⊢
  rwa [← List.map_drop] at this
def fullC (k : Nat) : List Pnd := twoC ++ List.replicate k (0, List.replicate 32 122)
theorem full_len (k : Nat) : (fullC k).length = k + 2 := by simp [fullC, twoC]
theorem full_more (k : Nat) : fullC k ++ [(0, List.replicate 32 122)] = fullC (k + 1) := by
  unfold fullC
  generalize ((0, List.replicate 32 122) : Pnd) = p
  rw [List.replicate_succ', List.append_assoc]
theorem full_may {k : Nat} (hk : k ≤ 62) : mayD twoS (fullC k) = true := by
  rw [mayD_iff]
  refine ⟨⟨by decide, by decide, by rw [full_len]; omega⟩, fun s hs => ?_, fun p hp => ?_⟩
  · have h := (((mayD_iff twoS twoC).1 (by kernel_rfl)).2.1) s hs
    exact h
  · rcases List.mem_append.1 hp with h | h
    · exact (((mayD_iff twoS twoC).1 (by kernel_rfl)).2.2) p h
    · rw [List.eq_of_mem_replicate h]
      decide
theorem full_small {k : Nat} (hk : k ≤ 62) : SmallD twoS (fullC k) := by
  have hm := (mayD_iff _ _).1 (full_may hk)
  exact ⟨by decide, by rw [full_len]; omega, fun s hs => by rw [(hm.2.1 s hs).1]; decide, fun p hp => by rw [(hm.2.2 p hp).2.2]; decide⟩
theorem full_ask {k : Nat} (hk : k ≤ 62) : askE twoS (fullC k) 0 = 0 := by
  unfold askE
  rw [if_pos (full_may hk)]
  decide
theorem full_wrE {k : Nat} (hk : k < 62) : wrE twoS (fullC k) 0 (List.replicate 32 122) = 0 := by
  unfold wrE
  rw [if_pos (full_ask (by omega)), if_pos (by decide), if_neg (by rw [full_len]; omega)]
theorem full_wrS {k : Nat} (hk : k < 62) : wrS twoS (fullC k) 0 (List.replicate 32 122) = twoS := if_pos (full_wrE hk)
theorem full_wrC {k : Nat} (hk : k < 62) : wrC twoS (fullC k) 0 (List.replicate 32 122) = fullC (k + 1) := (if_pos (full_wrE hk)).trans (full_more k)
theorem lit_two8 (w : World) (x y : Int) : Arg (w.alloc (.cells #[.int .u8 x, .int .u8 y] 5)) .u8 (some ⟨w.heap.size, 0, none⟩) 2 2 [x, y] := lit_text w _ _ [x, y] 2 rfl rfl (by decide)

theorem one_bad {w : World} {base g : Nat} (hown : w.ownsRow base 5 1 (.slice (some ⟨g, 0, none⟩) 32 32) 32 (ints .u8 (List.replicate 32 122))) :
    Dsk (w.alloc (.cells #[.slice (some ⟨g, 0, none⟩) 32 32, .bool true] 39)) (some ⟨w.heap.size, 0, none⟩) 1 1 none 0 0 [(true, List.replicate 32 122)] [] := by
  have b := Blk.new w 39 [.slice (some ⟨g, 0, none⟩) 32 32, .bool true]
  refine ⟨⟨rfl, Nat.le_refl _, by decide, fun s hs z hz => ?_, fun i hi => ?_⟩, Pnds.nil _⟩
  · rw [List.mem_singleton] at hs
    subst hs
    exact full_byte (by decide) (by decide) z hz
  · obtain rfl : i = 0 := by omega
    exact ⟨w.heap.size, 0, _, 32, 32, rfl, b.lt, b.cell 0, b.cell 1, (Arg.own hown).below ((Below.refl _ _).alloc (Nat.le_refl _) _)⟩

set_option maxRecDepth 100000 in
set_option maxHeartbeats 12800000 in
theorem names_of (P : DskDoes) (w : World) : Calls Try.prog 3 #[] w fun e w' => e = .returned (.bool true) ∧ Below w.heap.size w w' := by
  have PP := Lib.hid P
  clear P
  go_enter Try.func3, Try.ntmps3
  go_wp2_with fail
  refine (PP.out.new 0 _ (.inl (by decide))).mono ?_
  intro e w1 hout
  obtain ⟨A1, c1, A1', c1', rfl, hown, hb⟩ := hout.is (S' := []) (C' := []) (E' := 2) (n := 0) (n' := 0) (by kernel_rfl) rfl (by kernel_rfl) rfl rfl
  have B := Lib.hid (hb.alloc hb.size (.cells #[.slice A1 0 c1, .slice A1' 0 c1'] 25))
  clear hout hown hb
  go_wp2_with fail
  obtain ⟨v1, hW⟩ : ∃ x : World, x = w1.alloc (.cells #[.slice A1 0 c1, .slice A1' 0 c1'] 25) := ⟨_, rfl⟩
  rw [← hW] at B ⊢
  clear hW
  refine (PP.out.new 1025 v1 (.inr (by decide))).mono ?_
  intro e w2 hout
  obtain ⟨A2, c2, A2', c2', rfl, hown, hb⟩ := hout.is (S' := []) (C' := []) (E' := 2) (n := 0) (n' := 0) (by kernel_rfl) rfl (by kernel_rfl) rfl rfl
  have hb2 := hb.alloc hb.size (.cells #[.slice A2 0 c2, .slice A2' 0 c2'] 25)
  have B := Lib.hid (B.out.trans (hb2.mono B.out.size))
  clear hout hown hb hb2
  go_wp2_with fail
  obtain ⟨v2, hW⟩ : ∃ x : World, x = w2.alloc (.cells #[.slice A2 0 c2, .slice A2' 0 c2'] 25) := ⟨_, rfl⟩
  rw [← hW] at B ⊢
  clear hW
  refine (two_of PP.out v2).mono ?_
  rintro e w3 ⟨A3, c3, A3', c3', rfl, hown, hb⟩
  have hb2 := hb.alloc hb.size (.cells #[.slice A3 2 c3, .slice A3' 2 c3'] 25)
  have X := DBox.new (Dsk.of_own hown)
  have OD := (hown.below ((Below.refl _ _).alloc (Nat.le_refl _) (.cells #[.slice A3 2 c3, .slice A3' 2 c3'] 25))).lower B.out.size
  have hB5 : w.heap.size ≤ w3.heap.size := Nat.le_trans B.out.size hb.size
  have B := Lib.hid (B.out.trans (hb2.mono B.out.size))
  obtain ⟨b5, hB⟩ : ∃ x, x = w3.heap.size := ⟨_, rfl⟩
  rw [← hB] at X hB5
  obtain ⟨c0, c01⟩ := X.cells
  clear hown hb hb2
  go_wp2_with fail
  rw [← hB]
  obtain ⟨v3, hW⟩ : ∃ x : World, x = w3.alloc (.cells #[.slice A3 2 c3, .slice A3' 2 c3'] 25) := ⟨_, rfl⟩
  rw [← hW] at X OD B c0 c01 ⊢
  clear hW hB
  have X := Lib.hid X
  have OD := Lib.hid OD
  have hrd : rdE twoS twoC 2 = 2 ∧ rdB twoS twoC 2 = [] := ⟨by kernel_rfl, by kernel_rfl⟩
  have hsm : SmallD twoS twoC := few_small (by kernel_rfl)
  have SM := Lib.hid hsm
  have m := PP.out.read A3 2 c3 A3' 2 c3' twoS twoC 2 v3 X.out.dsk hsm
  rw [hrd.1, hrd.2] at m
  refine m.mono ?_
  rintro e w4 ⟨A4, c4, rfl, hown, hb⟩
  have X := Lib.hid (X.out.below hb)
  have OD := Lib.hid (OD.out.below hb)
  have B := Lib.hid (B.out.trans (hb.mono B.out.size))
  clear hown hb hsm hrd m c0 c01
  go_upto_region 5 with fail
  have hS : Below w4.heap.size w4 w4 := Below.refl _ _
  go_cut [9, 10] from 38 to 44 (fun x e wx => e = .int .i64 2 ∧ Below w4.heap.size w4 wx)
  case first =>
    have hcur : Below w4.heap.size w4 w4.drew := below_drewN (Below.refl _ _) 1
    have keepX : ∀ wx, Below w4.heap.size w4 wx → wx.cell? ⟨b5, 0, none⟩ = some (.slice A3 2 c3) ∧ wx.cell? ⟨b5, 1, none⟩ = some (.slice A3' 2 c3') := fun wx hx => (X.out.below hx).cells
    have hkX := keepX _ hcur
    go_region_held3 (fun w' => w'.cell? ⟨b5, 0, none⟩ = some (.slice A3 2 c3) ∧ w'.cell? ⟨b5, 1, none⟩ = some (.slice A3' 2 c3'))
      (first | exact hkX | exact keepX _ (below_drewN ((Below.refl _ _).alloc (Nat.le_refl _) _) 1) | exact keepX _ ((hcur.setCell (p := ⟨_, 0, none⟩) hL _).setCell (p := ⟨_, 1, none⟩) hL _) | go_keep)
      (first
        | (go_at_call 17; with_reducible refine (of_ptr 122 w4.drew).mono ?_; rintro e wO ⟨gO, rfl, hownO, hbO⟩; have hcur := hcur.trans (hbO.mono hcur.size); have hkX := keepX _ hcur)
        | (go_at_call 17; have hL := Nat.le_refl w4.heap.size; have hcur : Below w4.heap.size w4 (w4.alloc (.cells #[.slice none 0 0, .slice none 0 0] 25)).drew := below_drewN ((Below.refl _ _).alloc (Nat.le_refl _) _) 1; have hZ0 := Blk.new w4 25 [.slice none 0 0, .slice none 0 0]; have hZ := hZ0.below (below_drewN (Below.refl _ _) 1) hZ0.lt; with_reducible refine (of_ptr 122 _).mono ?_; rintro e wO ⟨gO, rfl, hownO, hbO⟩; have hZ := hZ.below hbO hZ.lt; have hcur := hcur.trans (hbO.mono hcur.size); have hkX := keepX _ hcur)
        | (go_at_call 16; have hM := hcur.size; with_reducible refine (PP.out.write A3 2 c3 A3' 2 c3' twoS twoC 0 (some ⟨gO, 0 + 1, none⟩) 31 31 ((List.replicate 32 122).drop 1) _ (X.out.below hcur).dsk SM.out (Arg.own hownO).behind (fun z hz => full_byte (by decide) (by decide) z (List.mem_of_mem_drop hz)) (by decide)).mono ?_; intro e w2 hout; obtain ⟨A9, c9, A9', c9', rfl, hown, hb⟩ := hout.is (S' := []) (C' := []) (E' := 2) (n := 0) (n' := 0) (by kernel_rfl) (by kernel_rfl) (by kernel_rfl) rfl rfl; have hcur := hcur.trans (hb.mono hcur.size); have hkX := keepX _ hcur; try (have hZ := hZ.below hb hZ.lt; have z0 := hZ.cell 0; have z1 := hZ.cell 1; have g0 := hZ.free 0; have g1 := hZ.free 1; simp only [List.getElem?_cons_zero, List.getElem?_cons_succ] at z0 z1))
        | (go_at_call 16; have hL := hcur.size; have hcur := hcur.alloc hcur.size (.cells #[.slice none 0 0, .slice none 0 0] 25); have hZ := Blk.new wO 25 [.slice none 0 0, .slice none 0 0]; have hownO := owns_below hownO ((Below.refl wO.heap.size wO).alloc (Nat.le_refl _) (.cells #[.slice none 0 0, .slice none 0 0] 25)); have hM := hcur.size; with_reducible refine (PP.out.write A3 2 c3 A3' 2 c3' twoS twoC 0 (some ⟨gO, 0 + 1, none⟩) 31 31 ((List.replicate 32 122).drop 1) _ (X.out.below hcur).dsk SM.out (Arg.own hownO).behind (fun z hz => full_byte (by decide) (by decide) z (List.mem_of_mem_drop hz)) (by decide)).mono ?_; intro e w2 hout; obtain ⟨A9, c9, A9', c9', rfl, hown, hb⟩ := hout.is (S' := []) (C' := []) (E' := 2) (n := 0) (n' := 0) (by kernel_rfl) (by kernel_rfl) (by kernel_rfl) rfl rfl; have hcur := hcur.trans (hb.mono hcur.size); have hkX := keepX _ hcur; have hZ := hZ.below hb hZ.lt; have z0 := hZ.cell 0; have z1 := hZ.cell 1; have g0 := hZ.free 0; have g1 := hZ.free 1; simp only [List.getElem?_cons_zero, List.getElem?_cons_succ] at z0 z1))
    all_goals (go_wp2_with fail; go_meet)
    all_goals first | exact ⟨rfl, hcur.alloc hcur.size _⟩ | exact ⟨rfl, ((hcur.setCell (p := ⟨_, 0, none⟩) hL _).setCell (p := ⟨_, 1, none⟩) hL _)⟩
  case rest =>
    obtain ⟨rfl, hb⟩ := hcut
    have X := Lib.hid (X.out.below hb)
    have OD := Lib.hid (OD.out.below hb)
    have B := Lib.hid (B.out.trans (hb.mono B.out.size))
    clear hb hS
    obtain ⟨c0, c01⟩ := X.out.cells
    go_wp2_with fail
    have m := PP.out.waits A3 2 c3 A3' 2 c3' twoS twoC 0 wc X.out.dsk SM.out
    rw [show waB twoS twoC 0 = false by kernel_rfl, show askE twoS twoC 0 = 0 by kernel_rfl] at m
    refine m.mono ?_
    rintro e w5 ⟨rfl, hb⟩
    have X := Lib.hid (X.out.below hb)
    have OD := Lib.hid (OD.out.below hb)
    have B := Lib.hid (B.out.trans (hb.mono B.out.size))
    clear hb m c0 c01
    obtain ⟨c0, c01⟩ := X.out.cells
    go_wp2_with fail
    have m := PP.out.waits A3 2 c3 A3' 2 c3' twoS twoC 1 w5 X.out.dsk SM.out
    rw [show waB twoS twoC 1 = true by kernel_rfl, show askE twoS twoC 1 = 0 by kernel_rfl] at m
    refine m.mono ?_
    rintro e w6 ⟨rfl, hb⟩
    have X := Lib.hid (X.out.below hb)
    have OD := Lib.hid (OD.out.below hb)
    have B := Lib.hid (B.out.trans (hb.mono B.out.size))
    clear hb m c0 c01
    obtain ⟨c0, c01⟩ := X.out.cells
    go_wp2
    clear c0 c01
    go_loopw [15, 16, 17] (fun k x e wr => ∃ (j : Nat) (A : Option Addr) (c : Nat) (A' : Option Addr) (c' : Nat), k = .int .i64 j ∧ j ≤ 62 ∧ Blk wr b5 25 [.slice A 2 c, .slice A' (j + 2) c'] ∧ OwnDsk wr w.heap.size A 2 c A' (j + 2) c' twoS (fullC j) ∧ Below w.heap.size w wr) (fun k _ _ _ => 62 - (intOf k).toNat)
    case atStart => exact ⟨0, A3, c3, A3', c3', rfl, by omega, X.out.blk, OD.out, B.out⟩
    case round =>
      obtain ⟨j, A, c, A', c', rfl, hj, hbk, hod, hbw⟩ := hrel
      clear B X OD
      by_cases hjl : j < 62
      · have hki : (j : Int) < 62 := by omega
        have X := Lib.hid (DBox.mk hbk (Dsk.of_own hod))
        have BK := Lib.hid hbk
        have B := Lib.hid hbw
        clear hbk hod hbw hj
        go_upto_region 11 with fail
        have hS : Below wr.heap.size wr wr := Below.refl _ _
        go_cut [16, 17] from 55 to 67 (fun x e wx => ∃ g A9 c9 A9' c9', x = .pointer (some ⟨g, 0, none⟩) ∧ e = .int .i64 0 ∧ Blk wx g 25 [.slice A9 2 c9, .slice A9' (j + 1 + 2) c9'] ∧ OwnDsk wx w.heap.size A9 2 c9 A9' (j + 1 + 2) c9' twoS (fullC (j + 1)) ∧ Below wr.heap.size wr wx)
        case first =>
          have hcur : Below wr.heap.size wr wr.drew := below_drewN (Below.refl _ _) 1
          have keepX : ∀ wx, Below wr.heap.size wr wx → wx.cell? ⟨b5, 0, none⟩ = some (.slice A 2 c) ∧ wx.cell? ⟨b5, 1, none⟩ = some (.slice A' (j + 2) c') := fun wx hx => (X.out.below hx).cells
          have hkX := keepX _ hcur
          go_region_held3 (fun w' => w'.cell? ⟨b5, 0, none⟩ = some (.slice A 2 c) ∧ w'.cell? ⟨b5, 1, none⟩ = some (.slice A' (j + 2) c'))
            (first | exact hkX | exact keepX _ (below_drewN ((Below.refl _ _).alloc (Nat.le_refl _) _) 1) | exact keepX _ ((hcur.setCell (p := ⟨_, 0, none⟩) hL _).setCell (p := ⟨_, 1, none⟩) hL _) | go_keep)
            (first
              | (go_at_call 17; with_reducible refine (of_ptr 122 wr.drew).mono ?_; rintro e wO ⟨gO, rfl, hownO, hbO⟩; have hcur := hcur.trans (hbO.mono hcur.size); have hkX := keepX _ hcur)
              | (go_at_call 17; have hL := Nat.le_refl wr.heap.size; have hcur : Below wr.heap.size wr (wr.alloc (.cells #[.slice none 0 0, .slice none 0 0] 25)).drew := below_drewN ((Below.refl _ _).alloc (Nat.le_refl _) _) 1; have hZ0 := Blk.new wr 25 [.slice none 0 0, .slice none 0 0]; have hZ := hZ0.below (below_drewN (Below.refl _ _) 1) hZ0.lt; with_reducible refine (of_ptr 122 _).mono ?_; rintro e wO ⟨gO, rfl, hownO, hbO⟩; have hZ := hZ.below hbO hZ.lt; have hcur := hcur.trans (hbO.mono hcur.size); have hkX := keepX _ hcur)
              | (go_at_call 16; have hM := hcur.size; with_reducible refine (PP.out.write A 2 c A' (j + 2) c' twoS (fullC j) 0 (some ⟨gO, 0, none⟩) 32 32 (List.replicate 32 122) _ (X.out.below hcur).dsk (full_small (by omega)) (Arg.own hownO) (full_byte (by decide) (by decide)) (by decide)).mono ?_; intro e w2 hout; obtain ⟨A9, c9, A9', c9', rfl, hown, hb⟩ := hout.is (S' := twoS) (C' := fullC (j + 1)) (E' := 0) (n := 2) (n' := j + 1 + 2) (full_wrS hjl) (full_wrC hjl) (full_wrE hjl) rfl (full_len _); have hcur := hcur.trans (hb.mono hcur.size); have hkX := keepX _ hcur; try (have hZ := hZ.below hb hZ.lt; have z0 := hZ.cell 0; have z1 := hZ.cell 1; have g0 := hZ.free 0; have g1 := hZ.free 1; simp only [List.getElem?_cons_zero, List.getElem?_cons_succ] at z0 z1))
              | (go_at_call 16; have hL := hcur.size; have hcur := hcur.alloc hcur.size (.cells #[.slice none 0 0, .slice none 0 0] 25); have hZ := Blk.new wO 25 [.slice none 0 0, .slice none 0 0]; have hownO := owns_below hownO ((Below.refl wO.heap.size wO).alloc (Nat.le_refl _) (.cells #[.slice none 0 0, .slice none 0 0] 25)); have hM := hcur.size; with_reducible refine (PP.out.write A 2 c A' (j + 2) c' twoS (fullC j) 0 (some ⟨gO, 0, none⟩) 32 32 (List.replicate 32 122) _ (X.out.below hcur).dsk (full_small (by omega)) (Arg.own hownO) (full_byte (by decide) (by decide)) (by decide)).mono ?_; intro e w2 hout; obtain ⟨A9, c9, A9', c9', rfl, hown, hb⟩ := hout.is (S' := twoS) (C' := fullC (j + 1)) (E' := 0) (n := 2) (n' := j + 1 + 2) (full_wrS hjl) (full_wrC hjl) (full_wrE hjl) rfl (full_len _); have hcur := hcur.trans (hb.mono hcur.size); have hkX := keepX _ hcur; have hZ := hZ.below hb hZ.lt; have z0 := hZ.cell 0; have z1 := hZ.cell 1; have g0 := hZ.free 0; have g1 := hZ.free 1; simp only [List.getElem?_cons_zero, List.getElem?_cons_succ] at z0 z1))
          all_goals (go_wp2_with fail; go_meet)
          all_goals first
            | exact ⟨_, A9, c9, A9', c9', rfl, rfl, Blk.new _ _ _, (hown.below ((Below.refl _ _).alloc (Nat.le_refl _) _)).lower (Nat.le_trans B.out.size hM), hcur.alloc hcur.size _⟩
            | exact ⟨_, A9, c9, A9', c9', rfl, rfl, hZ.two _ _, (hown.two hZ _ _).lower (Nat.le_trans B.out.size hM), ((hcur.setCell (p := ⟨_, 0, none⟩) hL _).setCell (p := ⟨_, 1, none⟩) hL _)⟩
        case rest =>
          obtain ⟨g, A9, c9, A9', c9', rfl, rfl, hg, ho, hb⟩ := hcut
          have bk := BK.out.below hb BK.out.lt
          have i0 := hg.cell 0
          have i1 := hg.cell 1
          have i2 := bk.free 0
          have i3 := bk.free 1
          have k0 := bk.cell 0
          have k1 := bk.cell 1
          simp only [List.getElem?_cons_zero, List.getElem?_cons_succ] at i0 i1 k0 k1
          have HB := Lib.hid hb
          have HG := Lib.hid hg
          have HO := Lib.hid ho
          have HK := Lib.hid bk
          clear hg ho hb bk hS X BK
          go_wp2
          go_roundw
          case rel => exact ⟨j + 1, A9, c9, A9', c9', by go_num, by omega, HK.out.two _ _, HO.out.two HK.out _ _, below_two (B.out.trans (HB.out.mono B.out.size)) hB5 _ _⟩
          all_goals (try case measure => simp [intOf]; omega)
      · have hki : ¬ (j : Int) < 62 := by omega
        obtain rfl : j = 62 := by omega
        have X := Lib.hid (DBox.mk hbk (Dsk.of_own hod))
        have B := Lib.hid hbw
        clear hbk hod hbw hj hjl
        go_upto_region 15 with fail
        have hS : Below wr.heap.size wr wr := Below.refl _ _
        go_cut [18, 19] from 68 to 73 (fun x e wx => e = .int .i64 9 ∧ Below wr.heap.size wr wx)
        case first =>
          have hcur : Below wr.heap.size wr wr.drew := below_drewN (Below.refl _ _) 1
          have keepX : ∀ wx, Below wr.heap.size wr wx → wx.cell? ⟨b5, 0, none⟩ = some (.slice A 2 c) ∧ wx.cell? ⟨b5, 1, none⟩ = some (.slice A' (62 + 2) c') := fun wx hx => (X.out.below hx).cells
          have hkX := keepX _ hcur
          go_region_held3 (fun w' => w'.cell? ⟨b5, 0, none⟩ = some (.slice A 2 c) ∧ w'.cell? ⟨b5, 1, none⟩ = some (.slice A' (62 + 2) c'))
            (first | exact hkX | exact keepX _ (below_drewN ((Below.refl _ _).alloc (Nat.le_refl _) _) 1) | exact keepX _ ((hcur.setCell (p := ⟨_, 0, none⟩) hL _).setCell (p := ⟨_, 1, none⟩) hL _) | go_keep)
            (first
              | (go_at_call 17; with_reducible refine (of_ptr 122 wr.drew).mono ?_; rintro e wO ⟨gO, rfl, hownO, hbO⟩; have hcur := hcur.trans (hbO.mono hcur.size); have hkX := keepX _ hcur)
              | (go_at_call 17; have hL := Nat.le_refl wr.heap.size; have hcur : Below wr.heap.size wr (wr.alloc (.cells #[.slice none 0 0, .slice none 0 0] 25)).drew := below_drewN ((Below.refl _ _).alloc (Nat.le_refl _) _) 1; have hZ0 := Blk.new wr 25 [.slice none 0 0, .slice none 0 0]; have hZ := hZ0.below (below_drewN (Below.refl _ _) 1) hZ0.lt; with_reducible refine (of_ptr 122 _).mono ?_; rintro e wO ⟨gO, rfl, hownO, hbO⟩; have hZ := hZ.below hbO hZ.lt; have hcur := hcur.trans (hbO.mono hcur.size); have hkX := keepX _ hcur)
              | (go_at_call 16; have hM := hcur.size; with_reducible refine (PP.out.write A 2 c A' (62 + 2) c' twoS (fullC 62) 0 (some ⟨gO, 0, none⟩) 32 32 (List.replicate 32 122) _ (X.out.below hcur).dsk (full_small (by omega)) (Arg.own hownO) (full_byte (by decide) (by decide)) (by decide)).mono ?_; intro e w2 hout; obtain ⟨A9, c9, A9', c9', rfl, hown, hb⟩ := hout.is (S' := []) (C' := []) (E' := 9) (n := 0) (n' := 0) (by kernel_rfl) (by kernel_rfl) (by kernel_rfl) rfl rfl; have hcur := hcur.trans (hb.mono hcur.size); have hkX := keepX _ hcur; try (have hZ := hZ.below hb hZ.lt; have z0 := hZ.cell 0; have z1 := hZ.cell 1; have g0 := hZ.free 0; have g1 := hZ.free 1; simp only [List.getElem?_cons_zero, List.getElem?_cons_succ] at z0 z1))
              | (go_at_call 16; have hL := hcur.size; have hcur := hcur.alloc hcur.size (.cells #[.slice none 0 0, .slice none 0 0] 25); have hZ := Blk.new wO 25 [.slice none 0 0, .slice none 0 0]; have hownO := owns_below hownO ((Below.refl wO.heap.size wO).alloc (Nat.le_refl _) (.cells #[.slice none 0 0, .slice none 0 0] 25)); have hM := hcur.size; with_reducible refine (PP.out.write A 2 c A' (62 + 2) c' twoS (fullC 62) 0 (some ⟨gO, 0, none⟩) 32 32 (List.replicate 32 122) _ (X.out.below hcur).dsk (full_small (by omega)) (Arg.own hownO) (full_byte (by decide) (by decide)) (by decide)).mono ?_; intro e w2 hout; obtain ⟨A9, c9, A9', c9', rfl, hown, hb⟩ := hout.is (S' := []) (C' := []) (E' := 9) (n := 0) (n' := 0) (by kernel_rfl) (by kernel_rfl) (by kernel_rfl) rfl rfl; have hcur := hcur.trans (hb.mono hcur.size); have hkX := keepX _ hcur; have hZ := hZ.below hb hZ.lt; have z0 := hZ.cell 0; have z1 := hZ.cell 1; have g0 := hZ.free 0; have g1 := hZ.free 1; simp only [List.getElem?_cons_zero, List.getElem?_cons_succ] at z0 z1))
          all_goals (go_wp2_with fail; go_meet)
          all_goals first | exact ⟨rfl, hcur.alloc hcur.size _⟩ | exact ⟨rfl, ((hcur.setCell (p := ⟨_, 0, none⟩) hL _).setCell (p := ⟨_, 1, none⟩) hL _)⟩
        case rest =>
          obtain ⟨rfl, hb⟩ := hcut
          have B := Lib.hid (B.out.trans (hb.mono B.out.size))
          clear hb hS X
          go_wp2_with fail
          refine (of_ptr 122 wc).mono ?_
          rintro e wO ⟨gO, rfl, hownO, hbO⟩
          have B := Lib.hid (B.out.trans (hbO.mono B.out.size))
          go_wp2_with fail
          have X := DBox.new (one_bad hownO)
          rw [World.size_alloc] at X
          have B := Lib.hid ((B.out.alloc B.out.size (.cells #[.slice (some ⟨gO, 0, none⟩) 32 32, .bool true] 39)).alloc (Nat.le_trans B.out.size (by rw [World.size_alloc]; omega)) (.cells #[.slice (some ⟨wO.heap.size, 0, none⟩) 1 1, .slice none 0 0] 25))
          obtain ⟨vA, hW⟩ : ∃ x : World, x = (wO.alloc (.cells #[.slice (some ⟨gO, 0, none⟩) 32 32, .bool true] 39)).alloc (.cells #[.slice (some ⟨wO.heap.size, 0, none⟩) 1 1, .slice none 0 0] 25) := ⟨_, rfl⟩
          rw [← hW] at X B ⊢
          clear hW hownO hbO
          have X := Lib.hid X
          refine (alive_of PP.out vA).mono ?_
          rintro e wa ⟨rfl, hb⟩
          have X := Lib.hid (X.out.below hb)
          have B := Lib.hid (B.out.trans (hb.mono B.out.size))
          clear hb
          go_wp2_with fail
          have lt := lit_two8 wa 2 1
          have hb0 : Below wa.heap.size wa (wa.alloc (.cells #[.int .u8 2, .int .u8 1] 5)) := (Below.refl _ _).alloc (Nat.le_refl _) _
          have X := Lib.hid (X.out.below hb0)
          have B := Lib.hid (B.out.trans (hb0.mono B.out.size))
          clear hb0
          refine (of_any 121 _).mono ?_
          rintro e wb ⟨AO, rfl, hownO, hb⟩
          have lt := Lib.hid (lt.below hb)
          have X := Lib.hid (X.out.below hb)
          have B := Lib.hid (B.out.trans (hb.mono B.out.size))
          have RO := Lib.hid (Arg.own hownO)
          clear hb hownO
          go_wp2_with fail
          refine (leaves_of PP.out (F := [2, 1]) (b := List.replicate 32 121) (few_bytes _ (by decide)) (by decide) (.inl ⟨by kernel_rfl, by kernel_rfl⟩) _ _ _ _ _ _ wb lt.out RO.out).mono ?_
          rintro e wd ⟨rfl, hb⟩
          have X := Lib.hid (X.out.below hb)
          have B := Lib.hid (B.out.trans (hb.mono B.out.size))
          clear hb lt RO
          go_wp2_with fail
          have lt := lit_two8 wd 4 3
          have hb0 : Below wd.heap.size wd (wd.alloc (.cells #[.int .u8 4, .int .u8 3] 5)) := (Below.refl _ _).alloc (Nat.le_refl _) _
          have X := Lib.hid (X.out.below hb0)
          have B := Lib.hid (B.out.trans (hb0.mono B.out.size))
          clear hb0
          refine (of_any 120 _).mono ?_
          rintro e we ⟨AO, rfl, hownO, hb⟩
          have lt := Lib.hid (lt.below hb)
          have X := Lib.hid (X.out.below hb)
          have B := Lib.hid (B.out.trans (hb.mono B.out.size))
          have RO := Lib.hid (Arg.own hownO)
          clear hb hownO
          go_wp2_with fail
          refine (leaves_of PP.out (F := [4, 3]) (b := List.replicate 32 120) (few_bytes _ (by decide)) (by decide) (.inl ⟨by kernel_rfl, by kernel_rfl⟩) _ _ _ _ _ _ we lt.out RO.out).mono ?_
          rintro e wf ⟨rfl, hb⟩
          have X := Lib.hid (X.out.below hb)
          have B := Lib.hid (B.out.trans (hb.mono B.out.size))
          clear hb lt RO
          obtain ⟨c0, c01⟩ := X.out.cells
          go_wp2_with fail
          have m := PP.out.check _ 1 1 none 0 0 _ _ wf X.out.dsk (few_small (by kernel_rfl))
          rw [show chkD [(true, List.replicate 32 122)] [] = 8 by kernel_rfl] at m
          refine m.mono ?_
          rintro e wg ⟨rfl, hb⟩
          have B := Lib.hid (B.out.trans (hb.mono B.out.size))
          clear hb m c0 c01
          go_wp2_with fail
          have m := PP.out.check none 0 0 none 0 0 [] [] wg ⟨Secs.nil _, Pnds.nil _⟩ (few_small (by kernel_rfl))
          rw [show chkD [] [] = 8 by kernel_rfl] at m
          refine m.mono ?_
          rintro e wh ⟨rfl, hb⟩
          have B := Lib.hid (B.out.trans (hb.mono B.out.size))
          clear hb m
          go_wp2
          go_ret
          exact ⟨rfl, B.out⟩

end Go.Proofs.Ytkbeeknnfndjgaa
