/- Layer 8: the law's own config, bytes, disk of noughts, and the chapter's examples. -/
import Derived.Test.YtnmlplfcdnakhaaTrkW
import Derived.Test.YtnmlplfcdnakhaaCellAp0
import Derived.KernelRfl
import Derived.Deep.RegionHeld3
import Derived.Deep.RegionWith
import Derived.Deep.Cut
import Derived.Deep.CutBlock
import Derived.Deep.CutRange
import Derived.Test.YtnmlplfcdnakhaaHeldOne
namespace Go.Proofs.Ytnmlplfcdnakhaa
open Go.RowKit
set_option linter.unusedVariables false

theorem two8_any (w : World) : Calls Try.prog 61 #[] w fun e w' => e = .returned (cfgV 2 9 4 2 2 8) ∧ Below w.heap.size w w' := by
  have y := Blk.new w 74 [.int .i64 2, .int .i64 9, .int .i64 4, .int .i64 2, .int .i64 2, .int .i64 8]
  obtain ⟨z0, z1, z2, z3, z4, z5⟩ := y.cfg
  have hb : Below w.heap.size w (w.alloc (.cells #[.int .i64 2, .int .i64 9, .int .i64 4, .int .i64 2, .int .i64 2, .int .i64 8] 74)) := (Below.refl _ _).alloc (Nat.le_refl _) _
  have HB := Lib.hid hb
  clear y hb
  go_enter Try.func61, Try.ntmps61
  go_wp2
  refine bodyPost_ret (v := cfgV 2 9 4 2 2 8) ?_ rfl ⟨rfl, HB.out⟩
  simp [results, Try.f61, go_sem, z0, z1, z2, z3, z4, z5]

set_option maxRecDepth 100000 in
set_option maxHeartbeats 12800000 in
theorem of28_any (z : Int) (w : World) :
    Calls Try.prog 63 #[.int .u8 z] w fun e w' => ∃ g, e = .returned (.slice (some ⟨g, 0, none⟩) 28 28) ∧ w'.ownsRow w.heap.size 5 1 (.slice (some ⟨g, 0, none⟩) 28 28) 28 (ints .u8 (List.replicate 28 z)) ∧ Below w.heap.size w w' := by
  obtain ⟨V0, hV0⟩ : ∃ V : List Value, V = ints .u8 (List.replicate 28 0) := ⟨_, rfl⟩
  obtain ⟨hmk, hown, hbel⟩ := made28 w
  rw [← hV0] at hmk hown hbel
  obtain ⟨w1, hw1⟩ : ∃ w1, w1 = w.alloc (.cells V0.toArray 5) := ⟨_, rfl⟩
  rw [← hw1] at hmk hown hbel
  rw [hV0] at hown
  have OWN := Lib.hid hown
  have BEL := Lib.hid hbel
  clear hw1 hown hbel hV0
  go_enter Try.func63, Try.ntmps63
  go_wp2
  go_loopw [4] (fun i wr => ∃ k : Nat, k ≤ 28 ∧ i = .int .i64 k ∧ (∃ bs : List Int, bs.length = 28 ∧ (∀ u, u < k → bs.getD u 0 = z) ∧ wr.ownsRow w.heap.size 5 1 (.slice (some ⟨w.heap.size, 0, none⟩) 28 28) 28 (ints .u8 bs)) ∧ Below w.heap.size w wr) (fun i _ => 28 - (intOf i).toNat)
  case atStart => exact ⟨0, Nat.zero_le _, rfl, ⟨_, by rw [List.length_replicate], fun u h => absurd h (Nat.not_lt_zero _), OWN.out⟩, BEL.out⟩
  case round =>
    obtain ⟨k, hk, rfl, ⟨bs, hbl, hbs, hown⟩, hbel⟩ := hrel
    have B := Lib.hid hbel
    have HBS := Lib.hid hbs
    by_cases hkm : k < 28
    · have hki : (k : Int) < 28 := by omega
      obtain ⟨g, hg, hbg, hc, hf, hset⟩ := owns_int_at hown hkm
      cases hg
      have SET := Lib.hid (hset z)
      clear hown hbel hset hbs
      go_wp2
      go_roundw
      case rel =>
        refine ⟨k + 1, by omega, by go_num, ⟨_, ?_, fun u hu => ?_, SET.out⟩, B.out.setCell (p := ⟨w.heap.size, k, none⟩) (Nat.le_refl _) _⟩
        · rw [List.length_set]; exact hbl
        · rw [set_getJ _ _ _ _ (by omega)]
          by_cases e : u = k
          · rw [if_pos e]
          · rw [if_neg e]; exact HBS.out u (by omega)
      case measure => simp [intOf]; omega
    · obtain rfl : k = 28 := by omega
      have hwh := whole_len hbl hbs
      subst hwh
      have O := Lib.hid hown
      clear hown hbel hbs hbl HBS
      go_wp2
      go_ret
      exact ⟨_, rfl, O.out, B.out⟩

/-- The chapter's disk of noughts. -/
def nS : List Sec := List.replicate 86 (false, noughts)
abbrev x28 : Txt := List.replicate 28 120
theorem nS_len : nS.length = 86 := by kernel_rfl
theorem nS_new : newS 86 = nS ∧ newE 86 = 0 := ⟨by kernel_rfl, by kernel_rfl⟩
theorem nS_sec : secN 2 9 4 2 2 8 = 86 ∧ chkC 2 9 4 2 2 8 = 0 := ⟨by decide +kernel, by decide +kernel⟩
theorem nS_byte : ∀ s ∈ nS, ∀ z ∈ s.2, isByte z := fun s h z hz => by
  unfold nS at h
  rw [(List.mem_replicate.1 h).2] at hz
  unfold noughts at hz
  rw [(List.mem_replicate.1 hz).2]
  exact ⟨by decide, by decide⟩
theorem none_byteC : ∀ p ∈ ([] : List Pnd), ∀ z ∈ p.2, isByte z := fun p h => absurd h (by simp)
theorem x28_byte (z : Int) (h : 0 ≤ z ∧ z < 256) : ∀ y ∈ List.replicate 28 z, isByte y := fun y hy => by
  rw [(List.mem_replicate.1 hy).2]; exact ⟨h.1, h.2⟩
theorem n_r00 : trE 2 9 4 2 2 8 nS [] 0 0 = 0 ∧ trB 2 9 4 2 2 8 nS [] 0 0 = List.replicate 28 0 := ⟨by kernel_rfl, by kernel_rfl⟩
theorem n_w13 : twE 2 9 4 2 2 8 nS [] 1 3 x28 = 0 := by kernel_rfl
def n13C : List Pnd := [] ++ cpL nS [] (atT 2 9 4 1 3) 2 (sealed x28)
theorem n_x13 : twS 2 9 4 2 2 8 nS [] 1 3 x28 = nS ∧ twC 2 9 4 2 2 8 nS [] 1 3 x28 = n13C ∧ n13C.length = 2 := by
  refine ⟨if_pos n_w13, if_pos n_w13, ?_⟩
  obtain ⟨_, _, h⟩ := twE_zero n_w13
  have := (cpL_good (cwE_zero h).1 (sealed_byte (x28_byte 120 (by decide)))).1
  unfold n13C
  rw [List.nil_append, this]
  rfl
theorem n_r13 : trE 2 9 4 2 2 8 nS n13C 1 3 = 0 ∧ trB 2 9 4 2 2 8 nS n13C 1 3 = x28 := by
  obtain ⟨h1, h2, _⟩ := trk_back n_w13 (x28_byte 120 (by decide)) nS_byte none_byteC
  exact ⟨h1, h2⟩
theorem nS_small : SmallD nS [] := few_smallJ (by kernel_rfl)
theorem n13_small : SmallD nS n13C := by
  obtain ⟨_, _, h⟩ := twE_zero n_w13
  have hg := (cpL_good (cwE_zero h).1 (sealed_byte (x28_byte 120 (by decide)))).2.2.2.2
  have := small_more nS_small hg (k := 2) (by decide)
  rwa [List.take_of_length_le (by have := n_x13.2.2; unfold n13C at this; rw [List.nil_append] at this; rw [this]; exact Nat.le_refl _)] at this

set_option maxRecDepth 100000 in
set_option maxHeartbeats 12800000 in
theorem blank8_any (w : World) : Calls Try.prog 59 #[] w fun e w' => ∃ A c A' c', e = .returned (.tuple #[diskV A 86 c A' 0 c', .bool true]) ∧ OwnDsk w' w.heap.size A 86 c A' 0 c' nS [] ∧ Below w.heap.size w w' := by
  have x0 := Blk.new w 32 [.slice none 0 0, .slice none 0 0]
  have hb0 : Below w.heap.size w (w.alloc (.cells #[.slice none 0 0, .slice none 0 0] 32)) := (Below.refl _ _).alloc (Nat.le_refl _) _
  obtain ⟨v0, hW⟩ : ∃ x : World, x = w.alloc (.cells #[.slice none 0 0, .slice none 0 0] 32) := ⟨_, rfl⟩
  rw [← hW] at x0 hb0
  have X0 := Lib.hid x0
  have B := Lib.hid hb0
  have PS := Lib.hid (fun w' : World => psectors_any 2 9 4 2 2 8 w')
  rw [nS_sec.1, nS_sec.2] at PS
  clear x0 hb0
  go_enter Try.func59, Try.ntmps59
  go_wp2_with fail
  rw [← hW]
  clear hW
  refine (two8_any _).mono ?_
  rintro e w1 ⟨rfl, hb⟩
  have B := Lib.hid (B.out.trans (hb.mono B.out.size))
  have X0 := Lib.hid (X0.out.below hb X0.out.lt)
  clear hb
  go_wp2_with fail
  refine (PS.out _).mono ?_
  rintro e w2 ⟨rfl, hb⟩
  have B := Lib.hid (B.out.trans (hb.mono B.out.size))
  have X0 := Lib.hid (X0.out.below hb X0.out.lt)
  clear hb
  go_wp2_with fail
  refine (dsk_does.new 86 w2 (.inl (by decide))).mono ?_
  intro e w3 hout
  obtain ⟨A3, c3, A3', c3', rfl, hown, hb⟩ := DiskOut.as hout (S' := nS) (C' := []) (E' := 0) (n := 86) (n' := 0) nS_new.1 rfl nS_new.2 nS_len rfl
  have hb2 := hb.alloc hb.size (.cells #[.slice A3 86 c3, .slice A3' 0 c3'] 32)
  have hkA : Below w3.heap.size w3 (w3.alloc (.cells #[.slice A3 86 c3, .slice A3' 0 c3'] 32)) := (Below.refl _ _).alloc (Nat.le_refl _) _
  have Y := Blk.new w3 32 [.slice A3 86 c3, .slice A3' 0 c3']
  have x0 := X0.out.below hb2 X0.out.lt
  have OD := Lib.hid ((hown.below hkA).lower B.out.size)
  have BF := Lib.hid (below_two (B.out.trans (hb2.mono B.out.size)) (Nat.le_refl _) (.slice A3 86 c3) (.slice A3' 0 c3'))
  have y0 := Y.cell 0
  have y1 := Y.cell 1
  have p0 := x0.cell 0
  have p1 := x0.cell 1
  have f0 := x0.free 0
  have f1 := x0.free 1
  simp only [List.getElem?_cons_zero, List.getElem?_cons_succ] at y0 y1 p0 p1
  have XF := Lib.hid x0
  clear hout hown hb hb2 hkA Y x0 X0 B
  go_wp2
  have r := XF.out.two (.slice A3 86 c3) (.slice A3' 0 c3')
  have r0 := r.cell 0
  have r1 := r.cell 1
  simp only [List.getElem?_cons_zero, List.getElem?_cons_succ] at r0 r1
  refine bodyPost_ret (v := .tuple #[diskV A3 86 c3 A3' 0 c3', .bool true]) ?_ rfl ⟨A3, c3, A3', c3', rfl, OD.out.two XF.out _ _, BF.out⟩
  clear y0 y1 p0 p1 f0 f1
  simp [results, Try.f59, go_sem, r0, r1]

set_option maxRecDepth 100000 in
set_option maxHeartbeats 12800000 in
theorem alive_track (w : World) : Calls Try.prog 66 #[] w fun e w' => e = .returned (.bool true) ∧ Below w.heap.size w w' := by
  have B := Lib.hid (Below.refl w.heap.size w)
  have RD1 := Lib.hid (fun A1 c1 A1' c1' wx (hx : Dsk wx A1 86 c1 A1' 0 c1' nS []) => (show Calls Try.prog 60 #[cfgV 2 9 4 2 2 8, diskV A1 86 c1 A1' 0 c1', .int .i64 0, .int .i64 0] wx (fun e w' => ∃ A c, e = .returned (.tuple #[.slice A 28 c, .int .i64 0]) ∧ w'.ownsRow wx.heap.size 5 1 (.slice A 28 c) 28 (ints .u8 (List.replicate 28 0)) ∧ Below wx.heap.size wx w') from by
    have r := tread_any 2 9 4 2 2 8 A1 86 c1 A1' 0 c1' nS [] 0 0 wx hx nS_small
    rw [n_r00.1] at r
    exact r.mono fun e w' h => RowOut.len h n_r00.2 (n := 28) rfl))
  have RD2 := Lib.hid (fun A1 c1 A1' c1' wx (hx : Dsk wx A1 86 c1 A1' 2 c1' nS n13C) => (show Calls Try.prog 60 #[cfgV 2 9 4 2 2 8, diskV A1 86 c1 A1' 2 c1', .int .i64 1, .int .i64 3] wx (fun e w' => ∃ A c, e = .returned (.tuple #[.slice A 28 c, .int .i64 0]) ∧ w'.ownsRow wx.heap.size 5 1 (.slice A 28 c) 28 (ints .u8 x28) ∧ Below wx.heap.size wx w') from by
    have r := tread_any 2 9 4 2 2 8 A1 86 c1 A1' 2 c1' nS n13C 1 3 wx hx n13_small
    rw [n_r13.1] at r
    exact r.mono fun e w' h => RowOut.len h n_r13.2 (n := 28) rfl))
  have WR1 := Lib.hid (fun A1 c1 A1' c1' g wx (hx : Dsk wx A1 86 c1 A1' 0 c1' nS []) hy => twrite_any 2 9 4 2 2 8 A1 86 c1 A1' 0 c1' nS [] 1 3 (some ⟨g, 0, none⟩) 28 28 x28 wx hx nS_small hy (x28_byte 120 (by decide)))
  go_enter Try.func66, Try.ntmps66
  go_wp2_with fail
  refine (blank8_any _).mono ?_
  rintro e w1 ⟨A1, c1, A1', c1', rfl, hown, hb⟩
  have hb2 := hb.alloc hb.size (.cells #[.slice A1 86 c1, .slice A1' 0 c1'] 32)
  have X := Lib.hid (DBox.new (Dsk.of_own hown))
  have B := Lib.hid (B.out.trans (hb2.mono B.out.size))
  clear hown hb hb2
  go_upto_region 2 with fail
  obtain ⟨G1, hG⟩ : ∃ x, x = w1.heap.size := ⟨_, rfl⟩
  rw [← hG] at X ⊢
  obtain ⟨v1, hW⟩ : ∃ x : World, x = w1.alloc (.cells #[.slice A1 86 c1, .slice A1' 0 c1'] 32) := ⟨_, rfl⟩
  rw [← hW] at X B ⊢
  clear hW hG
  have hcur : Below v1.heap.size v1 v1.drew := below_drewN (Below.refl _ _) 1
  have keepX : ∀ wx, Below v1.heap.size v1 wx → wx.cell? ⟨G1, 0, none⟩ = some (.slice A1 86 c1) ∧ wx.cell? ⟨G1, 1, none⟩ = some (.slice A1' 0 c1') := fun wx hx => (X.out.below hx).cells
  have hkX := keepX _ hcur
  go_region_held3 (fun w' => w'.cell? ⟨G1, 0, none⟩ = some (.slice A1 86 c1) ∧ w'.cell? ⟨G1, 1, none⟩ = some (.slice A1' 0 c1'))
    (first | exact hkX | go_keep)
    (first
      | (go_at_call 61; with_reducible refine (two8_any v1.drew).mono ?_; rintro e wT ⟨rfl, hbT⟩; have hcur := hcur.trans (hbT.mono hcur.size); have hkX := keepX _ hcur)
      | (go_at_call 60; with_reducible refine (RD1.out A1 c1 A1' c1' _ (X.out.below hcur).dsk).mono ?_; rintro e v2 ⟨Aa, ca, rfl, hown, hb⟩; have hcur := hcur.trans (hb.mono hcur.size); have hkX := keepX _ hcur; have OA := Lib.hid hown; clear hown))
  have X := Lib.hid (X.out.below hcur)
  have B := Lib.hid (B.out.trans (hcur.mono B.out.size))
  clear keepX hkX hcur RD1
  go_upto_region 3 with fail
  have hS : Below v2.heap.size v2 v2 := Below.refl _ _
  go_cut [5, 6] from 19 to 25 (fun x e wx => ∃ g A9 c9 A9' c9', x = .pointer (some ⟨g, 0, none⟩) ∧ e = .int .i64 0 ∧ Blk wx g 32 [.slice A9 86 c9, .slice A9' 2 c9'] ∧ OwnDsk wx w.heap.size A9 86 c9 A9' 2 c9' nS n13C ∧ Below v2.heap.size v2 wx)
  case first =>
    have hcur : Below v2.heap.size v2 v2.drew := below_drewN (Below.refl _ _) 1
    have keepX : ∀ wx, Below v2.heap.size v2 wx → wx.cell? ⟨G1, 0, none⟩ = some (.slice A1 86 c1) ∧ wx.cell? ⟨G1, 1, none⟩ = some (.slice A1' 0 c1') := fun wx hx => (X.out.below hx).cells
    have hkX := keepX _ hcur
    go_region_held3 (fun w' => w'.cell? ⟨G1, 0, none⟩ = some (.slice A1 86 c1) ∧ w'.cell? ⟨G1, 1, none⟩ = some (.slice A1' 0 c1'))
      (first | exact hkX | exact keepX _ (below_drewN ((Below.refl _ _).alloc (Nat.le_refl _) _) 1) | exact keepX _ (hcur.alloc hcur.size _) | exact keepX _ ((hcur.setCell (p := ⟨_, 0, none⟩) hL _).setCell (p := ⟨_, 1, none⟩) hL _) | go_keep)
      (first
        | (go_at_call 61; with_reducible refine (two8_any v2.drew).mono ?_; rintro e wT ⟨rfl, hbT⟩; have hcur := hcur.trans (hbT.mono hcur.size); have hkX := keepX _ hcur)
        | (go_at_call 61; have hL := Nat.le_refl v2.heap.size; have hcur : Below v2.heap.size v2 (v2.alloc (.cells #[.slice none 0 0, .slice none 0 0] 32)).drew := below_drewN ((Below.refl _ _).alloc (Nat.le_refl _) _) 1; have hZ0 := Blk.new v2 32 [.slice none 0 0, .slice none 0 0]; have hZ := hZ0.below (below_drewN (Below.refl _ _) 1) hZ0.lt; with_reducible refine (two8_any _).mono ?_; rintro e wT ⟨rfl, hbT⟩; have hZ := hZ.below hbT hZ.lt; have hcur := hcur.trans (hbT.mono hcur.size); have hkX := keepX _ hcur)
        | (go_at_call 63; with_reducible refine (of28_any 120 wT).mono ?_; rintro e wO ⟨gO, rfl, hownO, hbO⟩; have hcur := hcur.trans (hbO.mono hcur.size); have hkX := keepX _ hcur; try have hZ := hZ.below hbO hZ.lt)
        | (go_at_call 63; have hL := hcur.size; have hcur := hcur.alloc hcur.size (.cells #[.slice none 0 0, .slice none 0 0] 32); have hZ := Blk.new wT 32 [.slice none 0 0, .slice none 0 0]; with_reducible refine (of28_any 120 _).mono ?_; rintro e wO ⟨gO, rfl, hownO, hbO⟩; have hZ := hZ.below hbO hZ.lt; have hcur := hcur.trans (hbO.mono hcur.size); have hkX := keepX _ hcur)
        | (go_at_call 62; have hM := hcur.size; with_reducible refine (WR1.out A1 c1 A1' c1' gO _ (X.out.below hcur).dsk (Arg.own hownO)).mono ?_; intro e w2 hout; obtain ⟨A9, c9, A9', c9', rfl, hown, hb⟩ := DiskOut.as hout (S' := nS) (C' := n13C) (E' := 0) (n := 86) (n' := 2) n_x13.1 n_x13.2.1 n_w13 nS_len n_x13.2.2; have hcur := hcur.trans (hb.mono hcur.size); have hkX := keepX _ hcur; try (have hZ := hZ.below hb hZ.lt; have z0 := hZ.cell 0; have z1 := hZ.cell 1; have g0 := hZ.free 0; have g1 := hZ.free 1; simp only [List.getElem?_cons_zero, List.getElem?_cons_succ] at z0 z1))
        | (go_at_call 62; have hL := hcur.size; have hcur := hcur.alloc hcur.size (.cells #[.slice none 0 0, .slice none 0 0] 32); have hZ := Blk.new wO 32 [.slice none 0 0, .slice none 0 0]; have hownO := owns_below hownO ((Below.refl wO.heap.size wO).alloc (Nat.le_refl _) (.cells #[.slice none 0 0, .slice none 0 0] 32)); have hM := hcur.size; with_reducible refine (WR1.out A1 c1 A1' c1' gO _ (X.out.below hcur).dsk (Arg.own hownO)).mono ?_; intro e w2 hout; obtain ⟨A9, c9, A9', c9', rfl, hown, hb⟩ := DiskOut.as hout (S' := nS) (C' := n13C) (E' := 0) (n := 86) (n' := 2) n_x13.1 n_x13.2.1 n_w13 nS_len n_x13.2.2; have hcur := hcur.trans (hb.mono hcur.size); have hkX := keepX _ hcur; have hZ := hZ.below hb hZ.lt; have z0 := hZ.cell 0; have z1 := hZ.cell 1; have g0 := hZ.free 0; have g1 := hZ.free 1; simp only [List.getElem?_cons_zero, List.getElem?_cons_succ] at z0 z1))
    all_goals (go_wp2_with fail; go_meet)
    all_goals first
      | exact ⟨_, A9, c9, A9', c9', rfl, rfl, Blk.new _ _ _, (hown.below ((Below.refl _ _).alloc (Nat.le_refl _) _)).lower (Nat.le_trans B.out.size hM), hcur.alloc hcur.size _⟩
      | exact ⟨_, A9, c9, A9', c9', rfl, rfl, hZ.two _ _, (hown.two hZ _ _).lower (Nat.le_trans B.out.size hM), ((hcur.setCell (p := ⟨_, 0, none⟩) hL _).setCell (p := ⟨_, 1, none⟩) hL _)⟩
  case rest =>
    obtain ⟨g, A9, c9, A9', c9', rfl, rfl, hg, ho, hb⟩ := hcut
    have B := Lib.hid (B.out.trans (hb.mono B.out.size))
    have OA := Lib.hid (owns_below OA.out hb)
    have Y := Lib.hid (show DBox wc g A9 86 c9 A9' 2 c9' nS n13C from ⟨hg, Dsk.of_own ho⟩)
    clear X hS hb hg ho WR1
    go_upto_region 4 with fail
    have hcur : Below wc.heap.size wc wc.drew := below_drewN (Below.refl _ _) 1
    have keepX : ∀ wx, Below wc.heap.size wc wx → wx.cell? ⟨g, 0, none⟩ = some (.slice A9 86 c9) ∧ wx.cell? ⟨g, 1, none⟩ = some (.slice A9' 2 c9') := fun wx hx => (Y.out.below hx).cells
    have hkX := keepX _ hcur
    go_region_held3 (fun w' => w'.cell? ⟨g, 0, none⟩ = some (.slice A9 86 c9) ∧ w'.cell? ⟨g, 1, none⟩ = some (.slice A9' 2 c9'))
      (first | exact hkX | go_keep)
      (first
        | (go_at_call 61; with_reducible refine (two8_any wc.drew).mono ?_; rintro e wT ⟨rfl, hbT⟩; have hcur := hcur.trans (hbT.mono hcur.size); have hkX := keepX _ hcur)
        | (go_at_call 60; with_reducible refine (RD2.out A9 c9 A9' c9' _ (Y.out.below hcur).dsk).mono ?_; rintro e v3 ⟨Ab, cb, rfl, hown, hb⟩; have hcur := hcur.trans (hb.mono hcur.size); have hkX := keepX _ hcur; have OB := Lib.hid hown; clear hown))
    have OA := Lib.hid (owns_below OA.out hcur)
    have B := Lib.hid (B.out.trans (hcur.mono B.out.size))
    clear keepX hkX hcur RD2 Y
    go_upto_region 5 with fail
    have hcur : Below v3.heap.size v3 v3.drew := below_drewN (Below.refl _ _) 1
    obtain ⟨s0, hs0⟩ : ∃ s, s = strOfNums (List.replicate 28 0) := ⟨_, rfl⟩
    obtain ⟨s1, hs1⟩ : ∃ s, s = strOfNums x28 := ⟨_, rfl⟩
    have HS0 := Lib.hid hs0
    have HS1 := Lib.hid hs1
    have keepX : ∀ wx, Below v3.heap.size v3 wx → (convert 22 9 (.slice Aa 28 ca)).run Try.prog wx = .ok (.string s0) wx ∧ (convert 22 9 (.slice Ab 28 cb)).run Try.prog wx = .ok (.string s1) wx := fun wx hx => ⟨by rw [HS0.out]; exact str_arg (Arg.own (owns_below OA.out hx)), by rw [HS1.out]; exact str_arg (Arg.own (owns_below OB.out hx))⟩
    have hHeld := keepX _ hcur
    have hst1 : (s0.toList == s0.toList) = true := beq_self_eq_true _
    have hst2 : (s1.toList == s1.toList) = true := beq_self_eq_true _
    clear hs0 hs1
    refine wp_region_to 27 (fun wx => (convert 22 9 (.slice Aa 28 ca)).run Try.prog wx = .ok (.string s0) wx ∧ (convert 22 9 (.slice Ab 28 cb)).run Try.prog wx = .ok (.string s1) wx) (by kernel_rfl) ?_
    refine wpAnyG_take1 (i := 0) (v := ?_) rfl (by kernel_rfl) (by kernel_rfl) (by kernel_rfl) (by kernel_rfl) (by kernel_rfl) rfl (fun _ _ _ h => h) (Or.inl ⟨by rfl, ?_⟩) hHeld ?_
    rotate_left
    · (intro w' hSw; (try dsimp only at hSw); go_simp; (try with_reducible rfl))
    simp only [Act.put, List.setIfInBounds_toArray, List.set_cons_zero, List.set_cons_succ, List.getElem_toArray, List.getElem_cons_zero]
    refine wpAnyG_take1 (i := 1) (v := ?_) rfl (by kernel_rfl) (by kernel_rfl) (by kernel_rfl) (by kernel_rfl) (by kernel_rfl) rfl (fun _ _ _ h => h) (Or.inl ⟨by rfl, ?_⟩) hHeld ?_
    rotate_left
    · (intro w' hSw; (try dsimp only at hSw); go_simp; (try with_reducible rfl))
    simp only [Act.put, List.setIfInBounds_toArray, List.set_cons_zero, List.set_cons_succ, List.getElem_toArray, List.getElem_cons_zero, List.getElem_cons_succ]
    refine wpAnyG_take1 (i := 2) (v := ?_) rfl (by kernel_rfl) (by kernel_rfl) (by kernel_rfl) (by kernel_rfl) (by kernel_rfl) rfl (fun _ _ _ h => h) (Or.inl ⟨by rfl, ?_⟩) hHeld ?_
    rotate_left
    · (intro w' hSw; (try dsimp only at hSw); go_simp; (try with_reducible rfl))
    simp only [Act.put, List.setIfInBounds_toArray, List.set_cons_zero, List.set_cons_succ, List.getElem_toArray, List.getElem_cons_zero, List.getElem_cons_succ]
    refine wpAnyG_take1 (i := 3) (v := ?_) rfl (by kernel_rfl) (by kernel_rfl) (by kernel_rfl) (by kernel_rfl) (by kernel_rfl) rfl (fun _ _ _ h => h) (Or.inl ⟨by rfl, ?_⟩) hHeld ?_
    rotate_left
    · (intro w' hSw; (try dsimp only at hSw); go_simp; (try with_reducible rfl))
    simp only [Act.put, List.setIfInBounds_toArray, List.set_cons_zero, List.set_cons_succ, List.getElem_toArray, List.getElem_cons_zero, List.getElem_cons_succ]
    refine wpAnyG_take1 (i := 4) (v := ?_) rfl (by kernel_rfl) (by kernel_rfl) (by kernel_rfl) (by kernel_rfl) (by kernel_rfl) rfl (fun _ _ _ h => h) (Or.inl ⟨by rfl, ?_⟩) hHeld ?_
    rotate_left
    · (intro w' hSw; (try dsimp only at hSw); go_simp; (try with_reducible rfl))
    simp only [Act.put, List.setIfInBounds_toArray, List.set_cons_zero, List.set_cons_succ, List.getElem_toArray, List.getElem_cons_zero, List.getElem_cons_succ]
    refine wpAnyG_take1 (i := 5) (v := ?_) rfl (by kernel_rfl) (by kernel_rfl) (by kernel_rfl) (by kernel_rfl) (by kernel_rfl) rfl (fun _ _ _ h => h) (Or.inl ⟨by rfl, ?_⟩) hHeld ?_
    rotate_left
    · (intro w' hSw; (try dsimp only at hSw); go_simp; (try with_reducible rfl))
    simp only [Act.put, List.setIfInBounds_toArray, List.set_cons_zero, List.set_cons_succ, List.getElem_toArray, List.getElem_cons_zero, List.getElem_cons_succ]
    refine wpAnyG_take1 (i := 6) (v := ?_) rfl (by kernel_rfl) (by kernel_rfl) (by kernel_rfl) (by kernel_rfl) (by kernel_rfl) rfl (fun _ _ _ h => h) (Or.inl ⟨by rfl, ?_⟩) hHeld ?_
    rotate_left
    · (intro w' hSw; (try dsimp only at hSw); go_simp; (try with_reducible rfl))
    simp only [Act.put, List.setIfInBounds_toArray, List.set_cons_zero, List.set_cons_succ, List.getElem_toArray, List.getElem_cons_zero, List.getElem_cons_succ]
    refine wpAnyG_take1 (i := 7) (v := ?_) rfl (by kernel_rfl) (by kernel_rfl) (by kernel_rfl) (by kernel_rfl) (by kernel_rfl) rfl (fun _ _ _ h => h) (Or.inl ⟨by rfl, ?_⟩) hHeld ?_
    rotate_left
    · (intro w' hSw; (try dsimp only at hSw); go_simp; (try with_reducible rfl))
    simp only [Act.put, List.setIfInBounds_toArray, List.set_cons_zero, List.set_cons_succ, List.getElem_toArray, List.getElem_cons_zero, List.getElem_cons_succ]
    refine wpAnyG_one (i := 8) (by kernel_rfl) rfl (fun K hK => ?_)
    simp only [List.getElem_toArray, List.getElem_cons_zero, List.getElem_cons_succ] at hK ⊢
    go_simp
    go_at_call 63
    refine (of28_any 0 _).mono ?_
    rintro e wO ⟨gO, rfl, hownO, hbH⟩
    have hcur := hcur.trans (hbH.mono hcur.size)
    have k2 := str_arg (Arg.own hownO)
    rw [← HS0.out] at k2
    refine hK.out _ _ (fun _ => keepX _ hcur) (fun hHeld => ?_)
    have hHeld := hHeld (by decide)
    clear hK K
    try simp only [Act.put, List.setIfInBounds_toArray, List.set_cons_zero, List.set_cons_succ, List.getElem_toArray, List.getElem_cons_zero, List.getElem_cons_succ]
    refine wpAnyG_one (i := 9) (by kernel_rfl) rfl (fun K hK => ?_)
    simp only [List.getElem_toArray, List.getElem_cons_zero, List.getElem_cons_succ] at hK ⊢
    go_simp
    refine hK.out _ _ (fun _ => keepX _ hcur) (fun hHeld => ?_)
    have hHeld := hHeld (by decide)
    clear hK K
    try simp only [Act.put, List.setIfInBounds_toArray, List.set_cons_zero, List.set_cons_succ, List.getElem_toArray, List.getElem_cons_zero, List.getElem_cons_succ]
    refine wpAnyG_take1 (i := 10) (v := ?_) rfl (by kernel_rfl) (by kernel_rfl) (by kernel_rfl) (by kernel_rfl) (by kernel_rfl) rfl (fun _ _ _ h => h) (Or.inl ⟨by rfl, ?_⟩) hHeld ?_
    rotate_left
    · (intro w' hSw; (try dsimp only at hSw); go_simp; (try with_reducible rfl))
    simp only [Act.put, List.setIfInBounds_toArray, List.set_cons_zero, List.set_cons_succ, List.getElem_toArray, List.getElem_cons_zero, List.getElem_cons_succ]
    refine wpAnyG_take1 (i := 11) (v := ?_) rfl (by kernel_rfl) (by kernel_rfl) (by kernel_rfl) (by kernel_rfl) (by kernel_rfl) rfl (fun _ _ _ h => h) (Or.inl ⟨by rfl, ?_⟩) hHeld ?_
    rotate_left
    · (intro w' hSw; (try dsimp only at hSw); go_simp; (try with_reducible rfl))
    simp only [Act.put, List.setIfInBounds_toArray, List.set_cons_zero, List.set_cons_succ, List.getElem_toArray, List.getElem_cons_zero, List.getElem_cons_succ]
    refine wpAnyG_take1 (i := 12) (v := ?_) rfl (by kernel_rfl) (by kernel_rfl) (by kernel_rfl) (by kernel_rfl) (by kernel_rfl) rfl (fun _ _ _ h => h) (Or.inl ⟨by rfl, ?_⟩) hHeld ?_
    rotate_left
    · (intro w' hSw; (try dsimp only at hSw); go_simp; (try with_reducible rfl))
    simp only [Act.put, List.setIfInBounds_toArray, List.set_cons_zero, List.set_cons_succ, List.getElem_toArray, List.getElem_cons_zero, List.getElem_cons_succ]
    refine wpAnyG_take1 (i := 13) (v := ?_) rfl (by kernel_rfl) (by kernel_rfl) (by kernel_rfl) (by kernel_rfl) (by kernel_rfl) rfl (fun _ _ _ h => h) (Or.inl ⟨by rfl, ?_⟩) hHeld ?_
    rotate_left
    · (intro w' hSw; (try dsimp only at hSw); go_simp; (try with_reducible rfl))
    simp only [Act.put, List.setIfInBounds_toArray, List.set_cons_zero, List.set_cons_succ, List.getElem_toArray, List.getElem_cons_zero, List.getElem_cons_succ]
    refine wpAnyG_take1 (i := 14) (v := ?_) rfl (by kernel_rfl) (by kernel_rfl) (by kernel_rfl) (by kernel_rfl) (by kernel_rfl) rfl (fun _ _ _ h => h) (Or.inl ⟨by rfl, ?_⟩) hHeld ?_
    rotate_left
    · (intro w' hSw; (try dsimp only at hSw); go_simp; (try with_reducible rfl))
    simp only [Act.put, List.setIfInBounds_toArray, List.set_cons_zero, List.set_cons_succ, List.getElem_toArray, List.getElem_cons_zero, List.getElem_cons_succ]
    refine wpAnyG_take1 (i := 15) (v := ?_) rfl (by kernel_rfl) (by kernel_rfl) (by kernel_rfl) (by kernel_rfl) (by kernel_rfl) rfl (fun _ _ _ h => h) (Or.inl ⟨by rfl, ?_⟩) hHeld ?_
    rotate_left
    · (intro w' hSw; (try dsimp only at hSw); go_simp; (try with_reducible rfl))
    simp only [Act.put, List.setIfInBounds_toArray, List.set_cons_zero, List.set_cons_succ, List.getElem_toArray, List.getElem_cons_zero, List.getElem_cons_succ]
    refine wpAnyG_take1 (i := 16) (v := ?_) rfl (by kernel_rfl) (by kernel_rfl) (by kernel_rfl) (by kernel_rfl) (by kernel_rfl) rfl (fun _ _ _ h => h) (Or.inl ⟨by rfl, ?_⟩) hHeld ?_
    rotate_left
    · (intro w' hSw; (try dsimp only at hSw); go_simp; (try with_reducible rfl))
    simp only [Act.put, List.setIfInBounds_toArray, List.set_cons_zero, List.set_cons_succ, List.getElem_toArray, List.getElem_cons_zero, List.getElem_cons_succ]
    refine wpAnyG_take1 (i := 17) (v := ?_) rfl (by kernel_rfl) (by kernel_rfl) (by kernel_rfl) (by kernel_rfl) (by kernel_rfl) rfl (fun _ _ _ h => h) (Or.inl ⟨by rfl, ?_⟩) hHeld ?_
    rotate_left
    · (intro w' hSw; (try dsimp only at hSw); go_simp; (try with_reducible rfl))
    simp only [Act.put, List.setIfInBounds_toArray, List.set_cons_zero, List.set_cons_succ, List.getElem_toArray, List.getElem_cons_zero, List.getElem_cons_succ]
    refine wpAnyG_take1 (i := 18) (v := ?_) rfl (by kernel_rfl) (by kernel_rfl) (by kernel_rfl) (by kernel_rfl) (by kernel_rfl) rfl (fun _ _ _ h => h) (Or.inl ⟨by rfl, ?_⟩) hHeld ?_
    rotate_left
    · (intro w' hSw; (try dsimp only at hSw); go_simp; (try with_reducible rfl))
    simp only [Act.put, List.setIfInBounds_toArray, List.set_cons_zero, List.set_cons_succ, List.getElem_toArray, List.getElem_cons_zero, List.getElem_cons_succ]
    refine wpAnyG_take1 (i := 19) (v := ?_) rfl (by kernel_rfl) (by kernel_rfl) (by kernel_rfl) (by kernel_rfl) (by kernel_rfl) rfl (fun _ _ _ h => h) (Or.inl ⟨by rfl, ?_⟩) hHeld ?_
    rotate_left
    · (intro w' hSw; (try dsimp only at hSw); go_simp; (try with_reducible rfl))
    simp only [Act.put, List.setIfInBounds_toArray, List.set_cons_zero, List.set_cons_succ, List.getElem_toArray, List.getElem_cons_zero, List.getElem_cons_succ]
    refine wpAnyG_take1 (i := 20) (v := ?_) rfl (by kernel_rfl) (by kernel_rfl) (by kernel_rfl) (by kernel_rfl) (by kernel_rfl) rfl (fun _ _ _ h => h) (Or.inl ⟨by rfl, ?_⟩) hHeld ?_
    rotate_left
    · (intro w' hSw; (try dsimp only at hSw); go_simp; (try with_reducible rfl))
    simp only [Act.put, List.setIfInBounds_toArray, List.set_cons_zero, List.set_cons_succ, List.getElem_toArray, List.getElem_cons_zero, List.getElem_cons_succ]
    refine wpAnyG_take1 (i := 21) (v := ?_) rfl (by kernel_rfl) (by kernel_rfl) (by kernel_rfl) (by kernel_rfl) (by kernel_rfl) rfl (fun _ _ _ h => h) (Or.inl ⟨by rfl, ?_⟩) hHeld ?_
    rotate_left
    · (intro w' hSw; (try dsimp only at hSw); go_simp; (try with_reducible rfl))
    simp only [Act.put, List.setIfInBounds_toArray, List.set_cons_zero, List.set_cons_succ, List.getElem_toArray, List.getElem_cons_zero, List.getElem_cons_succ]
    refine wpAnyG_take1 (i := 22) (v := ?_) rfl (by kernel_rfl) (by kernel_rfl) (by kernel_rfl) (by kernel_rfl) (by kernel_rfl) rfl (fun _ _ _ h => h) (Or.inl ⟨by rfl, ?_⟩) hHeld ?_
    rotate_left
    · (intro w' hSw; (try dsimp only at hSw); go_simp; (try with_reducible rfl))
    simp only [Act.put, List.setIfInBounds_toArray, List.set_cons_zero, List.set_cons_succ, List.getElem_toArray, List.getElem_cons_zero, List.getElem_cons_succ]
    refine wpAnyG_one (i := 23) (by kernel_rfl) rfl (fun K hK => ?_)
    simp only [List.getElem_toArray, List.getElem_cons_zero, List.getElem_cons_succ] at hK ⊢
    go_simp
    go_at_call 63
    refine (of28_any 120 _).mono ?_
    rintro e wP ⟨gP, rfl, hownP, hbH⟩
    have hcur := hcur.trans (hbH.mono hcur.size)
    have k2 := str_arg (Arg.own hownP)
    rw [← HS1.out] at k2
    refine hK.out _ _ (fun _ => keepX _ hcur) (fun hHeld => ?_)
    have hHeld := hHeld (by decide)
    clear hK K
    try simp only [Act.put, List.setIfInBounds_toArray, List.set_cons_zero, List.set_cons_succ, List.getElem_toArray, List.getElem_cons_zero, List.getElem_cons_succ]
    refine wpAnyG_one (i := 24) (by kernel_rfl) rfl (fun K hK => ?_)
    simp only [List.getElem_toArray, List.getElem_cons_zero, List.getElem_cons_succ] at hK ⊢
    go_simp
    refine hK.out _ _ (fun _ => keepX _ hcur) (fun hHeld => ?_)
    have hHeld := hHeld (by decide)
    clear hK K
    try simp only [Act.put, List.setIfInBounds_toArray, List.set_cons_zero, List.set_cons_succ, List.getElem_toArray, List.getElem_cons_zero, List.getElem_cons_succ]
    refine wpAnyG_take1 (i := 25) (v := ?_) rfl (by kernel_rfl) (by kernel_rfl) (by kernel_rfl) (by kernel_rfl) (by kernel_rfl) rfl (fun _ _ _ h => h) (Or.inl ⟨by rfl, ?_⟩) hHeld ?_
    rotate_left
    · (intro w' hSw; (try dsimp only at hSw); go_simp; (try with_reducible rfl))
    simp only [Act.put, List.setIfInBounds_toArray, List.set_cons_zero, List.set_cons_succ, List.getElem_toArray, List.getElem_cons_zero, List.getElem_cons_succ]
    refine wpAnyG_take1 (i := 26) (v := ?_) rfl (by kernel_rfl) (by kernel_rfl) (by kernel_rfl) (by kernel_rfl) (by kernel_rfl) rfl (fun _ _ _ h => h) (Or.inl ⟨by rfl, ?_⟩) hHeld ?_
    rotate_left
    · (intro w' hSw; (try dsimp only at hSw); go_simp; (try with_reducible rfl))
    simp only [Act.put, List.setIfInBounds_toArray, List.set_cons_zero, List.set_cons_succ, List.getElem_toArray, List.getElem_cons_zero, List.getElem_cons_succ]
    refine wpAnyG_one (i := 27) (by kernel_rfl) rfl (fun K hK => ?_)
    simp only [List.getElem_toArray, List.getElem_cons_zero, List.getElem_cons_succ] at hK ⊢
    go_simp
    refine hK.out _ _ (fun h => absurd rfl h) (fun _ => ?_)
    clear hK K
    refine wpAnyG_done (by kernel_rfl) ?_ _
    have B9 := Lib.hid (B.out.trans (hcur.mono B.out.size))
    clear keepX
    go_wp2
    go_ret
    exact ⟨rfl, B9.out⟩

end Go.Proofs.Ytnmlplfcdnakhaa
