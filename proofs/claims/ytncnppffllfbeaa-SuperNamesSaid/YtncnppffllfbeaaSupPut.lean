/- Layer 9: the law's own config and super, and a disk with a super's write in its cache. -/
import Derived.Test.YtncnppffllfbeaaSupQ
import Derived.Test.YtncnppffllfbeaaCellAp0
import Derived.Test.YtncnppffllfbeaaHeldOne
import Derived.KernelRfl
import Derived.Deep.RegionHeld3
import Derived.Deep.RegionWith
import Derived.Deep.Cut
import Derived.Deep.CutBlock
import Derived.Deep.CutRange
namespace Go.Proofs.Ytncnppffllfbeaa
open Go.RowKit
set_option linter.unusedVariables false

theorem two9_any (w : World) : Calls Try.prog 9 #[] w fun e w' => e = .returned (cfgV 2 9 4 2 2 8) ∧ Below w.heap.size w w' := by
  have y := Blk.new w 37 [.int .i64 2, .int .i64 9, .int .i64 4, .int .i64 2, .int .i64 2, .int .i64 8]
  obtain ⟨z0, z1, z2, z3, z4, z5⟩ := y.cfg
  have hb : Below w.heap.size w (w.alloc (.cells #[.int .i64 2, .int .i64 9, .int .i64 4, .int .i64 2, .int .i64 2, .int .i64 8] 37)) := (Below.refl _ _).alloc (Nat.le_refl _) _
  have HB := Lib.hid hb
  clear y hb
  go_enter Try.func9, Try.ntmps9
  go_wp2
  refine bodyPost_ret (v := cfgV 2 9 4 2 2 8) ?_ rfl ⟨rfl, HB.out⟩
  simp [results, Try.f9, go_sem, z0, z1, z2, z3, z4, z5]

theorem three9_any (w : World) : Calls Try.prog 7 #[] w fun e w' => e = .returned (supV 3 1 65537) ∧ Below w.heap.size w w' := by
  have y := Blk.new w 31 [.int .u32 3, .int .i64 1, .int .u64 65537]
  obtain ⟨z0, z1, z2⟩ := y.tri
  have hb : Below w.heap.size w (w.alloc (.cells #[.int .u32 3, .int .i64 1, .int .u64 65537] 31)) := (Below.refl _ _).alloc (Nat.le_refl _) _
  have HB := Lib.hid hb
  clear y hb
  go_enter Try.func7, Try.ntmps7
  go_wp2
  refine bodyPost_ret (v := supV 3 1 65537) ?_ rfl ⟨rfl, HB.out⟩
  simp [results, Try.f7, go_sem, z0, z1, z2]

theorem arg_bit {w : World} {k : IntKind} {g o n c lo hi : Nat} {zs : List Int} (h : Arg w k (some ⟨g, o, none⟩) n c zs) (h1 : lo ≤ hi) (h2 : hi ≤ n) : Arg w k (some ⟨g, o + lo, none⟩) (hi - lo) (c - lo) ((zs.drop lo).take (hi - lo)) := by
  refine ⟨?_, by rw [List.length_take, List.length_drop, h.len]; omega, by have := h.cap; omega, by have := h.max; omega⟩
  have hs : ints k ((zs.drop lo).take (hi - lo)) = ((ints k zs).drop lo).take (hi - lo) := by simp [ints, List.map_take, List.map_drop]
  rw [hs]
  exact (h.seq.drop lo).take _
theorem one_list {L : List Pnd} (h : L.length = 1) : L = [L.getD 0 (0, [])] := by
  match L, h with
  | [p], _ => rfl
theorem one_cells {w : World} {A : Option Addr} {c : Nat} {L : List Pnd} (h : Pnds w A 1 c L) : ∃ b o Ap np cp, A = some ⟨b, o, none⟩ ∧ b < w.heap.size ∧ w.cell? ⟨b, o, none⟩ = some (.int .i64 (L.getD 0 (0, [])).1) ∧ w.cell? ⟨b, o + 1, none⟩ = some (.slice Ap np cp) ∧ Arg w .u8 Ap np cp (L.getD 0 (0, [])).2 := by
  obtain ⟨b, o, Ap, np, cp, e, hlt, p1, p0, ap⟩ := h.at_ 0 (by decide)
  exact ⟨b, o, Ap, np, cp, e, hlt, by simpa using p0, by simpa using p1, ap⟩
/-- The one write of a super: what disk.Write says of it. -/
theorem put_next {P T A M W Q : Int} {S : List Sec} {C : List Pnd} {s : Sup} (h : spE P T A M W Q S C s = 0) (h64 : C.length ≤ 64) {pa : Int} {t : Txt} (hp : (pa, t) = (spL P T A M W Q S C s).getD 0 (0, [])) :
    wrE S C pa t = (if 64 ≤ C.length then 9 else 0) ∧ (C.length < 64 → wrS S C pa t = S ∧ wrC S C pa t = C ++ spL P T A M W Q S C s) ∧ (∀ z ∈ t, isByte z) ∧ t.length = 32 ∧ (spL P T A M W Q S C s).length = 1 := by
  have hm := (spE_zero h).1
  have hL : spL P T A M W Q S C s = cpL S C 0 1 (suT s) := if_pos h
  obtain ⟨h1, hg⟩ := spL_good h
  rw [hL] at hp ⊢
  obtain ⟨L, hLL⟩ : ∃ L, L = cpL S C 0 1 (suT s) := ⟨_, rfl⟩
  rw [← hLL] at h1 hg hp ⊢
  have hn := wr_next (L := L) hm.2.1 hg (k := 0) (by omega) (by omega)
  rw [List.take_zero, List.append_nil, ← hp, Nat.add_zero] at hn
  dsimp only at hn
  have hmem : (pa, t) ∈ L := by
    rw [hp, one_list h1]
    exact List.mem_cons_self ..
  have hgp := hg _ hmem
  refine ⟨hn, fun hlt => ?_, hgp.2, hgp.1.2.2, h1⟩
  have h0 : wrE S C pa t = 0 := hn.trans (if_neg (by omega))
  refine ⟨if_pos h0, (if_pos h0).trans ?_⟩
  rw [hp, ← one_list h1]

/-- The boxes of put. -/
structure PBox (w : World) (G : Nat) (P T A M W Q : Int) (D : Option Addr) (n c : Nat) (D' : Option Addr) (n' c' : Nat) (S : List Sec) (C : List Pnd) (v a g : Int) : Prop where
  thr : SBox w G P T A M W Q D n c D' n' c' S C v a g
  res : Blk w (G + 3) 25 [.slice none 0 0, .slice none 0 0]
theorem PBox.below {w w' : World} {G : Nat} {P T A M W Q v a g : Int} {D D' : Option Addr} {n c n' c' : Nat} {S : List Sec} {C : List Pnd} (x : PBox w G P T A M W Q D n c D' n' c' S C v a g) (hb : Below w.heap.size w w') : PBox w' G P T A M W Q D n c D' n' c' S C v a g := ⟨x.thr.below hb, x.res.below hb x.res.lt⟩
theorem PBox.of {w w0 : World} {P T A M W Q v a g : Int} {D D' : Option Addr} {n c n' c' : Nat} {S : List Sec} {C : List Pnd} (x : SBox w0 w.heap.size P T A M W Q D n c D' n' c' S C v a g) (hb : Below w.heap.size w w0) (hs : w0.heap.size = w.heap.size + 3) :
    PBox (w0.alloc (.cells #[.slice none 0 0, .slice none 0 0] 25)) w.heap.size P T A M W Q D n c D' n' c' S C v a g ∧ Below w.heap.size w (w0.alloc (.cells #[.slice none 0 0, .slice none 0 0] 25)) := by
  have y := Blk.new w0 25 [.slice none 0 0, .slice none 0 0]
  rw [hs] at y
  exact ⟨⟨x.below ((Below.refl _ _).alloc (Nat.le_refl _) _), y⟩, hb.alloc hb.size _⟩

set_option maxRecDepth 100000 in
set_option maxHeartbeats 12800000 in
theorem put_yes (P T A M W Q : Int) (D : Option Addr) (n c : Nat) (D' : Option Addr) (n' c' : Nat) (S : List Sec) (C : List Pnd) (v a g : Int) (w : World) (hq : Dsk w D n c D' n' c' S C) (hs : SmallD S C) (hi : isS (v, a, g)) (h : spE P T A M W Q S C (v, a, g) = 0) (h64 : C.length < 64) :
    Calls Try.prog 19 #[cfgV P T A M W Q, diskV D n c D' n' c', supV v a g] w fun e w' => ∃ A2 c2 A2' c2', e = .returned (.tuple #[diskV A2 n c2 A2' (n' + 1) c2', .bool true]) ∧ OwnDsk w' w.heap.size A2 n c2 A2' (n' + 1) c2' S (C ++ spL P T A M W Q S C (v, a, g)) ∧ Below w.heap.size w w' := by
  obtain ⟨x0, hbel0⟩ := SBox.new P T A M W Q v a g hq
  obtain ⟨w0, hw0⟩ : ∃ x : World, x = ((w.alloc (.cells #[.int .i64 P, .int .i64 T, .int .i64 A, .int .i64 M, .int .i64 W, .int .i64 Q] 37)).alloc (.cells #[.slice D n c, .slice D' n' c'] 25)).alloc (.cells #[.int .u32 v, .int .i64 a, .int .u64 g] 31) := ⟨_, rfl⟩
  have hs0 : w0.heap.size = w.heap.size + 3 := by rw [hw0]; simp
  rw [← hw0] at x0 hbel0
  obtain ⟨x, hbel⟩ := PBox.of x0 hbel0 hs0
  obtain ⟨w1, hw1⟩ : ∃ x : World, x = w0.alloc (.cells #[.slice none 0 0, .slice none 0 0] 25) := ⟨_, rfl⟩
  rw [← hw1] at x hbel
  have X := Lib.hid x
  have B := Lib.hid hbel
  have hsl := hq.secs.len
  have hpl := hq.pnds.len
  have PL := Lib.hid (fun wx hx => splan_any P T A M W Q D n c D' n' c' S C v a g wx hx hs hi)
  unfold PlanOut at PL
  rw [h] at PL
  obtain ⟨pa, t, hp⟩ : ∃ pa t, (pa, t) = (spL P T A M W Q S C (v, a, g)).getD 0 (0, []) := ⟨_, _, rfl⟩
  obtain ⟨k1, k2, k3, k4, k5⟩ := put_next h (Nat.le_of_lt h64) hp
  obtain ⟨k6, k7⟩ := k2 h64
  rw [if_neg (by omega)] at k1
  rw [k5] at PL
  obtain ⟨L, hL⟩ : ∃ L, L = spL P T A M W Q S C (v, a, g) := ⟨_, rfl⟩
  rw [← hL] at PL k7 hp ⊢
  have hl2 : (C ++ L).length = n' + 1 := by rw [List.length_append, hL, k5, hpl]
  have HP := Lib.hid hp
  have WR := Lib.hid (fun wx Ap np cp hx (hr : Arg wx .u8 Ap np cp t) => (dsk_does.write D n c D' n' c' S C pa Ap np cp t wx hx hs hr k3 (by omega)).mono fun e w' ho => DiskOut.as ho (S' := S) (C' := C ++ L) (E' := 0) (n := n) (n' := n' + 1) k6 k7 k1 hsl hl2)
  obtain ⟨c0, c1, c2, c3, c4, c5, d0, d1, q0, q1, q2⟩ := X.out.thr.cells
  clear x0 hbel0 x hbel hq hs hi h h64 hsl hpl k1 k2 k3 k4 k5 k6 k7 hL hl2 hp hs0
  go_enter Try.func19, Try.ntmps19
  go_wp2_with fail
  rw [← hw0, ← hw1]
  clear hw0 hw1
  refine (PL.out _ X.out.thr.two.dsk.dsk).mono ?_
  rintro e w2 ⟨AL, cL, rfl, hown, hb⟩
  have PN := Lib.hid (Pnds.of_own hown)
  have B := Lib.hid (B.out.trans (hb.mono B.out.size))
  have X := Lib.hid (X.out.below hb)
  clear hb hown PL c0 c1 c2 c3 c4 c5 d0 d1 q0 q1 q2
  go_wp2
  go_loopw [10] (fun i wr => (i = .int .i64 0 ∧ wr = w2) ∨ (i = .int .i64 1 ∧ ∃ A9 c9 A9' c9', Blk wr (w.heap.size + 1) 25 [.slice A9 n c9, .slice A9' (n' + 1) c9'] ∧ OwnDsk wr w.heap.size A9 n c9 A9' (n' + 1) c9' S (C ++ L) ∧ Blk wr (w.heap.size + 3) 25 [.slice none 0 0, .slice none 0 0] ∧ Below w.heap.size w wr)) (fun i _ => 1 - (intOf i).toNat)
  case atStart => exact .inl ⟨rfl, rfl⟩
  case round =>
    rcases hrel with ⟨rfl, rfl⟩ | ⟨rfl, A9, c9, A9', c9', hx, hd, hr, hb⟩
    · obtain ⟨bk, ok, Ak, nk, ck, rfl, hlt, p0, p1, hak⟩ := one_cells PN.out
      rw [← HP.out] at p0 hak
      dsimp only at p0 hak
      have AK := Lib.hid hak
      obtain ⟨c0, c1, c2, c3, c4, c5, d0, d1, q0, q1, q2⟩ := X.out.thr.cells
      have keepX : ∀ wx, Below wr.heap.size wr wx → wx.cell? ⟨w.heap.size + 1, 0, none⟩ = some (.slice D n c) ∧ wx.cell? ⟨w.heap.size + 1, 1, none⟩ = some (.slice D' n' c') ∧ wx.cell? ⟨bk, ok, none⟩ = some (.int .i64 pa) ∧ wx.cell? ⟨bk, ok + 1, none⟩ = some (.slice Ak nk ck) := fun wx hx => by
        obtain ⟨_, _, _, _, _, _, d0, d1, _, _, _⟩ := (X.out.below hx).thr.cells
        exact ⟨d0, d1, (hx.cell (p := ⟨bk, ok, none⟩) hlt).trans p0, (hx.cell (p := ⟨bk, ok + 1, none⟩) hlt).trans p1⟩
      clear c0 c1 c2 c3 c4 c5 d0 d1 q0 q1 q2 p0 p1 hak
      go_upto_region 7 with fail
      go_cut [11, 12] from 23 to 47 (fun x e wx => ∃ g A9 c9 A9' c9', x = .pointer (some ⟨g, 0, none⟩) ∧ e = .int .i64 0 ∧ Blk wx g 25 [.slice A9 n c9, .slice A9' (n' + 1) c9'] ∧ OwnDsk wx w.heap.size A9 n c9 A9' (n' + 1) c9' S (C ++ L) ∧ wr.heap.size ≤ g ∧ Below wr.heap.size wr wx)
      case first =>
        have hcur : Below wr.heap.size wr wr.drew := below_drewN (Below.refl _ _) 1
        have hkX := keepX _ hcur
        go_region_held3 (fun w' => w'.cell? ⟨w.heap.size + 1, 0, none⟩ = some (.slice D n c) ∧ w'.cell? ⟨w.heap.size + 1, 1, none⟩ = some (.slice D' n' c') ∧ w'.cell? ⟨bk, ok, none⟩ = some (.int .i64 pa) ∧ w'.cell? ⟨bk, ok + 1, none⟩ = some (.slice Ak nk ck))
          (first | exact hkX | exact keepX _ (below_drewN ((Below.refl _ _).alloc (Nat.le_refl _) _) 1) | exact keepX _ (hcur.alloc hcur.size _) | exact keepX _ ((hcur.setCell (p := ⟨_, 0, none⟩) hLL _).setCell (p := ⟨_, 1, none⟩) hLL _) | go_keep)
          (first
            | (go_at_call 11; with_reducible refine (WR.out wr.drew _ _ _ (X.out.below hcur).thr.two.dsk.dsk (AK.out.below hcur)).mono ?_; rintro e w3 ⟨A9, c9, A9', c9', rfl, hown, hb⟩; have hM := hcur.size; have hcur := hcur.trans (hb.mono hcur.size); have hkX := keepX _ hcur)
            | (go_at_call 11; have hLL := Nat.le_refl wr.heap.size; have hcur : Below wr.heap.size wr (wr.alloc (.cells #[.slice none 0 0, .slice none 0 0] 25)).drew := below_drewN ((Below.refl _ _).alloc (Nat.le_refl _) _) 1; have hZ0 := Blk.new wr 25 [.slice none 0 0, .slice none 0 0]; have hZ := hZ0.below (below_drewN (Below.refl _ _) 1) hZ0.lt; with_reducible refine (WR.out _ _ _ _ (X.out.below hcur).thr.two.dsk.dsk (AK.out.below hcur)).mono ?_; rintro e w3 ⟨A9, c9, A9', c9', rfl, hown, hb⟩; have hM := hcur.size; have hZ := hZ.below hb hZ.lt; have hcur := hcur.trans (hb.mono hcur.size); have hkX := keepX _ hcur; have z0 := hZ.cell 0; have z1 := hZ.cell 1; have g0 := hZ.free 0; have g1 := hZ.free 1; simp only [List.getElem?_cons_zero, List.getElem?_cons_succ] at z0 z1))
        all_goals (go_wp2_with fail; go_meet)
        all_goals first
          | exact ⟨_, A9, c9, A9', c9', rfl, rfl, Blk.new _ _ _, ((hown.below ((Below.refl _ _).alloc (Nat.le_refl _) _)).lower (Nat.le_trans B.out.size hM)), hcur.size, hcur.alloc hcur.size _⟩
          | exact ⟨_, A9, c9, A9', c9', rfl, rfl, hZ.two _ _, ((hown.two hZ _ _).lower (Nat.le_trans B.out.size hM)), hLL, ((hcur.setCell (p := ⟨_, 0, none⟩) hLL _).setCell (p := ⟨_, 1, none⟩) hLL _)⟩
      case rest =>
        obtain ⟨G, A9, c9, A9', c9', rfl, rfl, hg, ho, hG, hb⟩ := hcut
        have B := Lib.hid (B.out.trans (hb.mono B.out.size))
        have X := Lib.hid (X.out.below hb)
        have O := Lib.hid ho
        have DB := Lib.hid X.out.thr.two.dsk.blk
        have RS := Lib.hid X.out.res
        have x0 := hg.cell 0
        have x1 := hg.cell 1
        have y0 := DB.out.cell 0
        have y1 := DB.out.cell 1
        have f0 := DB.out.free 0
        have f1 := DB.out.free 1
        simp only [List.getElem?_cons_zero, List.getElem?_cons_succ] at x0 x1 y0 y1
        clear hg ho hG hb keepX WR PN AK X
        go_wp2
        go_roundw
        case rel =>
          refine .inr ⟨by first | rfl | go_num, A9, c9, A9', c9', DB.out.two _ _, O.out.two DB.out _ _, ?_, below_two B.out (by omega) _ _⟩
          exact (RS.out.away (by omega) 0 _).away (by omega) 1 _
        case measure => simp [intOf]
    · have O := Lib.hid hd
      have RS := Lib.hid hr
      have y0 := hx.cell 0
      have y1 := hx.cell 1
      have q0 := hr.cell 0
      have q1 := hr.cell 1
      have f0 := hr.free 0
      have f1 := hr.free 1
      simp only [List.getElem?_cons_zero, List.getElem?_cons_succ] at y0 y1 q0 q1
      have HB := Lib.hid hb
      clear hx hd hr hb WR PN X B
      go_wp2
      have r := RS.out.two (.slice A9 n c9) (.slice A9' (n' + 1) c9')
      have r0 := r.cell 0
      have r1 := r.cell 1
      simp only [List.getElem?_cons_zero, List.getElem?_cons_succ] at r0 r1
      refine bodyPost_ret (v := .tuple #[diskV A9 n c9 A9' (n' + 1) c9', .bool true]) ?_ rfl ⟨A9, c9, A9', c9', rfl, O.out.two RS.out _ _, below_two HB.out (by omega) _ _⟩
      clear y0 y1 q0 q1 f0 f1
      simp [results, Try.f19, go_sem, r0, r1]

set_option maxRecDepth 100000 in
set_option maxHeartbeats 12800000 in
theorem put_no (P T A M W Q : Int) (D : Option Addr) (n c : Nat) (D' : Option Addr) (n' c' : Nat) (S : List Sec) (C : List Pnd) (v a g : Int) (w : World) (hq : Dsk w D n c D' n' c' S C) (hs : SmallD S C) (hi : isS (v, a, g)) (h : spE P T A M W Q S C (v, a, g) = 0 → 64 ≤ C.length) :
    Calls Try.prog 19 #[cfgV P T A M W Q, diskV D n c D' n' c', supV v a g] w fun e w' => e = .returned (.tuple #[diskV D n c D' n' c', .bool false]) ∧ Below w.heap.size w w' := by
  obtain ⟨x0, hbel0⟩ := SBox.new P T A M W Q v a g hq
  obtain ⟨w0, hw0⟩ : ∃ x : World, x = ((w.alloc (.cells #[.int .i64 P, .int .i64 T, .int .i64 A, .int .i64 M, .int .i64 W, .int .i64 Q] 37)).alloc (.cells #[.slice D n c, .slice D' n' c'] 25)).alloc (.cells #[.int .u32 v, .int .i64 a, .int .u64 g] 31) := ⟨_, rfl⟩
  have hs0 : w0.heap.size = w.heap.size + 3 := by rw [hw0]; simp
  rw [← hw0] at x0 hbel0
  obtain ⟨x, hbel⟩ := PBox.of x0 hbel0 hs0
  obtain ⟨w1, hw1⟩ : ∃ x : World, x = w0.alloc (.cells #[.slice none 0 0, .slice none 0 0] 25) := ⟨_, rfl⟩
  rw [← hw1] at x hbel
  have X := Lib.hid x
  have B := Lib.hid hbel
  have hsl := hq.secs.len
  have hpl := hq.pnds.len
  have PL := Lib.hid (fun wx hx => splan_any P T A M W Q D n c D' n' c' S C v a g wx hx hs hi)
  unfold PlanOut at PL
  obtain ⟨c0, c1, c2, c3, c4, c5, d0, d1, q0, q1, q2⟩ := X.out.thr.cells
  by_cases h0 : spE P T A M W Q S C (v, a, g) = 0
  · have h64 := h h0
    have hC : C.length ≤ 64 := ((mayD_iff S C).1 (spE_zero h0).1.2.1).1.2.2
    rw [h0] at PL
    obtain ⟨pa, t, hp⟩ : ∃ pa t, (pa, t) = (spL P T A M W Q S C (v, a, g)).getD 0 (0, []) := ⟨_, _, rfl⟩
    obtain ⟨k1, k2, k3, k4, k5⟩ := put_next h0 hC hp
    rw [if_pos h64] at k1
    rw [k5] at PL
    have k6 : wrS S C pa t = [] := if_neg (by rw [k1]; decide)
    have k7 : wrC S C pa t = [] := if_neg (by rw [k1]; decide)
    obtain ⟨L, hL⟩ : ∃ L, L = spL P T A M W Q S C (v, a, g) := ⟨_, rfl⟩
    rw [← hL] at PL hp
    have HP := Lib.hid hp
    have WR := Lib.hid (fun wx Ap np cp hx (hr : Arg wx .u8 Ap np cp t) => (dsk_does.write D n c D' n' c' S C pa Ap np cp t wx hx hs hr k3 (by omega)).mono fun e w' ho => DiskOut.as ho (S' := []) (C' := []) (E' := 9) (n := 0) (n' := 0) k6 k7 k1 rfl rfl)
    clear x0 hbel0 x hbel hq hs hi h h0 h64 hC hsl hpl k1 k2 k3 k4 k5 k6 k7 hL hp hs0
    go_enter Try.func19, Try.ntmps19
    go_wp2_with fail
    rw [← hw0, ← hw1]
    clear hw0 hw1
    refine (PL.out _ X.out.thr.two.dsk.dsk).mono ?_
    rintro e w2 ⟨AL, cL, rfl, hown, hb⟩
    have PN := Lib.hid (Pnds.of_own hown)
    have B := Lib.hid (B.out.trans (hb.mono B.out.size))
    have X := Lib.hid (X.out.below hb)
    clear hb hown PL c0 c1 c2 c3 c4 c5 d0 d1 q0 q1 q2
    go_wp2
    go_loopw [10] (fun i wr => i = .int .i64 0 ∧ wr = w2) (fun i _ => 1 - (intOf i).toNat)
    case atStart => exact ⟨rfl, rfl⟩
    case round =>
      obtain ⟨rfl, rfl⟩ := hrel
      obtain ⟨bk, ok, Ak, nk, ck, rfl, hlt, p0, p1, hak⟩ := one_cells PN.out
      rw [← HP.out] at p0 hak
      dsimp only at p0 hak
      have AK := Lib.hid hak
      have keepX : ∀ wx, Below wr.heap.size wr wx → wx.cell? ⟨w.heap.size + 1, 0, none⟩ = some (.slice D n c) ∧ wx.cell? ⟨w.heap.size + 1, 1, none⟩ = some (.slice D' n' c') ∧ wx.cell? ⟨bk, ok, none⟩ = some (.int .i64 pa) ∧ wx.cell? ⟨bk, ok + 1, none⟩ = some (.slice Ak nk ck) := fun wx hx => by
        obtain ⟨_, _, _, _, _, _, d0, d1, _, _, _⟩ := (X.out.below hx).thr.cells
        exact ⟨d0, d1, (hx.cell (p := ⟨bk, ok, none⟩) hlt).trans p0, (hx.cell (p := ⟨bk, ok + 1, none⟩) hlt).trans p1⟩
      clear p0 p1 hak
      go_upto_region 7 with fail
      go_cut [11, 12] from 23 to 47 (fun x e wx => ∃ g : Nat, x = .pointer (some ⟨g, 0, none⟩) ∧ e = .int .i64 9 ∧ Below wr.heap.size wr wx)
      case first =>
        have hcur : Below wr.heap.size wr wr.drew := below_drewN (Below.refl _ _) 1
        have hkX := keepX _ hcur
        go_region_held3 (fun w' => w'.cell? ⟨w.heap.size + 1, 0, none⟩ = some (.slice D n c) ∧ w'.cell? ⟨w.heap.size + 1, 1, none⟩ = some (.slice D' n' c') ∧ w'.cell? ⟨bk, ok, none⟩ = some (.int .i64 pa) ∧ w'.cell? ⟨bk, ok + 1, none⟩ = some (.slice Ak nk ck))
          (first | exact hkX | exact keepX _ (below_drewN ((Below.refl _ _).alloc (Nat.le_refl _) _) 1) | exact keepX _ (hcur.alloc hcur.size _) | exact keepX _ ((hcur.setCell (p := ⟨_, 0, none⟩) hLL _).setCell (p := ⟨_, 1, none⟩) hLL _) | go_keep)
          (first
            | (go_at_call 11; with_reducible refine (WR.out wr.drew _ _ _ (X.out.below hcur).thr.two.dsk.dsk (AK.out.below hcur)).mono ?_; rintro e w3 ⟨A9, c9, A9', c9', rfl, hown, hb⟩; have hM := hcur.size; have hcur := hcur.trans (hb.mono hcur.size); have hkX := keepX _ hcur)
            | (go_at_call 11; have hLL := Nat.le_refl wr.heap.size; have hcur : Below wr.heap.size wr (wr.alloc (.cells #[.slice none 0 0, .slice none 0 0] 25)).drew := below_drewN ((Below.refl _ _).alloc (Nat.le_refl _) _) 1; have hZ0 := Blk.new wr 25 [.slice none 0 0, .slice none 0 0]; have hZ := hZ0.below (below_drewN (Below.refl _ _) 1) hZ0.lt; with_reducible refine (WR.out _ _ _ _ (X.out.below hcur).thr.two.dsk.dsk (AK.out.below hcur)).mono ?_; rintro e w3 ⟨A9, c9, A9', c9', rfl, hown, hb⟩; have hM := hcur.size; have hZ := hZ.below hb hZ.lt; have hcur := hcur.trans (hb.mono hcur.size); have hkX := keepX _ hcur; have z0 := hZ.cell 0; have z1 := hZ.cell 1; have g0 := hZ.free 0; have g1 := hZ.free 1; simp only [List.getElem?_cons_zero, List.getElem?_cons_succ] at z0 z1))
        all_goals (go_wp2_with fail; go_meet)
        all_goals first
          | exact ⟨_, rfl, rfl, hcur.alloc hcur.size _⟩
          | exact ⟨_, rfl, rfl, ((hcur.setCell (p := ⟨_, 0, none⟩) hLL _).setCell (p := ⟨_, 1, none⟩) hLL _)⟩
      case rest =>
        obtain ⟨G, rfl, rfl, hb⟩ := hcut
        have B := Lib.hid (B.out.trans (hb.mono B.out.size))
        have X := Lib.hid (X.out.below hb)
        have RS := Lib.hid X.out.res
        obtain ⟨d0, d1⟩ := X.out.thr.two.dsk.cells
        have q0 := RS.out.cell 0
        have q1 := RS.out.cell 1
        have f0 := RS.out.free 0
        have f1 := RS.out.free 1
        simp only [List.getElem?_cons_zero, List.getElem?_cons_succ] at q0 q1
        clear hb keepX WR PN AK X
        go_wp2
        have r := RS.out.two (.slice D n c) (.slice D' n' c')
        have r0 := r.cell 0
        have r1 := r.cell 1
        simp only [List.getElem?_cons_zero, List.getElem?_cons_succ] at r0 r1
        refine bodyPost_ret (v := .tuple #[diskV D n c D' n' c', .bool false]) ?_ rfl ⟨rfl, below_two B.out (by omega) _ _⟩
        clear d0 d1 q0 q1 f0 f1
        simp [results, Try.f19, go_sem, r0, r1]
  · obtain ⟨E, hE⟩ : ∃ E, E = spE P T A M W Q S C (v, a, g) := ⟨_, rfl⟩
    rw [← hE] at PL h0
    have h1 : (E != 0) = true := bne_iff_ne.2 h0
    obtain ⟨m, hm⟩ : ∃ m, m = (spL P T A M W Q S C (v, a, g)).length := ⟨_, rfl⟩
    rw [← hm] at PL
    clear x0 hbel0 x hbel hq hs hi h h0 hsl hpl hs0 hE hm
    go_enter Try.func19, Try.ntmps19
    go_wp2_with fail
    rw [← hw0, ← hw1]
    clear hw0 hw1
    refine (PL.out _ X.out.thr.two.dsk.dsk).mono ?_
    rintro e w2 ⟨AL, cL, rfl, hown, hb⟩
    have B := Lib.hid (B.out.trans (hb.mono B.out.size))
    have X := Lib.hid (X.out.below hb)
    clear hb hown PL c0 c1 c2 c3 c4 c5 d0 d1 q0 q1 q2
    have RS := Lib.hid X.out.res
    obtain ⟨d0, d1⟩ := X.out.thr.two.dsk.cells
    have q0 := RS.out.cell 0
    have q1 := RS.out.cell 1
    have f0 := RS.out.free 0
    have f1 := RS.out.free 1
    simp only [List.getElem?_cons_zero, List.getElem?_cons_succ] at q0 q1
    clear X
    go_wp2
    have r := RS.out.two (.slice D n c) (.slice D' n' c')
    have r0 := r.cell 0
    have r1 := r.cell 1
    simp only [List.getElem?_cons_zero, List.getElem?_cons_succ] at r0 r1
    refine bodyPost_ret (v := .tuple #[diskV D n c D' n' c', .bool false]) ?_ rfl ⟨rfl, below_two B.out (by omega) _ _⟩
    clear d0 d1 q0 q1 f0 f1
    simp [results, Try.f19, go_sem, r0, r1]

end Go.Proofs.Ytncnppffllfbeaa
