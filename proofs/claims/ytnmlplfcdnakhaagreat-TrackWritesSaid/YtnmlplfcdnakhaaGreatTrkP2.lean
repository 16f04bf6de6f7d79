/- Layer 8: the program's volumeOf, track, Read. -/
import Derived.Test.YtnmlplfcdnakhaaGreatTrkP
namespace Go.Proofs.YtnmlplfcdnakhaaGreat
open Go.RowKit
set_option linter.unusedVariables false

/-- A box of nine cells written whole. -/
theorem Blk.nine {w : World} {g : Nat} {t : TypeId} {u0 u1 u2 u3 u4 u5 u6 u7 u8 : Value} (h : Blk w g t [u0, u1, u2, u3, u4, u5, u6, u7, u8]) (v0 v1 v2 v3 v4 v5 v6 v7 v8 : Value) :
    Blk (((((((((w.setCell ⟨g, 0, none⟩ v0).setCell ⟨g, 1, none⟩ v1).setCell ⟨g, 2, none⟩ v2).setCell ⟨g, 3, none⟩ v3).setCell ⟨g, 4, none⟩ v4).setCell ⟨g, 5, none⟩ v5).setCell ⟨g, 6, none⟩ v6).setCell ⟨g, 7, none⟩ v7).setCell ⟨g, 8, none⟩ v8) g t [v0, v1, v2, v3, v4, v5, v6, v7, v8] :=
  ((((((((h.set 0 v0).set 1 v1).set 2 v2).set 3 v3).set 4 v4).set 5 v5).set 6 v6).set 7 v7).set 8 v8

set_option maxRecDepth 100000 in
set_option maxHeartbeats 6400000 in
theorem volumeOf_yes (P T A M W Q : Int) (D : Option Addr) (n c : Nat) (D' : Option Addr) (n' c' : Nat) (S : List Sec) (C : List Pnd) (p : Int) (w : World) (hq : Dsk w D n c D' n' c' S C) (hs : SmallD S C) (hm : mayT P T A M W Q S C) :
    Calls Tryz.prog 20 #[cfgV P T A M W Q, diskV D n c D' n' c', .int .i64 p] w fun e w' => e = .returned (.tuple #[volV P T A M W Q D n c D' n' c' p, .int .i64 0]) ∧ Below w.heap.size w w' := by
  obtain ⟨x, hbel⟩ := TBox.new P T A M W Q hq
  obtain ⟨w0, hw0⟩ : ∃ x : World, x = (w.alloc (.cells #[.int .i64 P, .int .i64 T, .int .i64 A, .int .i64 M, .int .i64 W, .int .i64 Q] 23)).alloc (.cells #[.slice D n c, .slice D' n' c'] 27) := ⟨_, rfl⟩
  have hsz : w0.heap.size = w.heap.size + 1 + 1 := by rw [hw0]; simp
  rw [← hw0] at x hbel
  have y := Blk.new w0 57 [.int .i64 0, .int .i64 0, .int .i64 0, .int .i64 0, .int .i64 0, .int .i64 0, .slice none 0 0, .slice none 0 0, .int .i64 0]
  rw [hsz] at y
  have hb2 : Below w0.heap.size w0 (w0.alloc (.cells #[.int .i64 0, .int .i64 0, .int .i64 0, .int .i64 0, .int .i64 0, .int .i64 0, .slice none 0 0, .slice none 0 0, .int .i64 0] 57)) := (Below.refl _ _).alloc (Nat.le_refl _) _
  obtain ⟨w1, hw1⟩ : ∃ x : World, x = w0.alloc (.cells #[.int .i64 0, .int .i64 0, .int .i64 0, .int .i64 0, .int .i64 0, .int .i64 0, .slice none 0 0, .slice none 0 0, .int .i64 0] 57) := ⟨_, rfl⟩
  rw [← hw1] at y hb2
  have X := Lib.hid (x.below hb2)
  have Y := Lib.hid y
  have B := Lib.hid (hbel.trans (hb2.mono hbel.size))
  have CK := Lib.hid (fun wx hx => tcheck_any P T A M W Q D n c D' n' c' S C wx hx hs)
  rw [show tcE P T A M W Q S C = 0 from if_pos hm] at CK
  obtain ⟨c0, c1, c2, c3, c4, c5, d0, d1⟩ := X.out.cells
  clear hq hs x y hbel hb2 hm hsz
  go_enter Tryz.func20, Tryz.ntmps20
  go_wp2_with fail
  rw [← hw0, ← hw1]
  clear hw0 hw1
  refine (CK.out _ X.out.dsk.dsk).mono ?_
  rintro e w2 ⟨rfl, hb⟩
  have B := Lib.hid (B.out.trans (hb.mono B.out.size))
  have X := Lib.hid (X.out.below hb)
  have Y := Lib.hid (Y.out.below hb Y.out.lt)
  clear hb c0 c1 c2 c3 c4 c5 d0 d1 CK
  obtain ⟨c0, c1, c2, c3, c4, c5, d0, d1⟩ := X.out.cells
  obtain ⟨v0, v1, v2, v3, v4, v5, v6, v7, v8⟩ := Y.out.vol
  have f0 := Y.out.free 0
  have f1 := Y.out.free 1
  have f2 := Y.out.free 2
  have f3 := Y.out.free 3
  have f4 := Y.out.free 4
  have f5 := Y.out.free 5
  have f6 := Y.out.free 6
  have f7 := Y.out.free 7
  have f8 := Y.out.free 8
  have hG : w.heap.size ≤ w.heap.size + 1 + 1 := by omega
  have Z := Lib.hid (Y.out.nine (.int .i64 P) (.int .i64 T) (.int .i64 A) (.int .i64 M) (.int .i64 W) (.int .i64 Q) (.slice D n c) (.slice D' n' c') (.int .i64 p))
  have BF := Lib.hid ((((((((((B.out.setCell (p := ⟨w.heap.size + 1 + 1, 0, none⟩) hG (.int .i64 P)).setCell (p := ⟨w.heap.size + 1 + 1, 1, none⟩) hG (.int .i64 T)).setCell (p := ⟨w.heap.size + 1 + 1, 2, none⟩) hG (.int .i64 A)).setCell (p := ⟨w.heap.size + 1 + 1, 3, none⟩) hG (.int .i64 M)).setCell (p := ⟨w.heap.size + 1 + 1, 4, none⟩) hG (.int .i64 W)).setCell (p := ⟨w.heap.size + 1 + 1, 5, none⟩) hG (.int .i64 Q)).setCell (p := ⟨w.heap.size + 1 + 1, 6, none⟩) hG (.slice D n c)).setCell (p := ⟨w.heap.size + 1 + 1, 7, none⟩) hG (.slice D' n' c')).setCell (p := ⟨w.heap.size + 1 + 1, 8, none⟩) hG (.int .i64 p)))
  clear X B
  go_wp2
  obtain ⟨r0, r1, r2, r3, r4, r5, r6, r7, r8⟩ := Z.out.vol
  refine bodyPost_ret (v := .tuple #[volV P T A M W Q D n c D' n' c' p, .int .i64 0]) ?_ rfl ⟨rfl, BF.out⟩
  clear v0 v1 v2 v3 v4 v5 v6 v7 v8 f0 f1 f2 f3 f4 f5 f6 f7 f8 Y
  simp [results, Tryz.f20, go_sem, r0, r1, r2, r3, r4, r5, r6, r7, r8]

set_option maxRecDepth 100000 in
set_option maxHeartbeats 6400000 in
theorem volumeOf_no (P T A M W Q : Int) (D : Option Addr) (n c : Nat) (D' : Option Addr) (n' c' : Nat) (S : List Sec) (C : List Pnd) (p : Int) (w : World) (hq : Dsk w D n c D' n' c' S C) (hs : SmallD S C) (hm : ¬ mayT P T A M W Q S C) :
    Calls Tryz.prog 20 #[cfgV P T A M W Q, diskV D n c D' n' c', .int .i64 p] w fun e w' => e = .returned (.tuple #[volV 0 0 0 0 0 0 none 0 0 none 0 0 0, .int .i64 8]) ∧ Below w.heap.size w w' := by
  obtain ⟨x, hbel⟩ := TBox.new P T A M W Q hq
  obtain ⟨w0, hw0⟩ : ∃ x : World, x = (w.alloc (.cells #[.int .i64 P, .int .i64 T, .int .i64 A, .int .i64 M, .int .i64 W, .int .i64 Q] 23)).alloc (.cells #[.slice D n c, .slice D' n' c'] 27) := ⟨_, rfl⟩
  have hsz : w0.heap.size = w.heap.size + 1 + 1 := by rw [hw0]; simp
  rw [← hw0] at x hbel
  have y := Blk.new w0 57 [.int .i64 0, .int .i64 0, .int .i64 0, .int .i64 0, .int .i64 0, .int .i64 0, .slice none 0 0, .slice none 0 0, .int .i64 0]
  rw [hsz] at y
  have hb2 : Below w0.heap.size w0 (w0.alloc (.cells #[.int .i64 0, .int .i64 0, .int .i64 0, .int .i64 0, .int .i64 0, .int .i64 0, .slice none 0 0, .slice none 0 0, .int .i64 0] 57)) := (Below.refl _ _).alloc (Nat.le_refl _) _
  obtain ⟨w1, hw1⟩ : ∃ x : World, x = w0.alloc (.cells #[.int .i64 0, .int .i64 0, .int .i64 0, .int .i64 0, .int .i64 0, .int .i64 0, .slice none 0 0, .slice none 0 0, .int .i64 0] 57) := ⟨_, rfl⟩
  rw [← hw1] at y hb2
  have X := Lib.hid (x.below hb2)
  have Y := Lib.hid y
  have B := Lib.hid (hbel.trans (hb2.mono hbel.size))
  have CK := Lib.hid (fun wx hx => tcheck_any P T A M W Q D n c D' n' c' S C wx hx hs)
  rw [show tcE P T A M W Q S C = 8 from if_neg hm] at CK
  obtain ⟨c0, c1, c2, c3, c4, c5, d0, d1⟩ := X.out.cells
  clear hq hs x y hbel hb2 hm hsz
  go_enter Tryz.func20, Tryz.ntmps20
  go_wp2_with fail
  rw [← hw0, ← hw1]
  clear hw0 hw1
  refine (CK.out _ X.out.dsk.dsk).mono ?_
  rintro e w2 ⟨rfl, hb⟩
  have B := Lib.hid (B.out.trans (hb.mono B.out.size))
  have X := Lib.hid (X.out.below hb)
  have Y := Lib.hid (Y.out.below hb Y.out.lt)
  clear hb c0 c1 c2 c3 c4 c5 d0 d1 CK
  obtain ⟨c0, c1, c2, c3, c4, c5, d0, d1⟩ := X.out.cells
  obtain ⟨v0, v1, v2, v3, v4, v5, v6, v7, v8⟩ := Y.out.vol
  have f0 := Y.out.free 0
  have f1 := Y.out.free 1
  have f2 := Y.out.free 2
  have f3 := Y.out.free 3
  have f4 := Y.out.free 4
  have f5 := Y.out.free 5
  have f6 := Y.out.free 6
  have f7 := Y.out.free 7
  have f8 := Y.out.free 8
  have hG : w.heap.size ≤ w.heap.size + 1 + 1 := by omega
  have Z := Lib.hid (Y.out.nine (.int .i64 0) (.int .i64 0) (.int .i64 0) (.int .i64 0) (.int .i64 0) (.int .i64 0) (.slice none 0 0) (.slice none 0 0) (.int .i64 0))
  have BF := Lib.hid ((((((((((B.out.setCell (p := ⟨w.heap.size + 1 + 1, 0, none⟩) hG (.int .i64 0)).setCell (p := ⟨w.heap.size + 1 + 1, 1, none⟩) hG (.int .i64 0)).setCell (p := ⟨w.heap.size + 1 + 1, 2, none⟩) hG (.int .i64 0)).setCell (p := ⟨w.heap.size + 1 + 1, 3, none⟩) hG (.int .i64 0)).setCell (p := ⟨w.heap.size + 1 + 1, 4, none⟩) hG (.int .i64 0)).setCell (p := ⟨w.heap.size + 1 + 1, 5, none⟩) hG (.int .i64 0)).setCell (p := ⟨w.heap.size + 1 + 1, 6, none⟩) hG (.slice none 0 0)).setCell (p := ⟨w.heap.size + 1 + 1, 7, none⟩) hG (.slice none 0 0)).setCell (p := ⟨w.heap.size + 1 + 1, 8, none⟩) hG (.int .i64 0)))
  clear X B
  go_wp2
  obtain ⟨r0, r1, r2, r3, r4, r5, r6, r7, r8⟩ := Z.out.vol
  refine bodyPost_ret (v := .tuple #[volV 0 0 0 0 0 0 none 0 0 none 0 0 0, .int .i64 8]) ?_ rfl ⟨rfl, BF.out⟩
  clear v0 v1 v2 v3 v4 v5 v6 v7 v8 f0 f1 f2 f3 f4 f5 f6 f7 f8 Y
  simp [results, Tryz.f20, go_sem, r0, r1, r2, r3, r4, r5, r6, r7, r8]

def vtE (P T A : Int) (S : List Sec) (C : List Pnd) (p k : Int) : Int := if isT P T p k then tkE S C (atT P T A p k) else 80
def vtB (P T A : Int) (S : List Sec) (C : List Pnd) (p k : Int) : Txt := if isT P T p k then tkB S C (atT P T A p k) else []
/-- A made row of noughts. -/
theorem made28 (w : World) : (Instr.makeSlice 28 (.int .i64 28) (.int .i64 28)).run Tryz.prog w = .ok (.slice (some ⟨w.heap.size, 0, none⟩) 28 28) (w.alloc (.cells (ints .u8 (List.replicate 28 0)).toArray 5)) ∧
    (w.alloc (.cells (ints .u8 (List.replicate 28 0)).toArray 5)).ownsRow w.heap.size 5 1 (.slice (some ⟨w.heap.size, 0, none⟩) 28 28) 28 (ints .u8 (List.replicate 28 0)) ∧ Below w.heap.size w (w.alloc (.cells (ints .u8 (List.replicate 28 0)).toArray 5)) := by
  obtain ⟨i0, hi0, hz0, hz1, hz2⟩ := info_parts byte_info
  have hmk := run_make1 (P := Tryz.prog) 28 5 i0 _ Tryz.underlying28 hi0 hz0 hz1 rfl 28 (by rw [hz2]; decide) (by decide) w
  have hrep : rep 28 (.int .u8 0) = (ints .u8 (List.replicate 28 0)).toArray := by simp [rep, ints]
  rw [hrep] at hmk
  have hbel : Below w.heap.size w (w.alloc (.cells (ints .u8 (List.replicate 28 0)).toArray 5)) := (Below.refl _ _).alloc (Nat.le_refl _) _
  exact ⟨hmk, (Blk.new w 5 (ints .u8 (List.replicate 28 0))).owns (Nat.le_refl _) (by simp [ints]) (by decide), hbel⟩

end Go.Proofs.YtnmlplfcdnakhaaGreat
