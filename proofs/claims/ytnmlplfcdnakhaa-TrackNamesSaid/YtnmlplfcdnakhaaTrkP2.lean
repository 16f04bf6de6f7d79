/- Layer 8: the program's volumeOf, track, Read. -/
import Derived.Test.YtnmlplfcdnakhaaTrkP
namespace Go.Proofs.Ytnmlplfcdnakhaa
open Go.RowKit
set_option linter.unusedVariables false

/-- A box of nine cells written whole. -/
theorem Blk.nine {w : World} {g : Nat} {t : TypeId} {u0 u1 u2 u3 u4 u5 u6 u7 u8 : Value} (h : Blk w g t [u0, u1, u2, u3, u4, u5, u6, u7, u8]) (v0 v1 v2 v3 v4 v5 v6 v7 v8 : Value) :
    Blk (((((((((w.setCell ⟨g, 0, none⟩ v0).setCell ⟨g, 1, none⟩ v1).setCell ⟨g, 2, none⟩ v2).setCell ⟨g, 3, none⟩ v3).setCell ⟨g, 4, none⟩ v4).setCell ⟨g, 5, none⟩ v5).setCell ⟨g, 6, none⟩ v6).setCell ⟨g, 7, none⟩ v7).setCell ⟨g, 8, none⟩ v8) g t [v0, v1, v2, v3, v4, v5, v6, v7, v8] :=
  ((((((((h.set 0 v0).set 1 v1).set 2 v2).set 3 v3).set 4 v4).set 5 v5).set 6 v6).set 7 v7).set 8 v8

set_option maxRecDepth 100000 in
set_option maxHeartbeats 6400000 in
theorem volumeOf_yes (P T A M W Q : Int) (D : Option Addr) (n c : Nat) (D' : Option Addr) (n' c' : Nat) (S : List Sec) (C : List Pnd) (p : Int) (w : World) (hq : Dsk w D n c D' n' c' S C) (hs : SmallD S C) (hm : mayT P T A M W Q S C) :
    Calls Try.prog 126 #[cfgV P T A M W Q, diskV D n c D' n' c', .int .i64 p] w fun e w' => e = .returned (.tuple #[volV P T A M W Q D n c D' n' c' p, .int .i64 0]) ∧ Below w.heap.size w w' := by
  obtain ⟨x, hbel⟩ := TBox.new P T A M W Q hq
  obtain ⟨w0, hw0⟩ : ∃ x : World, x = (w.alloc (.cells #[.int .i64 P, .int .i64 T, .int .i64 A, .int .i64 M, .int .i64 W, .int .i64 Q] 74)).alloc (.cells #[.slice D n c, .slice D' n' c'] 32) := ⟨_, rfl⟩
  have hsz : w0.heap.size = w.heap.size + 1 + 1 := by rw [hw0]; simp
  rw [← hw0] at x hbel
  have y := Blk.new w0 169 [.int .i64 0, .int .i64 0, .int .i64 0, .int .i64 0, .int .i64 0, .int .i64 0, .slice none 0 0, .slice none 0 0, .int .i64 0]
  rw [hsz] at y
  have hb2 : Below w0.heap.size w0 (w0.alloc (.cells #[.int .i64 0, .int .i64 0, .int .i64 0, .int .i64 0, .int .i64 0, .int .i64 0, .slice none 0 0, .slice none 0 0, .int .i64 0] 169)) := (Below.refl _ _).alloc (Nat.le_refl _) _
  obtain ⟨w1, hw1⟩ : ∃ x : World, x = w0.alloc (.cells #[.int .i64 0, .int .i64 0, .int .i64 0, .int .i64 0, .int .i64 0, .int .i64 0, .slice none 0 0, .slice none 0 0, .int .i64 0] 169) := ⟨_, rfl⟩
  rw [← hw1] at y hb2
  have X := Lib.hid (x.below hb2)
  have Y := Lib.hid y
  have B := Lib.hid (hbel.trans (hb2.mono hbel.size))
  have CK := Lib.hid (fun wx hx => tcheck_any P T A M W Q D n c D' n' c' S C wx hx hs)
  rw [show tcE P T A M W Q S C = 0 from if_pos hm] at CK
  obtain ⟨c0, c1, c2, c3, c4, c5, d0, d1⟩ := X.out.cells
  clear hq hs x y hbel hb2 hm hsz
  go_enter Try.func126, Try.ntmps126
  go_wp2_with fail
  rw [← hw0, ← hw1]
  clear hw0 hw1
  refine (CK.out _ X.out.dsk.dsk).mono ?_
  rintro e w2 ⟨rfl, hb⟩
  have B := Lib.hid (B.out.trans (hb.mono B.out.size))
  have X := Lib.hid (X.out.below hb)
  have Y := Lib.hid (Y.out.below hb Y.out.lt)
  clear hb c0 c1 c2 c3 c4 c5 d0 d1 CK
  obtain ⟨c0, c1, c2, c3, c4, c5, d0, d1⟩ := X.out.cells
  obtain ⟨v0, v1, v2, v3, v4, v5, v6, v7, v8⟩ := Y.out.vol
  have f0 := Y.out.free 0
  have f1 := Y.out.free 1
  have f2 := Y.out.free 2
  have f3 := Y.out.free 3
  have f4 := Y.out.free 4
  have f5 := Y.out.free 5
  have f6 := Y.out.free 6
  have f7 := Y.out.free 7
  have f8 := Y.out.free 8
  have hG : w.heap.size ≤ w.heap.size + 1 + 1 := by omega
  have Z := Lib.hid (Y.out.nine (.int .i64 P) (.int .i64 T) (.int .i64 A) (.int .i64 M) (.int .i64 W) (.int .i64 Q) (.slice D n c) (.slice D' n' c') (.int .i64 p))
  have BF := Lib.hid ((((((((((B.out.setCell (p := ⟨w.heap.size + 1 + 1, 0, none⟩) hG (.int .i64 P)).setCell (p := ⟨w.heap.size + 1 + 1, 1, none⟩) hG (.int .i64 T)).setCell (p := ⟨w.heap.size + 1 + 1, 2, none⟩) hG (.int .i64 A)).setCell (p := ⟨w.heap.size + 1 + 1, 3, none⟩) hG (.int .i64 M)).setCell (p := ⟨w.heap.size + 1 + 1, 4, none⟩) hG (.int .i64 W)).setCell (p := ⟨w.heap.size + 1 + 1, 5, none⟩) hG (.int .i64 Q)).setCell (p := ⟨w.heap.size + 1 + 1, 6, none⟩) hG (.slice D n c)).setCell (p := ⟨w.heap.size + 1 + 1, 7, none⟩) hG (.slice D' n' c')).setCell (p := ⟨w.heap.size + 1 + 1, 8, none⟩) hG (.int .i64 p)))
  clear X B
  go_wp2
  obtain ⟨r0, r1, r2, r3, r4, r5, r6, r7, r8⟩ := Z.out.vol
  refine bodyPost_ret (v := .tuple #[volV P T A M W Q D n c D' n' c' p, .int .i64 0]) ?_ rfl ⟨rfl, BF.out⟩
  clear v0 v1 v2 v3 v4 v5 v6 v7 v8 f0 f1 f2 f3 f4 f5 f6 f7 f8 Y
  simp [results, Try.f126, go_sem, r0, r1, r2, r3, r4, r5, r6, r7, r8]

set_option maxRecDepth 100000 in
set_option maxHeartbeats 6400000 in
theorem volumeOf_no (P T A M W Q : Int) (D : Option Addr) (n c : Nat) (D' : Option Addr) (n' c' : Nat) (S : List Sec) (C : List Pnd) (p : Int) (w : World) (hq : Dsk w D n c D' n' c' S C) (hs : SmallD S C) (hm : ¬ mayT P T A M W Q S C) :
    Calls Try.prog 126 #[cfgV P T A M W Q, diskV D n c D' n' c', .int .i64 p] w fun e w' => e = .returned (.tuple #[volV 0 0 0 0 0 0 none 0 0 none 0 0 0, .int .i64 8]) ∧ Below w.heap.size w w' := by
  obtain ⟨x, hbel⟩ := TBox.new P T A M W Q hq
  obtain ⟨w0, hw0⟩ : ∃ x : World, x = (w.alloc (.cells #[.int .i64 P, .int .i64 T, .int .i64 A, .int .i64 M, .int .i64 W, .int .i64 Q] 74)).alloc (.cells #[.slice D n c, .slice D' n' c'] 32) := ⟨_, rfl⟩
  have hsz : w0.heap.size = w.heap.size + 1 + 1 := by rw [hw0]; simp
  rw [← hw0] at x hbel
  have y := Blk.new w0 169 [.int .i64 0, .int .i64 0, .int .i64 0, .int .i64 0, .int .i64 0, .int .i64 0, .slice none 0 0, .slice none 0 0, .int .i64 0]
  rw [hsz] at y
  have hb2 : Below w0.heap.size w0 (w0.alloc (.cells #[.int .i64 0, .int .i64 0, .int .i64 0, .int .i64 0, .int .i64 0, .int .i64 0, .slice none 0 0, .slice none 0 0, .int .i64 0] 169)) := (Below.refl _ _).alloc (Nat.le_refl _) _
  obtain ⟨w1, hw1⟩ : ∃ x : World, x = w0.alloc (.cells #[.int .i64 0, .int .i64 0, .int .i64 0, .int .i64 0, .int .i64 0, .int .i64 0, .slice none 0 0, .slice none 0 0, .int .i64 0] 169) := ⟨_, rfl⟩
  rw [← hw1] at y hb2
  have X := Lib.hid (x.below hb2)
  have Y := Lib.hid y
  have B := Lib.hid (hbel.trans (hb2.mono hbel.size))
  have CK := Lib.hid (fun wx hx => tcheck_any P T A M W Q D n c D' n' c' S C wx hx hs)
  rw [show tcE P T A M W Q S C = 8 from if_neg hm] at CK
  obtain ⟨c0, c1, c2, c3, c4, c5, d0, d1⟩ := X.out.cells
  clear hq hs x y hbel hb2 hm hsz
  go_enter Try.func126, Try.ntmps126
  go_wp2_with fail
  rw [← hw0, ← hw1]
  clear hw0 hw1
  refine (CK.out _ X.out.dsk.dsk).mono ?_
  rintro e w2 ⟨rfl, hb⟩
  have B := Lib.hid (B.out.trans (hb.mono B.out.size))
  have X := Lib.hid (X.out.below hb)
  have Y := Lib.hid (Y.out.below hb Y.out.lt)
  clear hb c0 c1 c2 c3 c4 c5 d0 d1 CK
  obtain ⟨c0, c1, c2, c3, c4, c5, d0, d1⟩ := X.out.cells
  obtain ⟨v0, v1, v2, v3, v4, v5, v6, v7, v8⟩ := Y.out.vol
  have f0 := Y.out.free 0
  have f1 := Y.out.free 1
  have f2 := Y.out.free 2
  have f3 := Y.out.free 3
  have f4 := Y.out.free 4
  have f5 := Y.out.free 5
  have f6 := Y.out.free 6
  have f7 := Y.out.free 7
  have f8 := Y.out.free 8
  have hG : w.heap.size ≤ w.heap.size + 1 + 1 := by omega
  have Z := Lib.hid (Y.out.nine (.int .i64 0) (.int .i64 0) (.int .i64 0) (.int .i64 0) (.int .i64 0) (.int .i64 0) (.slice none 0 0) (.slice none 0 0) (.int .i64 0))
  have BF := Lib.hid ((((((((((B.out.setCell (p := ⟨w.heap.size + 1 + 1, 0, none⟩) hG (.int .i64 0)).setCell (p := ⟨w.heap.size + 1 + 1, 1, none⟩) hG (.int .i64 0)).setCell (p := ⟨w.heap.size + 1 + 1, 2, none⟩) hG (.int .i64 0)).setCell (p := ⟨w.heap.size + 1 + 1, 3, none⟩) hG (.int .i64 0)).setCell (p := ⟨w.heap.size + 1 + 1, 4, none⟩) hG (.int .i64 0)).setCell (p := ⟨w.heap.size + 1 + 1, 5, none⟩) hG (.int .i64 0)).setCell (p := ⟨w.heap.size + 1 + 1, 6, none⟩) hG (.slice none 0 0)).setCell (p := ⟨w.heap.size + 1 + 1, 7, none⟩) hG (.slice none 0 0)).setCell (p := ⟨w.heap.size + 1 + 1, 8, none⟩) hG (.int .i64 0)))
  clear X B
  go_wp2
  obtain ⟨r0, r1, r2, r3, r4, r5, r6, r7, r8⟩ := Z.out.vol
  refine bodyPost_ret (v := .tuple #[volV 0 0 0 0 0 0 none 0 0 none 0 0 0, .int .i64 8]) ?_ rfl ⟨rfl, BF.out⟩
  clear v0 v1 v2 v3 v4 v5 v6 v7 v8 f0 f1 f2 f3 f4 f5 f6 f7 f8 Y
  simp [results, Try.f126, go_sem, r0, r1, r2, r3, r4, r5, r6, r7, r8]

def vtE (P T A : Int) (S : List Sec) (C : List Pnd) (p k : Int) : Int := if isT P T p k then tkE S C (atT P T A p k) else 80
def vtB (P T A : Int) (S : List Sec) (C : List Pnd) (p k : Int) : Txt := if isT P T p k then tkB S C (atT P T A p k) else []
/-- A made row of noughts. -/
theorem made28 (w : World) : (Instr.makeSlice 22 (.int .i64 28) (.int .i64 28)).run Try.prog w = .ok (.slice (some ⟨w.heap.size, 0, none⟩) 28 28) (w.alloc (.cells (ints .u8 (List.replicate 28 0)).toArray 5)) ∧
    (w.alloc (.cells (ints .u8 (List.replicate 28 0)).toArray 5)).ownsRow w.heap.size 5 1 (.slice (some ⟨w.heap.size, 0, none⟩) 28 28) 28 (ints .u8 (List.replicate 28 0)) ∧ Below w.heap.size w (w.alloc (.cells (ints .u8 (List.replicate 28 0)).toArray 5)) := by
  obtain ⟨i0, hi0, hz0, hz1, hz2⟩ := info_parts byte_info
  have hmk := run_make1 (P := Try.prog) 22 5 i0 _ Try.underlying22 hi0 hz0 hz1 rfl 28 (by rw [hz2]; decide) (by decide) w
  have hrep : rep 28 (.int .u8 0) = (ints .u8 (List.replicate 28 0)).toArray := by simp [rep, ints]
  rw [hrep] at hmk
  have hbel : Below w.heap.size w (w.alloc (.cells (ints .u8 (List.replicate 28 0)).toArray 5)) := (Below.refl _ _).alloc (Nat.le_refl _) _
  exact ⟨hmk, (Blk.new w 5 (ints .u8 (List.replicate 28 0))).owns (Nat.le_refl _) (by simp [ints]) (by decide), hbel⟩

set_option maxRecDepth 100000 in
set_option maxHeartbeats 6400000 in
theorem track_any (P T A M W Q : Int) (D : Option Addr) (n c : Nat) (D' : Option Addr) (n' c' : Nat) (S : List Sec) (C : List Pnd) (p k : Int) (w : World) (hq : Dsk w D n c D' n' c' S C) (hs : SmallD S C) (hm : mayT P T A M W Q S C) :
    Calls Try.prog 127 #[volV P T A M W Q D n c D' n' c' p, .int .i64 k] w (RowOut .u8 5 w (vtB P T A S C p k) (vtE P T A S C p k)) := by
  have x := VBox.new P T A M W Q p hq
  have hbel : Below w.heap.size w (w.alloc (.cells #[.int .i64 P, .int .i64 T, .int .i64 A, .int .i64 M, .int .i64 W, .int .i64 Q, .slice D n c, .slice D' n' c', .int .i64 p] 169)) := (Below.refl _ _).alloc (Nat.le_refl _) _
  obtain ⟨w1, hw1⟩ : ∃ x : World, x = w.alloc (.cells #[.int .i64 P, .int .i64 T, .int .i64 A, .int .i64 M, .int .i64 W, .int .i64 Q, .slice D n c, .slice D' n' c', .int .i64 p] 169) := ⟨_, rfl⟩
  rw [← hw1] at x hbel
  have X := Lib.hid x
  have B := Lib.hid hbel
  obtain ⟨v0, v1, v2, v3, v4, v5, v6, v7, v8⟩ := x.blk.vol
  have SE := Lib.hid (fun w' : World => vsec_any P T A M W Q D n c D' n' c' p k w' hm.1)
  unfold vtB vtE
  by_cases hi : isT P T p k
  · rw [show saN P T A p k = atT P T A p k from if_pos hi, show saE P T p k = 0 from if_pos hi] at SE
    rw [if_pos hi, if_pos hi]
    have hcE := cell_at hm hi
    have RD := Lib.hid (fun wx hx => cread_any D n c D' n' c' S C (atT P T A p k) 2 wx hx hs)
    have hby := crB_byte (S := S) (C := C) hq.secs.byte hq.pnds.byte (atT P T A p k) 2
    unfold tkE tkB
    unfold CRead at RD
    have hE : crE S C (atT P T A p k) 2 = 0 ∨ crE S C (atT P T A p k) 2 = 6 := by
      unfold crE
      rw [if_pos hcE]
      split
      · exact .inr rfl
      · exact .inl rfl
    obtain ⟨a, ha⟩ : ∃ a, a = atT P T A p k := ⟨_, rfl⟩
    rw [← ha] at SE RD hE hby ⊢
    obtain ⟨v, hv⟩ : ∃ v, v = crV S C a 2 := ⟨_, rfl⟩
    obtain ⟨t, ht⟩ : ∃ t, t = crB S C a 2 := ⟨_, rfl⟩
    obtain ⟨E, hEE⟩ : ∃ t, t = crE S C a 2 := ⟨_, rfl⟩
    rw [← hv, ← ht, ← hEE] at RD
    rw [← ht] at hby ⊢
    rw [← hEE] at hE ⊢
    clear hv ht hEE ha hcE hi hq hs hm x hbel
    rcases hE with rfl | rfl
    · rw [if_pos rfl, if_pos rfl]
      obtain ⟨L, hL⟩ : ∃ L, L = t.length := ⟨_, rfl⟩
      rw [← hL] at RD
      have OP := Lib.hid (fun A0 c0 wx hx => open_gen A0 L c0 t wx hx hby)
      have hol := @opB_not t
      obtain ⟨o, ho⟩ : ∃ o, o = opB t := ⟨_, rfl⟩
      obtain ⟨E, hEE⟩ : ∃ o, o = opE t := ⟨_, rfl⟩
      unfold txB txE
      unfold RowOut at OP
      rw [← ho, ← hEE] at OP ⊢
      obtain ⟨m, hmm⟩ : ∃ m, m = o.length := ⟨_, rfl⟩
      rw [← hmm] at OP ⊢
      have HM := Lib.hid hmm
      clear ho hEE hol hmm hby hL
      by_cases h0 : E = 0
      · subst h0
        by_cases h28 : m = 28
        · subst h28
          rw [if_pos (show (0 : Int) = 0 ∧ (28 : Nat) = 28 from ⟨rfl, rfl⟩), if_pos rfl]
          go_enter Try.func127, Try.ntmps127
          go_wp2_with fail
          rw [← hw1]
          clear hw1
          refine (SE.out _).mono ?_
          rintro e w2 ⟨rfl, hb⟩
          have B := Lib.hid (B.out.trans (hb.mono B.out.size))
          have X := Lib.hid (X.out.below hb)
          clear hb v0 v1 v2 v3 v4 v5 v6 v7 v8
          obtain ⟨v0, v1, v2, v3, v4, v5, v6, v7, v8⟩ := X.out.blk.vol
          go_wp2_with fail
          refine (RD.out _ X.out.dsk).mono ?_
          rintro e w3 ⟨AR, cR, rfl, hown, hb⟩
          have OO := Lib.hid (Arg.own hown)
          have B := Lib.hid (B.out.trans (hb.mono B.out.size))
          clear hb hown v0 v1 v2 v3 v4 v5 v6 v7 v8 RD SE
          go_wp2_with fail
          refine (OP.out AR cR w3 OO.out).mono ?_
          rintro e w4 ⟨AO, cO, rfl, hown, hb⟩
          have O4 := Lib.hid (owns_base hown B.out.size)
          have B := Lib.hid (B.out.trans (hb.mono B.out.size))
          clear hb hown OP OO
          go_wp2
          go_ret2
          exact ⟨AO, cO, by rw [← HM.out]; rfl, by rw [← HM.out]; exact O4.out, B.out⟩
        · have h28i : ((m : Int) != 28) = true := bne_iff_ne.2 (by omega)
          have h28j : ((m : Int) == 28) = false := beq_eq_false_iff_ne.2 (by omega)
          rw [if_neg (show ¬ ((0 : Int) = 0 ∧ m = 28) from fun h => h28 h.2), if_neg (by decide)]
          clear h28
          go_enter Try.func127, Try.ntmps127
          go_wp2_with fail
          rw [← hw1]
          clear hw1
          refine (SE.out _).mono ?_
          rintro e w2 ⟨rfl, hb⟩
          have B := Lib.hid (B.out.trans (hb.mono B.out.size))
          have X := Lib.hid (X.out.below hb)
          clear hb v0 v1 v2 v3 v4 v5 v6 v7 v8
          obtain ⟨v0, v1, v2, v3, v4, v5, v6, v7, v8⟩ := X.out.blk.vol
          go_wp2_with fail
          refine (RD.out _ X.out.dsk).mono ?_
          rintro e w3 ⟨AR, cR, rfl, hown, hb⟩
          have OO := Lib.hid (Arg.own hown)
          have B := Lib.hid (B.out.trans (hb.mono B.out.size))
          clear hb hown v0 v1 v2 v3 v4 v5 v6 v7 v8 RD SE
          go_wp2_with fail
          refine (OP.out AR cR w3 OO.out).mono ?_
          rintro e w4 ⟨AO, cO, rfl, hown, hb⟩
          have B := Lib.hid (B.out.trans (hb.mono B.out.size))
          clear hb hown OP OO
          go_wp2
          go_ret2
          exact ⟨none, 0, rfl, World.ownsRow_nil _ _ _ _, B.out⟩
      · have h0i : (E != 0) = true := bne_iff_ne.2 h0
        have h0j : (E == 0) = false := beq_eq_false_iff_ne.2 h0
        rw [if_neg (show ¬ (E = 0 ∧ m = 28) from fun h => h0 h.1), if_neg (by decide)]
        clear h0
        go_enter Try.func127, Try.ntmps127
        go_wp2_with fail
        rw [← hw1]
        clear hw1
        refine (SE.out _).mono ?_
        rintro e w2 ⟨rfl, hb⟩
        have B := Lib.hid (B.out.trans (hb.mono B.out.size))
        have X := Lib.hid (X.out.below hb)
        clear hb v0 v1 v2 v3 v4 v5 v6 v7 v8
        obtain ⟨v0, v1, v2, v3, v4, v5, v6, v7, v8⟩ := X.out.blk.vol
        go_wp2_with fail
        refine (RD.out _ X.out.dsk).mono ?_
        rintro e w3 ⟨AR, cR, rfl, hown, hb⟩
        have OO := Lib.hid (Arg.own hown)
        have B := Lib.hid (B.out.trans (hb.mono B.out.size))
        clear hb hown v0 v1 v2 v3 v4 v5 v6 v7 v8 RD SE
        go_wp2_with fail
        refine (OP.out AR cR w3 OO.out).mono ?_
        rintro e w4 ⟨AO, cO, rfl, hown, hb⟩
        have B := Lib.hid (B.out.trans (hb.mono B.out.size))
        clear hb hown OP OO
        go_wp2
        go_ret2
        exact ⟨none, 0, rfl, World.ownsRow_nil _ _ _ _, B.out⟩
    · rw [if_neg (by decide), if_neg (by decide)]
      obtain ⟨L, hL⟩ : ∃ L, L = t.length := ⟨_, rfl⟩
      rw [← hL] at RD
      clear hby hL
      go_enter Try.func127, Try.ntmps127
      go_wp2_with fail
      rw [← hw1]
      clear hw1
      refine (SE.out _).mono ?_
      rintro e w2 ⟨rfl, hb⟩
      have B := Lib.hid (B.out.trans (hb.mono B.out.size))
      have X := Lib.hid (X.out.below hb)
      clear hb v0 v1 v2 v3 v4 v5 v6 v7 v8
      obtain ⟨v0, v1, v2, v3, v4, v5, v6, v7, v8⟩ := X.out.blk.vol
      go_wp2_with fail
      refine (RD.out _ X.out.dsk).mono ?_
      rintro e w3 ⟨AR, cR, rfl, hown, hb⟩
      have B := Lib.hid (B.out.trans (hb.mono B.out.size))
      clear hb hown v0 v1 v2 v3 v4 v5 v6 v7 v8 RD SE
      obtain ⟨hmk, hown, hb⟩ := made28 w3
      have O4 := Lib.hid (owns_base hown B.out.size)
      have B := Lib.hid (B.out.trans (hb.mono B.out.size))
      clear hown hb
      go_wp2
      go_ret2
      exact ⟨_, _, rfl, O4.out, B.out⟩
  · rw [show saN P T A p k = 0 from if_neg hi, show saE P T p k = 80 from if_neg hi] at SE
    rw [if_neg hi, if_neg hi]
    clear hi hq hs hm x hbel
    go_enter Try.func127, Try.ntmps127
    go_wp2_with fail
    rw [← hw1]
    clear hw1
    refine (SE.out _).mono ?_
    rintro e w2 ⟨rfl, hb⟩
    have B := Lib.hid (B.out.trans (hb.mono B.out.size))
    clear hb v0 v1 v2 v3 v4 v5 v6 v7 v8
    go_wp2
    go_ret2
    exact ⟨none, 0, rfl, World.ownsRow_nil _ _ _ _, B.out⟩

set_option maxRecDepth 100000 in
set_option maxHeartbeats 6400000 in
theorem tread_any (P T A M W Q : Int) (D : Option Addr) (n c : Nat) (D' : Option Addr) (n' c' : Nat) (S : List Sec) (C : List Pnd) (p k : Int) (w : World) (hq : Dsk w D n c D' n' c' S C) (hs : SmallD S C) :
    Calls Try.prog 60 #[cfgV P T A M W Q, diskV D n c D' n' c', .int .i64 p, .int .i64 k] w (RowOut .u8 5 w (trB P T A M W Q S C p k) (trE P T A M W Q S C p k)) := by
  obtain ⟨x, hbel⟩ := TBox.new P T A M W Q hq
  obtain ⟨w0, hw0⟩ : ∃ x : World, x = (w.alloc (.cells #[.int .i64 P, .int .i64 T, .int .i64 A, .int .i64 M, .int .i64 W, .int .i64 Q] 74)).alloc (.cells #[.slice D n c, .slice D' n' c'] 32) := ⟨_, rfl⟩
  have hsz : w0.heap.size = w.heap.size + 1 + 1 := by rw [hw0]; simp
  rw [← hw0] at x hbel
  have X := Lib.hid x
  have B := Lib.hid hbel
  obtain ⟨c0, c1, c2, c3, c4, c5, d0, d1⟩ := x.cells
  unfold trE trB taE
  by_cases hm : mayT P T A M W Q S C
  · rw [if_pos hm]
    have VO := Lib.hid (fun wx hx => volumeOf_yes P T A M W Q D n c D' n' c' S C p wx hx hs hm)
    have TK := Lib.hid (fun wx hx => track_any P T A M W Q D n c D' n' c' S C p k wx hx hs hm)
    have e1 : (if (if isT P T p k then (0 : Int) else 80) = 0 then tkB S C (atT P T A p k) else []) = vtB P T A S C p k := by
      unfold vtB
      by_cases hi : isT P T p k
      · rw [if_pos hi, if_pos hi, if_pos rfl]
      · rw [if_neg hi, if_neg hi, if_neg (by decide)]
    have e2 : (if (if isT P T p k then (0 : Int) else 80) = 0 then tkE S C (atT P T A p k) else (if isT P T p k then (0 : Int) else 80)) = vtE P T A S C p k := by
      unfold vtE
      by_cases hi : isT P T p k
      · rw [if_pos hi, if_pos hi, if_pos rfl]
      · rw [if_neg hi, if_neg hi, if_neg (by decide)]
    rw [e1, e2]
    unfold RowOut at TK ⊢
    obtain ⟨b, hbb⟩ : ∃ b, b = vtB P T A S C p k := ⟨_, rfl⟩
    obtain ⟨E, hE⟩ : ∃ b, b = vtE P T A S C p k := ⟨_, rfl⟩
    rw [← hbb, ← hE] at TK ⊢
    obtain ⟨m, hmm⟩ : ∃ m, m = b.length := ⟨_, rfl⟩
    rw [← hmm] at TK ⊢
    clear hq hs x hbel e1 e2 hbb hE hm hsz hmm
    go_enter Try.func60, Try.ntmps60
    go_wp2_with fail
    rw [← hw0]
    clear hw0
    refine (VO.out _ X.out.dsk.dsk).mono ?_
    rintro e w2 ⟨rfl, hb⟩
    have B := Lib.hid (B.out.trans (hb.mono B.out.size))
    have X := Lib.hid (X.out.below hb)
    have Y := VBox.new P T A M W Q p X.out.dsk.dsk
    have hb3 : Below w2.heap.size w2 (w2.alloc (.cells #[.int .i64 P, .int .i64 T, .int .i64 A, .int .i64 M, .int .i64 W, .int .i64 Q, .slice D n c, .slice D' n' c', .int .i64 p] 169)) := (Below.refl _ _).alloc (Nat.le_refl _) _
    have B := Lib.hid (B.out.trans (hb3.mono B.out.size))
    obtain ⟨v0, v1, v2, v3, v4, v5, v6, v7, v8⟩ := Y.blk.vol
    have Y := Lib.hid Y
    clear hb hb3 c0 c1 c2 c3 c4 c5 d0 d1 VO
    go_wp2_with fail
    refine (TK.out _ Y.out.dsk).mono ?_
    rintro e w3 ⟨AO, cO, rfl, hown, hb⟩
    have O3 := Lib.hid (owns_base hown B.out.size)
    have B := Lib.hid (B.out.trans (hb.mono B.out.size))
    clear hb hown v0 v1 v2 v3 v4 v5 v6 v7 v8 TK
    go_wp2
    go_ret2
    exact ⟨AO, cO, rfl, O3.out, B.out⟩
  · rw [if_neg hm, if_neg (by decide), if_neg (by decide)]
    have VO := Lib.hid (fun wx hx => volumeOf_no P T A M W Q D n c D' n' c' S C p wx hx hs hm)
    clear hq hs x hbel hm hsz
    go_enter Try.func60, Try.ntmps60
    go_wp2_with fail
    rw [← hw0]
    clear hw0
    refine (VO.out _ X.out.dsk.dsk).mono ?_
    rintro e w2 ⟨rfl, hb⟩
    have B := Lib.hid (B.out.trans (hb.mono B.out.size))
    have hb3 : Below w2.heap.size w2 (w2.alloc (.cells #[.int .i64 0, .int .i64 0, .int .i64 0, .int .i64 0, .int .i64 0, .int .i64 0, .slice none 0 0, .slice none 0 0, .int .i64 0] 169)) := (Below.refl _ _).alloc (Nat.le_refl _) _
    have B := Lib.hid (B.out.trans (hb3.mono B.out.size))
    clear hb hb3 c0 c1 c2 c3 c4 c5 d0 d1 VO
    go_wp2
    go_ret2
    exact ⟨none, 0, rfl, World.ownsRow_nil _ _ _ _, B.out⟩

end Go.Proofs.Ytnmlplfcdnakhaa
