/- Layer 13, the program: Text, Plan, Read. -/
import Derived.Test.YtiibmlbenamgcaaPgP2
import Derived.Test.YtiibmlbenamgcaaPgP3
import Derived.Test.YtiibmlbenamgcaaTrkP
namespace Go.Proofs.Ytiibmlbenamgcaa
open Go.RowKit
set_option linter.unusedVariables false
set_option maxRecDepth 100000

theorem pge_byte {P T A M W Q p n : Int} (h : pgeE P T A M W Q p n = 0) : isByte p ∧ isByte n := by
  obtain ⟨hc, h0, h1, h2, h3⟩ := pge_zero h
  have hg := pag_is hc
  unfold mayC at hc
  exact ⟨⟨h0, by omega⟩, ⟨h2, by omega⟩⟩

set_option maxHeartbeats 3200000 in
theorem pgtext_any (P T A M W Q p n b : Int) (w : World) (hb : isByte b) :
    Calls Try.prog 7 #[cfgV P T A M W Q, .int .i64 p, .int .i64 n, .int .u8 b] w (RowOut .u8 5 w (pxT P T A M W Q p n b) (pxE P T A M W Q p n b)) := by
  obtain ⟨x, hbel⟩ := box_cfg w P T A M W Q
  obtain ⟨w1, hw1⟩ : ∃ x : World, x = w.alloc (.cells #[.int .i64 P, .int .i64 T, .int .i64 A, .int .i64 M, .int .i64 W, .int .i64 Q] 27) := ⟨_, rfl⟩
  rw [← hw1] at x hbel
  have B := Lib.hid hbel
  obtain ⟨c0, c1, c2, c3, c4, c5⟩ := x.cfg
  unfold pxT pxE
  by_cases h0 : pgeE P T A M W Q p n = 0
  · have PO := Lib.hid (fun w' : World => ppageof_yes P T A M W Q p n w' h0)
    obtain ⟨hp, hn⟩ := pge_byte h0
    rw [if_pos h0]
    obtain ⟨a, ha⟩ : ∃ a, a = atP T A p n := ⟨_, rfl⟩
    have hf : isByte (fulP T n.toNat) := ful_byte
    obtain ⟨f, hf0⟩ : ∃ f, f = fulP T n.toNat := ⟨_, rfl⟩
    rw [← ha, ← hf0] at PO
    rw [← hf0] at hf ⊢
    have TX := Lib.hid (fun w' : World => ptext_any p n a f b w' hp hn hf hb)
    obtain ⟨E, hE⟩ : ∃ E : Int, E = if subP b f then 0 else 2 := ⟨_, rfl⟩
    obtain ⟨L, hL⟩ : ∃ L : Txt, L = if subP b f then pgSec p n b else [] := ⟨_, rfl⟩
    have hL2 : L = if E = 0 then pgSec p n b else [] := by
      rw [hL, hE]
      by_cases hs : subP b f
      · rw [if_pos hs, if_pos hs, if_pos rfl]
      · rw [if_neg hs, if_neg hs, if_neg (by decide)]
    rw [← hE] at TX ⊢
    rw [← hL] at TX
    rw [← hL2]
    obtain ⟨m, hm⟩ : ∃ m, m = L.length := ⟨_, rfl⟩
    have HM := Lib.hid hm.symm
    clear x hbel h0 hp hn ha hf hf0 hb hE hL hL2 hm
    go_enter Try.func7, Try.ntmps7
    go_wp2_with fail
    rw [← hw1]
    clear hw1
    refine (PO.out _).mono ?_
    rintro e w2 ⟨rfl, hb⟩
    have B := Lib.hid (B.out.trans (hb.mono B.out.size))
    obtain ⟨y, hk⟩ := box_pge w2 p n a f
    have B := Lib.hid (B.out.trans (hk.mono B.out.size))
    obtain ⟨q0, q1, q2, q3⟩ := y.pge
    clear hb c0 c1 c2 c3 c4 c5 PO y hk
    go_wp2_with fail
    refine (TX.out _).mono ?_
    intro e w3 hout
    obtain ⟨A3, r3, rfl, hown, hb⟩ := hout.len rfl HM.out
    have O := Lib.hid hown
    have B3 := Lib.hid (B.out.trans (hb.mono B.out.size))
    have HG := Lib.hid B.out.size
    clear hb hown hout q0 q1 q2 q3 TX
    go_wp2
    go_ret2
    exact ⟨A3, r3, by rw [HM.out]; rfl, by rw [HM.out]; exact owns_base O.out HG.out, B3.out⟩
  · have PO := Lib.hid (fun w' : World => ppageof_no P T A M W Q p n w' h0)
    rw [if_neg h0, if_neg h0]
    obtain ⟨E, hE⟩ : ∃ E, E = pgeE P T A M W Q p n := ⟨_, rfl⟩
    rw [← hE] at PO h0 ⊢
    have hq : (E != 0) = true := bne_iff_ne.2 h0
    clear x hbel h0 hE
    go_enter Try.func7, Try.ntmps7
    go_wp2_with fail
    rw [← hw1]
    clear hw1
    refine (PO.out _).mono ?_
    rintro e w2 ⟨rfl, hb⟩
    have B := Lib.hid (B.out.trans (hb.mono B.out.size))
    obtain ⟨y, hk⟩ := box_pge w2 0 0 0 0
    have B := Lib.hid (B.out.trans (hk.mono B.out.size))
    clear hb c0 c1 c2 c3 c4 c5 PO y hk
    go_wp2
    go_ret2
    exact ⟨none, 0, rfl, World.ownsRow_nil _ _ _ _, B.out⟩

/-- A write of the call's own, beside an error. -/
def PgnOut (w : World) (x : Int) (L : Txt) (E : Int) (e : Ending) (w' : World) : Prop :=
  ∃ A c, e = .returned (.tuple #[.agg #[.int .i64 x, .slice A L.length c], .int .i64 E]) ∧ w'.ownsRow w.heap.size 5 1 (.slice A L.length c) L.length (ints .u8 L) ∧ Below w.heap.size w w'

/-- A config in its box, a write's behind it. -/
structure KBox (w : World) (G : Nat) (P T A M W Q : Int) : Prop where
  cfg : Blk w G 27 [.int .i64 P, .int .i64 T, .int .i64 A, .int .i64 M, .int .i64 W, .int .i64 Q]
  res : Blk w (G + 1) 30 [.int .i64 0, .slice none 0 0]
theorem KBox.below {w w' : World} {G : Nat} {P T A M W Q : Int} (x : KBox w G P T A M W Q) (hb : Below w.heap.size w w') : KBox w' G P T A M W Q := ⟨x.cfg.below hb x.cfg.lt, x.res.below hb x.res.lt⟩
theorem KBox.new (w : World) (P T A M W Q : Int) : KBox ((w.alloc (.cells #[.int .i64 P, .int .i64 T, .int .i64 A, .int .i64 M, .int .i64 W, .int .i64 Q] 27)).alloc (.cells #[.int .i64 0, .slice none 0 0] 30)) w.heap.size P T A M W Q ∧
    Below w.heap.size w ((w.alloc (.cells #[.int .i64 P, .int .i64 T, .int .i64 A, .int .i64 M, .int .i64 W, .int .i64 Q] 27)).alloc (.cells #[.int .i64 0, .slice none 0 0] 30)) := by
  obtain ⟨x, hb⟩ := box_cfg w P T A M W Q
  have y := Blk.new (w.alloc (.cells #[.int .i64 P, .int .i64 T, .int .i64 A, .int .i64 M, .int .i64 W, .int .i64 Q] 27)) 30 [.int .i64 0, .slice none 0 0]
  rw [World.size_alloc] at y
  exact ⟨⟨x.grown (World.grownBy_alloc _ _ none) (by simp), y⟩, hb.alloc hb.size _⟩

set_option maxHeartbeats 3200000 in
theorem pgplan_any (P T A M W Q p n b : Int) (w : World) (hb : isByte b) :
    Calls Try.prog 9 #[cfgV P T A M W Q, .int .i64 p, .int .i64 n, .int .u8 b] w (PgnOut w (pxN P T A M W Q p n b) (pxT P T A M W Q p n b) (pxE P T A M W Q p n b)) := by
  obtain ⟨x, hbel⟩ := KBox.new w P T A M W Q
  obtain ⟨w1, hw1⟩ : ∃ x : World, x = (w.alloc (.cells #[.int .i64 P, .int .i64 T, .int .i64 A, .int .i64 M, .int .i64 W, .int .i64 Q] 27)).alloc (.cells #[.int .i64 0, .slice none 0 0] 30) := ⟨_, rfl⟩
  rw [← hw1] at x hbel
  have X := Lib.hid x
  have B := Lib.hid hbel
  obtain ⟨c0, c1, c2, c3, c4, c5⟩ := x.cfg.cfg
  have d0 : w1.cell? ⟨w.heap.size + 1, 0, none⟩ = some (.int .i64 0) := x.res.cell 0
  have d1 : w1.cell? ⟨w.heap.size + 1, 1, none⟩ = some (.slice none 0 0) := x.res.cell 1
  unfold pxN pxT pxE
  by_cases h0 : pgeE P T A M W Q p n = 0
  · have PO := Lib.hid (fun w' : World => ppageof_yes P T A M W Q p n w' h0)
    obtain ⟨hp, hn⟩ := pge_byte h0
    rw [if_pos h0]
    obtain ⟨a, ha⟩ : ∃ a, a = atP T A p n := ⟨_, rfl⟩
    have hf : isByte (fulP T n.toNat) := ful_byte
    obtain ⟨f, hf0⟩ : ∃ f, f = fulP T n.toNat := ⟨_, rfl⟩
    rw [← ha, ← hf0] at PO
    rw [← hf0] at hf ⊢
    rw [← ha]
    have TX := Lib.hid (fun w' : World => ptext_any p n a f b w' hp hn hf hb)
    by_cases hs : subP b f
    · rw [if_pos hs, if_pos hs] at TX
      rw [if_pos hs, if_pos rfl, if_pos rfl]
      obtain ⟨L, hL⟩ : ∃ L : Txt, L = pgSec p n b := ⟨_, rfl⟩
      have hl : L.length = 32 := by rw [hL]; exact pgSec_len _ _
      rw [← hL] at TX ⊢
      have HM := Lib.hid hl
      clear x hbel h0 hp hn ha hf hf0 hb hL hl hs
      go_enter Try.func9, Try.ntmps9
      go_wp2_with fail
      rw [← hw1]
      clear hw1
      refine (PO.out _).mono ?_
      rintro e w2 ⟨rfl, hb⟩
      have B := Lib.hid (B.out.trans (hb.mono B.out.size))
      have X := Lib.hid (X.out.below hb)
      obtain ⟨y, hk⟩ := box_pge w2 p n a f
      have B := Lib.hid (B.out.trans (hk.mono B.out.size))
      have X := Lib.hid (X.out.below hk)
      have Y := Lib.hid y
      obtain ⟨q0, q1, q2, q3⟩ := y.pge
      clear hb c0 c1 c2 c3 c4 c5 d0 d1 PO y hk
      go_wp2_with fail
      refine (TX.out _).mono ?_
      intro e w3 hout
      obtain ⟨A3, r3, rfl, hown, hb⟩ := hout.len rfl HM.out
      have O := Lib.hid (owns_base hown B.out.size)
      have B := Lib.hid (B.out.trans (hb.mono B.out.size))
      have X := Lib.hid (X.out.below hb)
      have Y := Lib.hid (Y.out.below hb Y.out.lt)
      clear hb hown hout q0 q1 q2 q3 TX
      obtain ⟨q0, q1, q2, q3⟩ := Y.out.pge
      have d0 : w3.cell? ⟨w.heap.size + 1, 0, none⟩ = some (.int .i64 0) := X.out.res.cell 0
      have d1 : w3.cell? ⟨w.heap.size + 1, 1, none⟩ = some (.slice none 0 0) := X.out.res.cell 1
      have f0 := X.out.res.free 0
      have f1 := X.out.res.free 1
      go_wp2
      have z := X.out.res.two (.int .i64 a) (.slice A3 32 r3)
      obtain ⟨z0, z1⟩ : _ ∧ _ := ⟨z.cell 0, z.cell 1⟩
      simp only [List.getElem?_cons_zero, List.getElem?_cons_succ] at z0 z1
      refine bodyPost_ret (v := .tuple #[.agg #[.int .i64 a, .slice A3 32 r3], .int .i64 0]) ?_ rfl ⟨A3, r3, by rw [HM.out], ?_, below_two B.out (by omega) _ _⟩
      · clear d0 d1 f0 f1 q0 q1 q2 q3
        simp [results, Try.f9, go_sem, z0, z1]
      · rw [HM.out]
        exact owns_other_box (owns_other_box O.out X.out.res (by decide) 0 _) (X.out.res.set 0 _) (by decide) 1 _
    · rw [if_neg hs, if_neg hs] at TX
      rw [if_neg hs, if_neg (by decide), if_neg (by decide)]
      clear x hbel h0 hp hn ha hf hf0 hb hs
      go_enter Try.func9, Try.ntmps9
      go_wp2_with fail
      rw [← hw1]
      clear hw1
      refine (PO.out _).mono ?_
      rintro e w2 ⟨rfl, hb⟩
      have B := Lib.hid (B.out.trans (hb.mono B.out.size))
      have X := Lib.hid (X.out.below hb)
      obtain ⟨y, hk⟩ := box_pge w2 p n a f
      have B := Lib.hid (B.out.trans (hk.mono B.out.size))
      have X := Lib.hid (X.out.below hk)
      obtain ⟨q0, q1, q2, q3⟩ := y.pge
      clear hb c0 c1 c2 c3 c4 c5 d0 d1 PO y hk
      go_wp2_with fail
      refine (TX.out _).mono ?_
      rintro e w3 ⟨A3, r3, rfl, _, hb⟩
      have B := Lib.hid (B.out.trans (hb.mono B.out.size))
      have X := Lib.hid (X.out.below hb)
      clear hb q0 q1 q2 q3 TX
      have d0 : w3.cell? ⟨w.heap.size + 1, 0, none⟩ = some (.int .i64 0) := X.out.res.cell 0
      have d1 : w3.cell? ⟨w.heap.size + 1, 1, none⟩ = some (.slice none 0 0) := X.out.res.cell 1
      have f0 := X.out.res.free 0
      have f1 := X.out.res.free 1
      go_wp2
      have z := X.out.res.two (.int .i64 0) (.slice none 0 0)
      obtain ⟨z0, z1⟩ : _ ∧ _ := ⟨z.cell 0, z.cell 1⟩
      simp only [List.getElem?_cons_zero, List.getElem?_cons_succ] at z0 z1
      refine bodyPost_ret (v := .tuple #[.agg #[.int .i64 0, .slice none 0 0], .int .i64 2]) ?_ rfl ⟨none, 0, rfl, World.ownsRow_nil _ _ _ _, below_two B.out (by omega) _ _⟩
      clear d0 d1 f0 f1
      simp [results, Try.f9, go_sem, z0, z1]
  · have PO := Lib.hid (fun w' : World => ppageof_no P T A M W Q p n w' h0)
    rw [if_neg h0, if_neg h0, if_neg h0]
    obtain ⟨E, hE⟩ : ∃ E, E = pgeE P T A M W Q p n := ⟨_, rfl⟩
    rw [← hE] at PO h0 ⊢
    have hq : (E != 0) = true := bne_iff_ne.2 h0
    clear x hbel h0 hE
    go_enter Try.func9, Try.ntmps9
    go_wp2_with fail
    rw [← hw1]
    clear hw1
    refine (PO.out _).mono ?_
    rintro e w2 ⟨rfl, hb⟩
    have B := Lib.hid (B.out.trans (hb.mono B.out.size))
    have X := Lib.hid (X.out.below hb)
    obtain ⟨y, hk⟩ := box_pge w2 0 0 0 0
    have B := Lib.hid (B.out.trans (hk.mono B.out.size))
    have X := Lib.hid (X.out.below hk)
    obtain ⟨w3, hw3⟩ : ∃ x : World, x = w2.alloc (.cells #[.int .i64 0, .int .i64 0, .int .i64 0, .int .u8 0] 60) := ⟨_, rfl⟩
    rw [← hw3] at B X
    have d0 : w3.cell? ⟨w.heap.size + 1, 0, none⟩ = some (.int .i64 0) := X.out.res.cell 0
    have d1 : w3.cell? ⟨w.heap.size + 1, 1, none⟩ = some (.slice none 0 0) := X.out.res.cell 1
    have f0 := X.out.res.free 0
    have f1 := X.out.res.free 1
    clear hb c0 c1 c2 c3 c4 c5 PO y hk
    go_upto_region 2 with fail
    rw [← hw3]
    clear hw3
    go_wp2
    have z := X.out.res.two (.int .i64 0) (.slice none 0 0)
    obtain ⟨z0, z1⟩ : _ ∧ _ := ⟨z.cell 0, z.cell 1⟩
    simp only [List.getElem?_cons_zero, List.getElem?_cons_succ] at z0 z1
    refine bodyPost_ret (v := .tuple #[.agg #[.int .i64 0, .slice none 0 0], .int .i64 E]) ?_ rfl ⟨none, 0, rfl, World.ownsRow_nil _ _ _ _, below_two B.out (by omega) _ _⟩
    clear d0 d1 f0 f1
    simp [results, Try.f9, go_sem, z0, z1]

end Go.Proofs.Ytiibmlbenamgcaa
