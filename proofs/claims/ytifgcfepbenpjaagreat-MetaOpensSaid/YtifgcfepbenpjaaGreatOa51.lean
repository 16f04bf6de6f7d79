/- Texts of layers 1 to 12, joined. -/
import Derived.Test.YtifgcfepbenpjaaGreatOa50
import Derived.Deep.Cut
import Derived.Deep.RegionHeld3
import Derived.Deep.CutRange
set_option maxRecDepth 100000
set_option maxHeartbeats 12800000
set_option linter.unusedVariables false
namespace Go.Proofs.YtifgcfepbenpjaaGreat
open Go.RowKit
theorem rec_row_ne {w : World} {base n c g H : Nat} {xs cs : List Value} (h : w.ownsRow base 64 8 (.slice (some ⟨g, 0, none⟩) n c) n xs) (hb : Blk w H 32 cs) : H ≠ g := fun e => by
 subst e
 rcases h.2 with ⟨e2, _⟩ | ⟨g2, cap, cur, e2, _, hg2, _⟩ <;> cases e2
 unfold Blk at hb
 rw [hb] at hg2
 simp at hg2
theorem row_pair {w : World} {base n c j : Nat} {A : Option Addr} {xs : List Value} (h : w.ownsRow base 64 8 (.slice A n c) n xs) (hj : j < n) :
  ∃ g v, A = some ⟨g, 0, none⟩ ∧ base ≤ g ∧ w.cell? ⟨g, j * 8, none⟩ = some v ∧ w.frozen? ⟨g, j * 8, none⟩ = false ∧ (∀ u, (w.setCell ⟨g, j * 8, none⟩ u).ownsRow base 64 8 (.slice A n c) n (xs.set (j * 8) u)) := by
 have hl := h.1
 rcases h.2 with ⟨_, h0⟩ | ⟨g, cap, cur, hv, hb, _⟩
 ·omega
 ·cases hv
  have hkl : j * 8 < xs.length := by omega
  exact ⟨g, xs[j * 8], rfl, hb, by rw [h.cellAt (j * 8) (by omega), geE hkl], h.frozenAt (j * 8), fun u => (h.stored (j * 8) u).1⟩
theorem OwnRecs.row {w : World} {base : Nat} {A : Option Addr} {n c : Nat} {L : List Rc} (h : OwnRecs w base A n c L) : w.ownsRow base 64 8 (.slice A n c) n (recsV L) := h.1
theorem mopens_of (P T A M W Q : Int) (D : Option Addr) (nd d : Nat) (D' : Option Addr) (nd' d' : Nat) (S : List Sec) (C : List Pnd) (v a g n u : Int) (B : Option Addr) (k c : Nat) (t : List Rc) (w : World) (hq : Dsk w D nd d D' nd' d' S C) (ht : Recs w B k c t) (hi : isS (v, a, g)) :
  Calls Tryz.prog 4 #[cfgV P T A M W Q, diskV D nd d D' nd' d', metV v a g n u B k c] w fun e w' => e = .returned (.bool true) ∧ Below w.heap.size w w' := by
 obtain ⟨x, hbel⟩ := MBox.new P T A M W Q v a g n u hq ht
 obtain ⟨w0, hw0⟩ : ∃ x : World, x = (((w.alloc (.cells #[.int .i64 P, .int .i64 T, .int .i64 A, .int .i64 M, .int .i64 W, .int .i64 Q] 36)).alloc (.cells #[.slice D nd d, .slice D' nd' d'] 25)).alloc (.cells #[.int .u32 v, .int .i64 a, .int .u64 g, .int .i64 n, .int .i64 u, .slice B k c] 32)) := ⟨_, rfl⟩
 rw [← hw0] at x hbel
 have X := Lh x
 have BB := Lh hbel
 have gg := fun w hx => great_any D nd d D' nd' d' S C 300 w hx
 obtain ⟨⟨c0, c1, c2, c3, c4, c5, c6, c7⟩, d0, d1, d2, d3, d4, d5⟩ := x.cells
 have htl := ht.len
 clear hq hbel x ht
 cases hg1 : greatD S C 300 with
 | true =>
  rw [hg1] at gg
  have GG := Lh gg
  clear gg hg1
  go_enter Tryz.func4, Tryz.ntmps4
  go_wp2_with fail
  rw [← hw0]
  clear hw0
  refine (GG.out _ X.out.two.dsk.dsk).mono ?_
  rintro e w1 ⟨rfl, hb⟩
  have B := Lh (BB.out.trans (hb.mono BB.out.size))
  clear hb c0 c1 c2 c3 c4 c5 c6 c7 d0 d1 d2 d3 d4 d5
  go_wp2
  go_ret
  exact ⟨rfl, B.out⟩
 | false =>
  rw [hg1] at gg
  have GG := Lh gg
  have SZ := Lh (small_ofD (by decide) (by decide) hg1)
  clear gg hg1
  by_cases hl1 : 100 < k
  ·have hl2 : (100 : Int) < (k : Int) := by omega
   clear hl1 htl
   go_enter Tryz.func4, Tryz.ntmps4
   go_wp2_with fail
   rw [← hw0]
   clear hw0
   refine (GG.out _ X.out.two.dsk.dsk).mono ?_
   rintro e w1 ⟨rfl, hb⟩
   have B := Lh (BB.out.trans (hb.mono BB.out.size))
   have X := Lh (X.out.below hb)
   clear hb c0 c1 c2 c3 c4 c5 c6 c7 d0 d1 d2 d3 d4 d5
   obtain ⟨⟨c0, c1, c2, c3, c4, c5, c6, c7⟩, d0, d1, d2, d3, d4, d5⟩ := X.out.cells
   go_wp2
   go_ret
   exact ⟨rfl, B.out⟩
  have hl2 : ¬ (100 : Int) < (k : Int) := by omega
  have hk100 : k ≤ 100 := by omega
  go_enter Tryz.func4, Tryz.ntmps4
  go_wp2_with fail
  rw [← hw0]
  clear hw0
  refine (GG.out _ X.out.two.dsk.dsk).mono ?_
  rintro e w1 ⟨rfl, hb⟩
  have BB := Lh (BB.out.trans (hb.mono BB.out.size))
  have X := Lh (X.out.below hb)
  clear hb GG c0 c1 c2 c3 c4 c5 c6 c7 d0 d1 d2 d3 d4 d5
  obtain ⟨⟨c0, c1, c2, c3, c4, c5, c6, c7⟩, d0, d1, d2, d3, d4, d5⟩ := X.out.cells
  go_upto_region 3 with fail
  have TW := Lh (fun wx hx => twin_any D nd d D' nd' d' S C wx hx SZ.out)
  have TM := Lh (fun wx hx => rtwin12_any v a g n u B k c t wx hx (by omega))
  go_cut [7, 8] from 29 to 32 (fun x y wx => ∃ h7 h8 B1 e1 B1' e1' A2 e2, x = .pointer (some ⟨h7, 0, none⟩) ∧ y = .pointer (some ⟨h8, 0, none⟩) ∧ Blk wx h7 25 [.slice B1 nd e1, .slice B1' nd' e1'] ∧ Blk wx h8 32 (metL v a g n u A2 k e2) ∧ Dsk wx B1 nd e1 B1' nd' e1' S C ∧ Recs wx A2 k e2 t ∧ Below w1.heap.size w1 wx)
  case first =>
   clear c0 c1 c2 c3 c4 c5 c6 c7 d0 d1 d2 d3 d4 d5
   refine wp_region_upto2 rfl 6 (fun a0 f ax wx => ∃ x29 x30 x31 x32 x7 x8 : Value, ax = ((((((a0.put (some 29) x29).put (some 30) x30).put (some 31) x31).put (some 32) x32).put (some 7) x7).put (some 8) x8) ∧ Below w1.heap.size w1 wx ∧ (f 0 = true → x29 = .agg #[.slice D nd d, .slice D' nd' d']) ∧ (f 1 = true → ∃ B1 e1 B1' e1', x30 = diskV B1 nd e1 B1' nd' e1' ∧ OwnDsk wx w1.heap.size B1 nd e1 B1' nd' e1' S C) ∧ (f 2 = true → x31 = .agg #[.int .u32 v, .int .i64 a, .int .u64 g, .int .i64 n, .int .i64 u, .slice B k c]) ∧ (f 3 = true → ∃ A2 e2, x32 = metV v a g n u A2 k e2 ∧ OwnRecs wx w1.heap.size A2 k e2 t) ∧ (f 4 = true → ∃ h, x7 = .pointer (some ⟨h, 0, none⟩) ∧ w1.heap.size ≤ h ∧ Blk wx h 25 [.slice none 0 0, .slice none 0 0]) ∧ (f 5 = true → ∃ h, x8 = .pointer (some ⟨h, 0, none⟩) ∧ w1.heap.size ≤ h ∧ Blk wx h 32 (metL 0 0 0 0 0 none 0 0))) (by decide) (by kernel_rfl) ?_ ?_ ?_
   ·exact ⟨undef, undef, undef, undef, undef, undef, rfl, (Below.refl _ _).drew, (fun h => by cases h), (fun h => by cases h), (fun h => by cases h), (fun h => by cases h), (fun h => by cases h), (fun h => by cases h)⟩
   ·refine ⟨⟨⟨⟨⟨⟨trivial, ?_⟩, ?_⟩, ?_⟩, ?_⟩, ?_⟩, ?_⟩
    ·intro f ax wx hJ hf hd K' hK
     obtain ⟨x29, x30, x31, x32, x7, x8, hax, hB, p0, p1, p2, p3, p4, p5⟩ := hJ
     simp only [Act.put, stA, scZ, scS] at hax
     subst hax
     have HK := Lh hK
     have P0 := Lh p0
     have P1 := Lh p1
     have P2 := Lh p2
     have P3 := Lh p3
     have P4 := Lh p4
     have P5 := Lh p5
     clear hK p0 p1 p2 p3 p4 p5 hf hd
     obtain ⟨⟨c0, c1, c2, c3, c4, c5, c6, c7⟩, d0, d1, d2, d3, d4, d5⟩ := (X.out.below hB).cells
     go_simp
     exact HK.out _ _ ⟨.agg #[.slice D nd d, .slice D' nd' d'], x30, x31, x32, x7, x8, (by simp only [Act.put, stA, scZ, scS]), hB, fun _ => rfl, fun h => P1.out (more_of (by decide) h), fun h => P2.out (more_of (by decide) h), fun h => P3.out (more_of (by decide) h), fun h => P4.out (more_of (by decide) h), fun h => P5.out (more_of (by decide) h)⟩
    ·intro f ax wx hJ hf hd K' hK
     obtain ⟨x29, x30, x31, x32, x7, x8, hax, hB, p0, p1, p2, p3, p4, p5⟩ := hJ
     simp only [Act.put, stA, scZ, scS] at hax
     subst hax
     have HK := Lh hK
     have P0 := Lh p0
     have P1 := Lh p1
     have P2 := Lh p2
     have P3 := Lh p3
     have P4 := Lh p4
     have P5 := Lh p5
     have e0 := p0 (deps_at (k := 0) rfl rfl rfl hd)
     subst e0
     clear hK p0 p1 p2 p3 p4 p5 hf hd
     obtain ⟨⟨c0, c1, c2, c3, c4, c5, c6, c7⟩, d0, d1, d2, d3, d4, d5⟩ := (X.out.below hB).cells
     go_simp
     go_wp2_with (go_at_call 19; refine (TW.out _ (X.out.below hB).two.dsk.dsk).mono ?_; rintro e w3 ⟨B1, e1, B1', e1', rfl, hO1, hb⟩)
     exact HK.out _ _ ⟨.agg #[.slice D nd d, .slice D' nd' d'], diskV B1 nd e1 B1' nd' e1', x31, x32, x7, x8, (by simp only [Act.put, stA, scZ, scS]), hB.trans ((hb).mono hB.size), fun h => rfl, fun _ => ⟨B1, e1, B1', e1', rfl, hO1.lower hB.size⟩, fun h => P2.out (more_of (by decide) h), fun h => by obtain ⟨A2, e2, q1, q2⟩ := P3.out (more_of (by decide) h); exact ⟨A2, e2, q1, q2.below hb⟩, fun h => by obtain ⟨h9, q1, q2, q3⟩ := P4.out (more_of (by decide) h); exact ⟨h9, q1, q2, q3.below hb q3.lt⟩, fun h => by obtain ⟨h9, q1, q2, q3⟩ := P5.out (more_of (by decide) h); exact ⟨h9, q1, q2, q3.below hb q3.lt⟩⟩
    ·intro f ax wx hJ hf hd K' hK
     obtain ⟨x29, x30, x31, x32, x7, x8, hax, hB, p0, p1, p2, p3, p4, p5⟩ := hJ
     simp only [Act.put, stA, scZ, scS] at hax
     subst hax
     have HK := Lh hK
     have P0 := Lh p0
     have P1 := Lh p1
     have P2 := Lh p2
     have P3 := Lh p3
     have P4 := Lh p4
     have P5 := Lh p5
     clear hK p0 p1 p2 p3 p4 p5 hf hd
     obtain ⟨⟨c0, c1, c2, c3, c4, c5, c6, c7⟩, d0, d1, d2, d3, d4, d5⟩ := (X.out.below hB).cells
     go_simp
     exact HK.out _ _ ⟨x29, x30, .agg #[.int .u32 v, .int .i64 a, .int .u64 g, .int .i64 n, .int .i64 u, .slice B k c], x32, x7, x8, (by simp only [Act.put, stA, scZ, scS]), hB, fun h => P0.out (more_of (by decide) h), fun h => P1.out (more_of (by decide) h), fun _ => rfl, fun h => P3.out (more_of (by decide) h), fun h => P4.out (more_of (by decide) h), fun h => P5.out (more_of (by decide) h)⟩
    ·intro f ax wx hJ hf hd K' hK
     obtain ⟨x29, x30, x31, x32, x7, x8, hax, hB, p0, p1, p2, p3, p4, p5⟩ := hJ
     simp only [Act.put, stA, scZ, scS] at hax
     subst hax
     have HK := Lh hK
     have P0 := Lh p0
     have P1 := Lh p1
     have P2 := Lh p2
     have P3 := Lh p3
     have P4 := Lh p4
     have P5 := Lh p5
     have e2 := p2 (deps_at (k := 0) rfl rfl rfl hd)
     subst e2
     clear hK p0 p1 p2 p3 p4 p5 hf hd
     obtain ⟨⟨c0, c1, c2, c3, c4, c5, c6, c7⟩, d0, d1, d2, d3, d4, d5⟩ := (X.out.below hB).cells
     go_simp
     go_wp2_with (go_at_call 20; refine (TM.out _ (X.out.below hB).tab).mono ?_; rintro e w3 ⟨A2, e2, rfl, hO2, hb⟩)
     exact HK.out _ _ ⟨x29, x30, .agg #[.int .u32 v, .int .i64 a, .int .u64 g, .int .i64 n, .int .i64 u, .slice B k c], metV v a g n u A2 k e2, x7, x8, (by simp only [Act.put, stA, scZ, scS]), hB.trans ((hb).mono hB.size), fun h => P0.out (more_of (by decide) h), fun h => by obtain ⟨B1, e1, B1', e1', q1, q2⟩ := P1.out (more_of (by decide) h); exact ⟨B1, e1, B1', e1', q1, q2.below hb⟩, fun h => rfl, fun _ => ⟨A2, e2, rfl, hO2.lower hB.size⟩, fun h => by obtain ⟨h9, q1, q2, q3⟩ := P4.out (more_of (by decide) h); exact ⟨h9, q1, q2, q3.below hb q3.lt⟩, fun h => by obtain ⟨h9, q1, q2, q3⟩ := P5.out (more_of (by decide) h); exact ⟨h9, q1, q2, q3.below hb q3.lt⟩⟩
    ·intro f ax wx hJ hf hd K' hK
     obtain ⟨x29, x30, x31, x32, x7, x8, hax, hB, p0, p1, p2, p3, p4, p5⟩ := hJ
     simp only [Act.put, stA, scZ, scS] at hax
     subst hax
     have HK := Lh hK
     have P0 := Lh p0
     have P1 := Lh p1
     have P2 := Lh p2
     have P3 := Lh p3
     have P4 := Lh p4
     have P5 := Lh p5
     clear hK p0 p1 p2 p3 p4 p5 hf hd
     obtain ⟨⟨c0, c1, c2, c3, c4, c5, c6, c7⟩, d0, d1, d2, d3, d4, d5⟩ := (X.out.below hB).cells
     go_simp
     exact HK.out _ _ ⟨x29, x30, x31, x32, .pointer (some ⟨wx.heap.size, 0, none⟩), x8, (by simp only [Act.put, stA, scZ, scS]), hB.trans ((((Below.refl _ _).alloc (Nat.le_refl _) _)).mono hB.size), fun h => P0.out (more_of (by decide) h), fun h => by obtain ⟨B1, e1, B1', e1', q1, q2⟩ := P1.out (more_of (by decide) h); exact ⟨B1, e1, B1', e1', q1, q2.below ((Below.refl _ _).alloc (Nat.le_refl _) _)⟩, fun h => P2.out (more_of (by decide) h), fun h => by obtain ⟨A2, e2, q1, q2⟩ := P3.out (more_of (by decide) h); exact ⟨A2, e2, q1, q2.below ((Below.refl _ _).alloc (Nat.le_refl _) _)⟩, fun _ => ⟨_, rfl, hB.size, Blk.new _ _ _⟩, fun h => by obtain ⟨h9, q1, q2, q3⟩ := P5.out (more_of (by decide) h); exact ⟨h9, q1, q2, q3.below ((Below.refl _ _).alloc (Nat.le_refl _) _) q3.lt⟩⟩
    ·intro f ax wx hJ hf hd K' hK
     obtain ⟨x29, x30, x31, x32, x7, x8, hax, hB, p0, p1, p2, p3, p4, p5⟩ := hJ
     simp only [Act.put, stA, scZ, scS] at hax
     subst hax
     have HK := Lh hK
     have P0 := Lh p0
     have P1 := Lh p1
     have P2 := Lh p2
     have P3 := Lh p3
     have P4 := Lh p4
     have P5 := Lh p5
     clear hK p0 p1 p2 p3 p4 p5 hf hd
     obtain ⟨⟨c0, c1, c2, c3, c4, c5, c6, c7⟩, d0, d1, d2, d3, d4, d5⟩ := (X.out.below hB).cells
     go_simp
     exact HK.out _ _ ⟨x29, x30, x31, x32, x7, .pointer (some ⟨wx.heap.size, 0, none⟩), (by simp only [Act.put, stA, scZ, scS]), hB.trans ((((Below.refl _ _).alloc (Nat.le_refl _) _)).mono hB.size), fun h => P0.out (more_of (by decide) h), fun h => by obtain ⟨B1, e1, B1', e1', q1, q2⟩ := P1.out (more_of (by decide) h); exact ⟨B1, e1, B1', e1', q1, q2.below ((Below.refl _ _).alloc (Nat.le_refl _) _)⟩, fun h => P2.out (more_of (by decide) h), fun h => by obtain ⟨A2, e2, q1, q2⟩ := P3.out (more_of (by decide) h); exact ⟨A2, e2, q1, q2.below ((Below.refl _ _).alloc (Nat.le_refl _) _)⟩, fun h => by obtain ⟨h9, q1, q2, q3⟩ := P4.out (more_of (by decide) h); exact ⟨h9, q1, q2, q3.below ((Below.refl _ _).alloc (Nat.le_refl _) _) q3.lt⟩, fun _ => ⟨_, rfl, hB.size, Blk.new _ _ _⟩⟩
   ·intro f ax wx hall hJ fuel
    obtain ⟨x29, x30, x31, x32, x7, x8, hax, hB, p0, p1, p2, p3, p4, p5⟩ := hJ
    simp only [Act.put, stA, scZ, scS] at hax
    obtain ⟨B1, e1, B1', e1', q1, hO1⟩ := p1 (hall 1 (by decide))
    obtain ⟨A2, e2, q3, hO2⟩ := p3 (hall 3 (by decide))
    obtain ⟨h7, q4, hl7, hD⟩ := p4 (hall 4 (by decide))
    obtain ⟨h8, q5, hl8, hM⟩ := p5 (hall 5 (by decide))
    subst q1 q3 q4 q5
    subst hax
    have nDM := Blk.apart hD hM (by decide)
    have nMD := Blk.apart hM hD (by decide)
    have HD := Lh hD
    have HM := Lh hM
    have O1 := Lh hO1
    have O2 := Lh hO2
    have HB := Lh hB
    have L7 := Lh hl7
    have L8 := Lh hl8
    have zD0 : wx.cell? ⟨h7, 0, none⟩ = some (.slice none 0 0) := hD.cell 0
    have zD1 : wx.cell? ⟨h7, 1, none⟩ = some (.slice none 0 0) := hD.cell 1
    have gD0 := hD.free 0
    have gD1 := hD.free 1
    obtain ⟨zM0, zM1, zM2, zM3, zM4, zM5⟩ := Blk.met hM
    have gM0 := hM.free 0
    have gM1 := hM.free 1
    have gM2 := hM.free 2
    have gM3 := hM.free 3
    have gM4 := hM.free 4
    have gM5 := hM.free 5
    clear p0 p1 p2 p3 p4 p5 hall hD hM hO1 hO2 hB hl7 hl8
    change wpAny _ _ _ _ (fuel + 1 + 1) _ _ _
    refine wpAny_ready (rs := [6]) (by kernel_rfl) (by simp) ?_
    refine AllReady.cons rfl (fun K hK => ?_) AllReady.nil
    have HK := Lh hK
    clear hK
    go_simp
    refine HK.out _ _ ?_
    clear HK K
    refine wpAny_ready (rs := [7]) (by kernel_rfl) (by simp) ?_
    refine AllReady.cons rfl (fun K hK => ?_) AllReady.nil
    have HK := Lh hK
    clear hK
    go_simp
    refine HK.out _ _ ?_
    clear HK K
    refine wpAny_done (by kernel_rfl) ?_ _
    go_wp2_with fail
    go_meet
    have nDM := Blk.apart HD.out HM.out (by decide)
    have D2 := HD.out.two (.slice B1 nd e1) (.slice B1' nd' e1')
    have M2 := (HM.out.away (fun e => nDM e.symm) 0 (.slice B1 nd e1)).away (fun e => nDM e.symm) 1 (.slice B1' nd' e1')
    have O3 := O1.out.two HD.out (.slice B1 nd e1) (.slice B1' nd' e1')
    have R3 := (O2.out.boxD HD.out 0 (.slice B1 nd e1)).boxD (HD.out.set 0 _) 1 (.slice B1' nd' e1')
    exact ⟨h7, h8, B1, e1, B1', e1', A2, e2, rfl, rfl, D2.sixOff nDM v a g n u A2 k e2, M2.sixM v a g n u A2 k e2, Dsk.of_own (O3.sixM M2 v a g n u A2 k e2), Recs.of_own (R3.boxSix M2 v a g n u A2 k e2), below_sixM ((HB.out.setCell (p := ⟨h7, 0, none⟩) L7.out _).setCell (p := ⟨h7, 1, none⟩) L7.out _) L8.out v a g n u A2 k e2⟩
  case rest =>
   obtain ⟨h7, h8, B1, e1, B1', e1', A2, e2, rfl, rfl, hD, hM, hO1, hO2, hb⟩ := hcut
   have X := Lh (X.out.below hb)
   have BB := Lh (BB.out.trans (hb.mono BB.out.size))
   have HD := Lh hD
   have HM := Lh hM
   have DO := Lh hO1
   have RM := Lh hO2
   clear hb hD hM hO1 hO2 TW TM c0 c1 c2 c3 c4 c5 c6 c7 d0 d1 d2 d3 d4 d5
   have PO := Lh (fun wx hx => popen12_any P T A M W Q B1 nd e1 B1' nd' e1' S C wx hx SZ.out)
   have RO := Lh (fun wx hx => ropen12_any P T A M W Q D nd d D' nd' d' S C wx hx SZ.out)
   have PB := Lh (fun wx hx hy => pboot12_any P T A M W Q B1 nd e1 B1' nd' e1' S C v a g n u A2 k e2 t wx hx SZ.out hi hy (by omega))
   have RB := Lh (fun wx hx hy => rboot12_any P T A M W Q D nd d D' nd' d' S C v a g n u B k c t wx hx SZ.out hi hy (by omega))
   have PC := Lh (fun wx hx => pcheck12_any P T A M W Q v a g n u A2 k e2 t wx hx (by omega))
   have RC := Lh (fun wx hx => rcheck12_any P T A M W Q v a g n u B k c t wx hx (by omega))
   unfold MetOut at PO RO
   unfold PlanOutB at PB
   unfold PlanOut12 at RB
   have BAL := Lh (show (bootA P T A M W Q S C ⟨(v, a, g), n, u, t⟩).length ≤ 1000 by unfold bootA; split; rw [actsA_length]; have := spl_one (P := P) (T := T) (A := A) (M := M) (W := W) (Q := Q) (S := S) (C := C) (s := bootS ⟨(v, a, g), n, u, t⟩); omega; exact Nat.zero_le _)
   have BMT := Lh (show (bootM P T A M W Q S C ⟨(v, a, g), n, u, t⟩).t.length ≤ k by unfold bootM; split; exact Nat.le_of_eq htl; exact Nat.zero_le _)
   obtain ⟨m1, hm1⟩ : ∃ y, y = moV P T A M W Q S C := ⟨_, rfl⟩
   obtain ⟨E1, hE1⟩ : ∃ y, y = moE P T A M W Q S C := ⟨_, rfl⟩
   obtain ⟨m2, hm2⟩ : ∃ y, y = bootM P T A M W Q S C ⟨(v, a, g), n, u, t⟩ := ⟨_, rfl⟩
   obtain ⟨l2, hl2'⟩ : ∃ y, y = bootA P T A M W Q S C ⟨(v, a, g), n, u, t⟩ := ⟨_, rfl⟩
   obtain ⟨E2, hE2⟩ : ∃ y, y = bootE P T A M W Q S C ⟨(v, a, g), n, u, t⟩ := ⟨_, rfl⟩
   obtain ⟨E3, hE3⟩ : ∃ y, y = kmE P T A M W Q ⟨(v, a, g), n, u, t⟩ := ⟨_, rfl⟩
   rw [← hm1, ← hE1] at PO RO
   rw [← hm2, ← hl2', ← hE2] at PB RB
   rw [← hE3] at PC RC
   rw [← hl2'] at BAL
   rw [← hm2] at BMT
   clear hm1 hE1 hm2 hl2' hE2 hE3 htl
   obtain ⟨⟨U1, U2, U3⟩, U4, U5, tu⟩ := m1
   obtain ⟨⟨V1, V2, V3⟩, V4, V5, tv⟩ := m2
   dsimp only at PO RO PB RB BMT
   obtain ⟨nu, hnu⟩ : ∃ y, y = tu.length := ⟨_, rfl⟩
   obtain ⟨nv, hnv⟩ : ∃ y, y = tv.length := ⟨_, rfl⟩
   obtain ⟨nl, hnl⟩ : ∃ y, y = l2.length := ⟨_, rfl⟩
   rw [← hnu] at PO RO
   rw [← hnv] at PB RB BMT
   rw [← hnl] at PB RB BAL
   clear hnu hnv hnl
   obtain ⟨⟨c0, c1, c2, c3, c4, c5, c6, c7⟩, d0, d1, d2, d3, d4, d5⟩ := X.out.cells
   have o0 : wc.cell? ⟨h7, 0, none⟩ = some (.slice B1 nd e1) := HD.out.cell 0
   have o1 : wc.cell? ⟨h7, 1, none⟩ = some (.slice B1' nd' e1') := HD.out.cell 1
   go_wp2_with fail
   refine (PO.out _ DO.out).mono ?_
   rintro e w2 ⟨A3, x3, rfl, hown, hb⟩
   have X := Lh (X.out.below hb)
   have BB := Lh (BB.out.trans (hb.mono BB.out.size))
   have HD := Lh (HD.out.below hb HD.out.lt)
   have HM := Lh (HM.out.below hb HM.out.lt)
   have DO := Lh (DO.out.below hb)
   have RM := Lh (RM.out.below hb)
   have R3 := Lh (Recs.of_own hown)
   clear hown hb PO o0 o1 c0 c1 c2 c3 c4 c5 c6 c7 d0 d1 d2 d3 d4 d5
   obtain ⟨y, hk⟩ := met_box w2 U1 U2 U3 U4 U5 A3 nu x3
   obtain ⟨v2, hv2⟩ : ∃ x : World, x = w2.alloc (.cells #[.int .u32 U1, .int .i64 U2, .int .u64 U3, .int .i64 U4, .int .i64 U5, .slice A3 nu x3] 32) := ⟨_, rfl⟩
   rw [← hv2] at y hk
   have X := Lh (X.out.below hk)
   have BB := Lh (BB.out.trans (hk.mono BB.out.size))
   have HD := Lh (HD.out.below hk HD.out.lt)
   have HM := Lh (HM.out.below hk HM.out.lt)
   have DO := Lh (DO.out.below hk)
   have RM := Lh (RM.out.below hk)
   have R3 := Lh (R3.out.below hk)
   have Y2 := Lh (y)
   clear y hk
   obtain ⟨⟨c0, c1, c2, c3, c4, c5, c6, c7⟩, d0, d1, d2, d3, d4, d5⟩ := X.out.cells
   go_upto_region 5 with fail
   rw [← hv2]
   clear hv2
   go_wp2_with fail
   refine (RO.out _ X.out.two.dsk.dsk).mono ?_
   rintro e w3 ⟨A4, x4, rfl, hown, hb⟩
   have X := Lh (X.out.below hb)
   have BB := Lh (BB.out.trans (hb.mono BB.out.size))
   have HD := Lh (HD.out.below hb HD.out.lt)
   have HM := Lh (HM.out.below hb HM.out.lt)
   have DO := Lh (DO.out.below hb)
   have RM := Lh (RM.out.below hb)
   have R3 := Lh (R3.out.below hb)
   have Y2 := Lh (Y2.out.below hb Y2.out.lt)
   have R4 := Lh (Recs.of_own hown)
   clear hown hb RO c0 c1 c2 c3 c4 c5 c6 c7 d0 d1 d2 d3 d4 d5
   obtain ⟨y, hk⟩ := met_box w3 U1 U2 U3 U4 U5 A4 nu x4
   obtain ⟨v3, hv3⟩ : ∃ x : World, x = w3.alloc (.cells #[.int .u32 U1, .int .i64 U2, .int .u64 U3, .int .i64 U4, .int .i64 U5, .slice A4 nu x4] 32) := ⟨_, rfl⟩
   rw [← hv3] at y hk
   have X := Lh (X.out.below hk)
   have BB := Lh (BB.out.trans (hk.mono BB.out.size))
   have HD := Lh (HD.out.below hk HD.out.lt)
   have HM := Lh (HM.out.below hk HM.out.lt)
   have DO := Lh (DO.out.below hk)
   have RM := Lh (RM.out.below hk)
   have R3 := Lh (R3.out.below hk)
   have Y2 := Lh (Y2.out.below hk Y2.out.lt)
   have R4 := Lh (R4.out.below hk)
   have Y3 := Lh (y)
   clear y hk
   have BBW := BB
   have X3 := X
   have HD3 := HD
   have HM3 := HM
   have DO3 := DO
   have RM3 := RM
   have BV := Lh (Below.refl v3.heap.size v3)
   obtain ⟨⟨c0, c1, c2, c3, c4, c5, c6, c7⟩, d0, d1, d2, d3, d4, d5⟩ := X.out.cells
   have o0 : v3.cell? ⟨h7, 0, none⟩ = some (.slice B1 nd e1) := HD.out.cell 0
   have o1 : v3.cell? ⟨h7, 1, none⟩ = some (.slice B1' nd' e1') := HD.out.cell 1
   obtain ⟨k0, k1, k2, k3, k4, k5⟩ := HM.out.met
   go_upto_region 6 with fail
   rw [← hv3]
   clear hv3
   go_wp2_with fail
   refine (PB.out _ DO.out RM.out).mono ?_
   rintro e w4 ⟨A5, x5, L5, y5, rfl, hown, hoA, hb⟩
   have X := Lh (X.out.below hb)
   have BB := Lh (BB.out.trans (hb.mono BB.out.size))
   have HD := Lh (HD.out.below hb HD.out.lt)
   have HM := Lh (HM.out.below hb HM.out.lt)
   have DO := Lh (DO.out.below hb)
   have RM := Lh (RM.out.below hb)
   have R3 := Lh (R3.out.below hb)
   have Y2 := Lh (Y2.out.below hb Y2.out.lt)
   have R4 := Lh (R4.out.below hb)
   have Y3 := Lh (Y3.out.below hb Y3.out.lt)
   have BV := Lh (BV.out.trans (hb.mono BV.out.size))
   have R5 := Lh (hown)
   have ACT5 := Lh (hoA)
   have BL5 := Lh BB.out.size
   clear hown hoA hb PB o0 o1 k0 k1 k2 k3 k4 k5 c0 c1 c2 c3 c4 c5 c6 c7 d0 d1 d2 d3 d4 d5
   obtain ⟨y, hk⟩ := met_box w4 V1 V2 V3 V4 V5 A5 nv x5
   obtain ⟨v4, hv4⟩ : ∃ x : World, x = w4.alloc (.cells #[.int .u32 V1, .int .i64 V2, .int .u64 V3, .int .i64 V4, .int .i64 V5, .slice A5 nv x5] 32) := ⟨_, rfl⟩
   rw [← hv4] at y hk
   have X := Lh (X.out.below hk)
   have BB := Lh (BB.out.trans (hk.mono BB.out.size))
   have HD := Lh (HD.out.below hk HD.out.lt)
   have HM := Lh (HM.out.below hk HM.out.lt)
   have DO := Lh (DO.out.below hk)
   have RM := Lh (RM.out.below hk)
   have R3 := Lh (R3.out.below hk)
   have Y2 := Lh (Y2.out.below hk Y2.out.lt)
   have R4 := Lh (R4.out.below hk)
   have Y3 := Lh (Y3.out.below hk Y3.out.lt)
   have BV := Lh (BV.out.trans (hk.mono BV.out.size))
   have R5 := Lh (R5.out.below hk)
   have ACT5 := Lh (ACT5.out.below hk)
   have Y4 := Lh (y)
   clear y hk
   obtain ⟨⟨c0, c1, c2, c3, c4, c5, c6, c7⟩, d0, d1, d2, d3, d4, d5⟩ := X.out.cells
   go_upto_region 7 with fail
   rw [← hv4]
   clear hv4
   go_wp2_with fail
   refine (RB.out _ X.out.two.dsk.dsk X.out.tab).mono ?_
   rintro e w5 ⟨A6, x6, L6, y6, LL6, rfl, hown, hoA, hax, hb⟩
   have X := Lh (X.out.below hb)
   have BB := Lh (BB.out.trans (hb.mono BB.out.size))
   have HD := Lh (HD.out.below hb HD.out.lt)
   have HM := Lh (HM.out.below hb HM.out.lt)
   have DO := Lh (DO.out.below hb)
   have RM := Lh (RM.out.below hb)
   have R3 := Lh (R3.out.below hb)
   have Y2 := Lh (Y2.out.below hb Y2.out.lt)
   have R4 := Lh (R4.out.below hb)
   have Y3 := Lh (Y3.out.below hb Y3.out.lt)
   have BV := Lh (BV.out.trans (hb.mono BV.out.size))
   have R5 := Lh (R5.out.below hb)
   have ACT5 := Lh (ACT5.out.below hb)
   have Y4 := Lh (Y4.out.below hb Y4.out.lt)
   have R6 := Lh (Recs.of_own hown)
   have ACT6 := Lh (hoA)
   have AX6 := Lh (hax)
   clear hown hoA hax hb RB c0 c1 c2 c3 c4 c5 c6 c7 d0 d1 d2 d3 d4 d5
   obtain ⟨y, hk⟩ := met_box w5 V1 V2 V3 V4 V5 A6 nv x6
   obtain ⟨v5, hv5⟩ : ∃ x : World, x = w5.alloc (.cells #[.int .u32 V1, .int .i64 V2, .int .u64 V3, .int .i64 V4, .int .i64 V5, .slice A6 nv x6] 32) := ⟨_, rfl⟩
   rw [← hv5] at y hk
   have X := Lh (X.out.below hk)
   have BB := Lh (BB.out.trans (hk.mono BB.out.size))
   have HD := Lh (HD.out.below hk HD.out.lt)
   have HM := Lh (HM.out.below hk HM.out.lt)
   have DO := Lh (DO.out.below hk)
   have RM := Lh (RM.out.below hk)
   have R3 := Lh (R3.out.below hk)
   have Y2 := Lh (Y2.out.below hk Y2.out.lt)
   have R4 := Lh (R4.out.below hk)
   have Y3 := Lh (Y3.out.below hk Y3.out.lt)
   have BV := Lh (BV.out.trans (hk.mono BV.out.size))
   have R5 := Lh (R5.out.below hk)
   have ACT5 := Lh (ACT5.out.below hk)
   have Y4 := Lh (Y4.out.below hk Y4.out.lt)
   have R6 := Lh (R6.out.below hk)
   have ACT6 := Lh (ACT6.out.below hk)
   have AX6 := Lh (AX6.out.below hk)
   have Y5 := Lh (y)
   clear y hk
   go_upto_region 8 with fail
   rw [← hv5]
   clear hv5
   have hcur : Below v5.heap.size v5 v5.drew := (Below.refl _ _).drew
   have keepX : ∀ wx, Below v5.heap.size v5 wx → wx.cell? ⟨w.heap.size, 0, none⟩ = some (.int .i64 P) ∧ wx.cell? ⟨w.heap.size, 1, none⟩ = some (.int .i64 T) ∧ wx.cell? ⟨w.heap.size, 2, none⟩ = some (.int .i64 A) ∧ wx.cell? ⟨w.heap.size, 3, none⟩ = some (.int .i64 M) ∧ wx.cell? ⟨w.heap.size, 4, none⟩ = some (.int .i64 W) ∧ wx.cell? ⟨w.heap.size, 5, none⟩ = some (.int .i64 Q) ∧ wx.cell? ⟨w.heap.size + 2, 0, none⟩ = some (.int .u32 v) ∧ wx.cell? ⟨w.heap.size + 2, 1, none⟩ = some (.int .i64 a) ∧ wx.cell? ⟨w.heap.size + 2, 2, none⟩ = some (.int .u64 g) ∧ wx.cell? ⟨w.heap.size + 2, 3, none⟩ = some (.int .i64 n) ∧ wx.cell? ⟨w.heap.size + 2, 4, none⟩ = some (.int .i64 u) ∧ wx.cell? ⟨w.heap.size + 2, 5, none⟩ = some (.slice B k c) ∧ wx.cell? ⟨h8, 0, none⟩ = some (.int .u32 v) ∧ wx.cell? ⟨h8, 1, none⟩ = some (.int .i64 a) ∧ wx.cell? ⟨h8, 2, none⟩ = some (.int .u64 g) ∧ wx.cell? ⟨h8, 3, none⟩ = some (.int .i64 n) ∧ wx.cell? ⟨h8, 4, none⟩ = some (.int .i64 u) ∧ wx.cell? ⟨h8, 5, none⟩ = some (.slice A2 k e2) ∧ wx.cell? ⟨w2.heap.size, 0, none⟩ = some (.int .u32 U1) ∧ wx.cell? ⟨w2.heap.size, 1, none⟩ = some (.int .i64 U2) ∧ wx.cell? ⟨w2.heap.size, 2, none⟩ = some (.int .u64 U3) ∧ wx.cell? ⟨w2.heap.size, 3, none⟩ = some (.int .i64 U4) ∧ wx.cell? ⟨w2.heap.size, 4, none⟩ = some (.int .i64 U5) ∧ wx.cell? ⟨w2.heap.size, 5, none⟩ = some (.slice A3 nu x3) ∧ wx.cell? ⟨w3.heap.size, 0, none⟩ = some (.int .u32 U1) ∧ wx.cell? ⟨w3.heap.size, 1, none⟩ = some (.int .i64 U2) ∧ wx.cell? ⟨w3.heap.size, 2, none⟩ = some (.int .u64 U3) ∧ wx.cell? ⟨w3.heap.size, 3, none⟩ = some (.int .i64 U4) ∧ wx.cell? ⟨w3.heap.size, 4, none⟩ = some (.int .i64 U5) ∧ wx.cell? ⟨w3.heap.size, 5, none⟩ = some (.slice A4 nu x4) ∧ wx.cell? ⟨w4.heap.size, 0, none⟩ = some (.int .u32 V1) ∧ wx.cell? ⟨w4.heap.size, 1, none⟩ = some (.int .i64 V2) ∧ wx.cell? ⟨w4.heap.size, 2, none⟩ = some (.int .u64 V3) ∧ wx.cell? ⟨w4.heap.size, 3, none⟩ = some (.int .i64 V4) ∧ wx.cell? ⟨w4.heap.size, 4, none⟩ = some (.int .i64 V5) ∧ wx.cell? ⟨w4.heap.size, 5, none⟩ = some (.slice A5 nv x5) ∧ wx.cell? ⟨w5.heap.size, 0, none⟩ = some (.int .u32 V1) ∧ wx.cell? ⟨w5.heap.size, 1, none⟩ = some (.int .i64 V2) ∧ wx.cell? ⟨w5.heap.size, 2, none⟩ = some (.int .u64 V3) ∧ wx.cell? ⟨w5.heap.size, 3, none⟩ = some (.int .i64 V4) ∧ wx.cell? ⟨w5.heap.size, 4, none⟩ = some (.int .i64 V5) ∧ wx.cell? ⟨w5.heap.size, 5, none⟩ = some (.slice A6 nv x6) := fun wx hx => by
    obtain ⟨⟨q0, q1, q2, q3, q4, q5, _, _⟩, r0, r1, r2, r3, r4, r5⟩ := (X.out.below hx).cells
    obtain ⟨a0, a1, a2, a3, a4, a5⟩ := (HM.out.below hx HM.out.lt).met
    obtain ⟨b0, b1, b2, b3, b4, b5⟩ := (Y2.out.below hx Y2.out.lt).met
    obtain ⟨c0, c1, c2, c3, c4, c5⟩ := (Y3.out.below hx Y3.out.lt).met
    obtain ⟨d0, d1, d2, d3, d4, d5⟩ := (Y4.out.below hx Y4.out.lt).met
    obtain ⟨e0, e1, e2, e3, e4, e5⟩ := (Y5.out.below hx Y5.out.lt).met
    exact ⟨q0, q1, q2, q3, q4, q5, r0, r1, r2, r3, r4, r5, a0, a1, a2, a3, a4, a5, b0, b1, b2, b3, b4, b5, c0, c1, c2, c3, c4, c5, d0, d1, d2, d3, d4, d5, e0, e1, e2, e3, e4, e5⟩
   have hkX := keepX _ hcur
   have hE1 : (E1 == E1) = true := beq_self_eq_true _
   have hE2 : (E2 == E2) = true := beq_self_eq_true _
   have hE3 : (E3 == E3) = true := beq_self_eq_true _
   go_region_held3 (fun w' => w'.cell? ⟨w.heap.size, 0, none⟩ = some (.int .i64 P) ∧ w'.cell? ⟨w.heap.size, 1, none⟩ = some (.int .i64 T) ∧ w'.cell? ⟨w.heap.size, 2, none⟩ = some (.int .i64 A) ∧ w'.cell? ⟨w.heap.size, 3, none⟩ = some (.int .i64 M) ∧ w'.cell? ⟨w.heap.size, 4, none⟩ = some (.int .i64 W) ∧ w'.cell? ⟨w.heap.size, 5, none⟩ = some (.int .i64 Q) ∧ w'.cell? ⟨w.heap.size + 2, 0, none⟩ = some (.int .u32 v) ∧ w'.cell? ⟨w.heap.size + 2, 1, none⟩ = some (.int .i64 a) ∧ w'.cell? ⟨w.heap.size + 2, 2, none⟩ = some (.int .u64 g) ∧ w'.cell? ⟨w.heap.size + 2, 3, none⟩ = some (.int .i64 n) ∧ w'.cell? ⟨w.heap.size + 2, 4, none⟩ = some (.int .i64 u) ∧ w'.cell? ⟨w.heap.size + 2, 5, none⟩ = some (.slice B k c) ∧ w'.cell? ⟨h8, 0, none⟩ = some (.int .u32 v) ∧ w'.cell? ⟨h8, 1, none⟩ = some (.int .i64 a) ∧ w'.cell? ⟨h8, 2, none⟩ = some (.int .u64 g) ∧ w'.cell? ⟨h8, 3, none⟩ = some (.int .i64 n) ∧ w'.cell? ⟨h8, 4, none⟩ = some (.int .i64 u) ∧ w'.cell? ⟨h8, 5, none⟩ = some (.slice A2 k e2) ∧ w'.cell? ⟨w2.heap.size, 0, none⟩ = some (.int .u32 U1) ∧ w'.cell? ⟨w2.heap.size, 1, none⟩ = some (.int .i64 U2) ∧ w'.cell? ⟨w2.heap.size, 2, none⟩ = some (.int .u64 U3) ∧ w'.cell? ⟨w2.heap.size, 3, none⟩ = some (.int .i64 U4) ∧ w'.cell? ⟨w2.heap.size, 4, none⟩ = some (.int .i64 U5) ∧ w'.cell? ⟨w2.heap.size, 5, none⟩ = some (.slice A3 nu x3) ∧ w'.cell? ⟨w3.heap.size, 0, none⟩ = some (.int .u32 U1) ∧ w'.cell? ⟨w3.heap.size, 1, none⟩ = some (.int .i64 U2) ∧ w'.cell? ⟨w3.heap.size, 2, none⟩ = some (.int .u64 U3) ∧ w'.cell? ⟨w3.heap.size, 3, none⟩ = some (.int .i64 U4) ∧ w'.cell? ⟨w3.heap.size, 4, none⟩ = some (.int .i64 U5) ∧ w'.cell? ⟨w3.heap.size, 5, none⟩ = some (.slice A4 nu x4) ∧ w'.cell? ⟨w4.heap.size, 0, none⟩ = some (.int .u32 V1) ∧ w'.cell? ⟨w4.heap.size, 1, none⟩ = some (.int .i64 V2) ∧ w'.cell? ⟨w4.heap.size, 2, none⟩ = some (.int .u64 V3) ∧ w'.cell? ⟨w4.heap.size, 3, none⟩ = some (.int .i64 V4) ∧ w'.cell? ⟨w4.heap.size, 4, none⟩ = some (.int .i64 V5) ∧ w'.cell? ⟨w4.heap.size, 5, none⟩ = some (.slice A5 nv x5) ∧ w'.cell? ⟨w5.heap.size, 0, none⟩ = some (.int .u32 V1) ∧ w'.cell? ⟨w5.heap.size, 1, none⟩ = some (.int .i64 V2) ∧ w'.cell? ⟨w5.heap.size, 2, none⟩ = some (.int .u64 V3) ∧ w'.cell? ⟨w5.heap.size, 3, none⟩ = some (.int .i64 V4) ∧ w'.cell? ⟨w5.heap.size, 4, none⟩ = some (.int .i64 V5) ∧ w'.cell? ⟨w5.heap.size, 5, none⟩ = some (.slice A6 nv x6))
    (first | exact hkX | go_keep)
    (first
     | (go_at_call 23; (with_reducible refine (same12_yes U1 U2 U3 U4 U5 A3 nu x3 A4 x4 tu v5.drew (R3.out.below hcur) (R4.out.below hcur)).mono ?_); rintro e w6 ⟨rfl, hb⟩; have hcur := hcur.trans (hb.mono hcur.size); have hkX := keepX _ hcur)
     | (go_at_call 23; (with_reducible refine (same12_yes V1 V2 V3 V4 V5 A5 nv x5 A6 x6 tv w6 ((Recs.of_own R5.out).below hcur) (R6.out.below hcur)).mono ?_); rintro e w7 ⟨rfl, hb⟩; have hcur := hcur.trans (hb.mono hcur.size); have hkX := keepX _ hcur)
     | (go_at_call 24; obtain ⟨LA, q1, q2⟩ := (ACT5.out.below hcur).is; (with_reducible refine (rsamea_yes L5 nl y5 _ LA L6 y6 _ LL6 l2 w7 q1 q2 (ACT6.out.below hcur) (AX6.out.below hcur) BAL.out).mono ?_); rintro e w8 ⟨rfl, hb⟩; have hcur := hcur.trans (hb.mono hcur.size); have hkX := keepX _ hcur)
     | (go_at_call 17; (with_reducible refine (PC.out w8 (RM.out.below hcur)).mono ?_); rintro e w9 ⟨rfl, hb⟩; have hcur := hcur.trans (hb.mono hcur.size); have hkX := keepX _ hcur)
     | (go_at_call 25; (with_reducible refine (RC.out w9 (X.out.below hcur).tab).mono ?_); rintro e w10 ⟨rfl, hb⟩; have hcur := hcur.trans (hb.mono hcur.size); have hkX := keepX _ hcur))
   have BB := Lh (BB.out.trans (hcur.mono BB.out.size))
   have BV := Lh (BV.out.trans (hcur.mono BV.out.size))
   have R5 := Lh (R5.out.below hcur)
   have Y4 := Lh (Y4.out.below hcur Y4.out.lt)
   have NV := Lh (show nv ≤ 100 by have := BMT.out; omega)
   clear hkX keepX hcur hb PC RC X HD HM DO RM R3 R4 ACT5 R6 ACT6 AX6 Y2 Y3 Y5 hE1 hE2 hE3
   obtain ⟨y0, y1, y2, y3, y4, y5⟩ := Y4.out.met
   have hnv := NV.out
   have ROW := Lh (OwnRecs.row R5.out)
   clear R5 y0 y1 y2 y3 y4 y5 q1 q2
   go_wp2
   go_loopw [20] (fun i wr => ∃ (j : Nat) (xs : List Value), j ≤ nv ∧ i = .int .i64 j ∧ wr.ownsRow v3.heap.size 64 8 (.slice A5 nv x5) nv xs ∧ Below v3.heap.size v3 wr ∧ Blk wr w4.heap.size 32 (metL V1 V2 V3 V4 V5 A5 nv x5)) (fun i _ => nv - (intOf i).toNat)
   case atStart => exact ⟨0, _, Nat.zero_le _, rfl, ROW.out, BV.out, Y4.out⟩
   case round =>
    obtain ⟨j, xs, hj, rfl, hrow, hbv, hy4⟩ := hrel
    have RW := Lh hrow
    have BW := Lh hbv
    have YW := Lh hy4
    clear hrow hbv hy4
    obtain ⟨y0, y1, y2, y3, y4, y5⟩ := YW.out.met
    by_cases hjn : j < nv
    ·have hji : (j : Int) < (nv : Int) := by omega
     have hcap : nv ≤ x5 ∧ x5 ≤ maxLen := by
      rcases RW.out.2 with ⟨_, h0⟩ | ⟨g', cap, cur, e, _, _, k1, k2, _⟩
      ·omega
      ·cases e; exact ⟨k1, k2⟩
     obtain ⟨gR, vR, rfl, hbg, hc, hf, hset⟩ := row_pair RW.out hjn
     have hne := rec_row_ne RW.out YW.out
     have NX := Lh (hset (.int .i64 (-7)))
     have NB := Lh (BW.out.setCell (p := ⟨gR, j * 8, none⟩) hbg (.int .i64 (-7)))
     have NY := Lh (YW.out.away hne (j * 8) (.int .i64 (-7)))
     clear hset hne hbg
     go_wp2
     go_roundw
     case rel => exact ⟨j + 1, _, by omega, by go_num, NX.out, NB.out, NY.out⟩
     all_goals (try case measure => simp [intOf]; omega)
    ·obtain rfl : j = nv := by omega
     have BB := Lh (BBW.out.trans (BW.out.mono BBW.out.size))
     have X := Lh (X3.out.below BW.out)
     have HD := Lh (HD3.out.below BW.out HD3.out.lt)
     have HM := Lh (HM3.out.below BW.out HM3.out.lt)
     have DO := Lh (DO3.out.below BW.out)
     have RM := Lh (RM3.out.below BW.out)
     obtain ⟨⟨c0, c1, c2, c3, c4, c5, c6, c7⟩, d0, d1, d2, d3, d4, d5⟩ := X.out.cells
     have o0 : wr.cell? ⟨h7, 0, none⟩ = some (.slice B1 nd e1) := HD.out.cell 0
     have o1 : wr.cell? ⟨h7, 1, none⟩ = some (.slice B1' nd' e1') := HD.out.cell 1
     go_wp2_with fail
     refine (same_yes B1 nd e1 B1' nd' e1' S C D nd d D' nd' d' wr DO.out X.out.two.dsk.dsk).mono ?_
     rintro e w11 ⟨rfl, hb⟩
     have BB := Lh (BB.out.trans (hb.mono BB.out.size))
     have X := Lh (X.out.below hb)
     have HM := Lh (HM.out.below hb HM.out.lt)
     have RM := Lh (RM.out.below hb)
     clear hb o0 o1 y0 y1 y2 y3 y4 y5 c0 c1 c2 c3 c4 c5 c6 c7 d0 d1 d2 d3 d4 d5
     obtain ⟨⟨c0, c1, c2, c3, c4, c5, c6, c7⟩, d0, d1, d2, d3, d4, d5⟩ := X.out.cells
     obtain ⟨k0, k1, k2, k3, k4, k5⟩ := HM.out.met
     go_wp2_with fail
     refine (same12_yes v a g n u A2 k e2 B c t w11 RM.out X.out.tab).mono ?_
     rintro e w12 ⟨rfl, hb⟩
     have BB := Lh (BB.out.trans (hb.mono BB.out.size))
     clear hb k0 k1 k2 k3 k4 k5 c0 c1 c2 c3 c4 c5 c6 c7 d0 d1 d2 d3 d4 d5
     go_wp2
     go_ret
     exact ⟨rfl, BB.out⟩
end Go.Proofs.YtifgcfepbenpjaaGreat
