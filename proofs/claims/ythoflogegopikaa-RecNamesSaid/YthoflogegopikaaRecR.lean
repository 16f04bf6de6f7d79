/- Layer 11: the document's May, Check, Row, Note, Gone. -/
import Derived.Test.YthoflogegopikaaRecs
import Derived.Test.YthoflogegopikaaNumR2
namespace Go.Proofs.Ythoflogegopikaa
open Go.RowKit
set_option linter.unusedVariables false

/-- A record's block, known whole. -/
theorem Blk.rec {w : World} {g : Nat} {t : TypeId} {r : Rc} (h : Blk w g t (recL r)) : w.cell? ⟨g, 0, none⟩ = some (.int .i64 r.p) ∧ w.cell? ⟨g, 1, none⟩ = some (.int .u32 r.b) ∧ w.cell? ⟨g, 2, none⟩ = some (.int .u32 r.e) ∧ w.cell? ⟨g, 3, none⟩ = some (.int .i64 r.l) ∧ w.cell? ⟨g, 4, none⟩ = some (.int .u8 r.h) ∧ w.cell? ⟨g, 5, none⟩ = some (.int .i64 r.f) ∧ w.cell? ⟨g, 6, none⟩ = some (.bool r.q) ∧ w.cell? ⟨g, 7, none⟩ = some (.bool r.a) :=
  ⟨h.cell 0, h.cell 1, h.cell 2, h.cell 3, h.cell 4, h.cell 5, h.cell 6, h.cell 7⟩
theorem rec_box (w : World) (r : Rc) : Blk (w.alloc (.cells #[.int .i64 r.p, .int .u32 r.b, .int .u32 r.e, .int .i64 r.l, .int .u8 r.h, .int .i64 r.f, .bool r.q, .bool r.a] 24)) w.heap.size 24 (recL r) ∧ Below w.heap.size w (w.alloc (.cells #[.int .i64 r.p, .int .u32 r.b, .int .u32 r.e, .int .i64 r.l, .int .u8 r.h, .int .i64 r.f, .bool r.q, .bool r.a] 24)) := ⟨Blk.new w 24 (recL r), (Below.refl _ _).alloc (Nat.le_refl _) _⟩
theorem Blk.eight {w : World} {g : Nat} {t : TypeId} {r : Rc} (h : Blk w g t (recL r)) (s : Rc) : Blk ((((((((w.setCell ⟨g, 0, none⟩ (.int .i64 s.p)).setCell ⟨g, 1, none⟩ (.int .u32 s.b)).setCell ⟨g, 2, none⟩ (.int .u32 s.e)).setCell ⟨g, 3, none⟩ (.int .i64 s.l)).setCell ⟨g, 4, none⟩ (.int .u8 s.h)).setCell ⟨g, 5, none⟩ (.int .i64 s.f)).setCell ⟨g, 6, none⟩ (.bool s.q)).setCell ⟨g, 7, none⟩ (.bool s.a)) g t (recL s) :=
  (((((((h.set 0 _).set 1 _).set 2 _).set 3 _).set 4 _).set 5 _).set 6 _).set 7 _
theorem below_eight {B : Nat} {w0 w : World} (h : Below B w0 w) {g : Nat} (hg : B ≤ g) (s : Rc) : Below B w0 ((((((((w.setCell ⟨g, 0, none⟩ (.int .i64 s.p)).setCell ⟨g, 1, none⟩ (.int .u32 s.b)).setCell ⟨g, 2, none⟩ (.int .u32 s.e)).setCell ⟨g, 3, none⟩ (.int .i64 s.l)).setCell ⟨g, 4, none⟩ (.int .u8 s.h)).setCell ⟨g, 5, none⟩ (.int .i64 s.f)).setCell ⟨g, 6, none⟩ (.bool s.q)).setCell ⟨g, 7, none⟩ (.bool s.a)) :=
  (((((((h.setCell (p := ⟨g, 0, none⟩) hg _).setCell (p := ⟨g, 1, none⟩) hg _).setCell (p := ⟨g, 2, none⟩) hg _).setCell (p := ⟨g, 3, none⟩) hg _).setCell (p := ⟨g, 4, none⟩) hg _).setCell (p := ⟨g, 5, none⟩) hg _).setCell (p := ⟨g, 6, none⟩) hg _).setCell (p := ⟨g, 7, none⟩) hg _

set_option maxRecDepth 100000 in
set_option maxHeartbeats 3200000 in
theorem may_yes (r : Rc) (w : World) (hm : mayR r) : Calls Try.prog 36 #[recV r] w fun e w' => e = .returned (.bool true) ∧ Below w.heap.size w w' := by
  have hm0 := hm
  obtain ⟨⟨m1, m2, m3, m4, m5, m6, m7, m8⟩, ⟨m9, m10⟩, m11, m12⟩ := hm0
  obtain ⟨p, b, e, l, h, f, q, a⟩ := r
  dsimp only at m1 m2 m3 m4 m5 m6 m7 m8 m9 m10 m11 m12
  have k1 : ¬ p < 0 := by omega
  have k2 : ¬ 3 ≤ p := by omega
  have k3 : ¬ b < 1 := by omega
  have k4 : ¬ e < 1 := by omega
  have k5 : ¬ l < 0 := by omega
  have k6 : ¬ 1 < l := by omega
  have k7 : ¬ f < 0 := by omega
  have k8 : ¬ 1 < f := by omega
  have k9 : ¬ h < 1 := by omega
  have k10 : ¬ 3 < h := by omega
  obtain ⟨x, hbel⟩ := rec_box w ⟨p, b, e, l, h, f, q, a⟩
  obtain ⟨c0, c1, c2, c3, c4, c5, c6, c7⟩ := x.rec
  have BEL := Lib.hid hbel
  clear x hbel m1 m2 m3 m4 m5 m6 m7 m8 m9 m10
  by_cases hh : h = 1
  · subst hh
    rcases m12 with hq | ⟨_, hq⟩
    · subst hq
      clear hm
      go_enter Try.func36, Try.ntmps36
      go_wp2
      go_ret
      exact ⟨rfl, BEL.out⟩
    · cases q with
      | true =>
        have hq2 : (f != l) = true := bne_iff_ne.2 hq
        clear hm
        go_enter Try.func36, Try.ntmps36
        go_wp2
        go_ret
        exact ⟨rfl, BEL.out⟩
      | false =>
        clear hm
        go_enter Try.func36, Try.ntmps36
        go_wp2
        go_ret
        exact ⟨rfl, BEL.out⟩
  · have hfl : f = l := m11.resolve_left hh
    have hq : q = false := m12.resolve_right fun k => hh k.1
    subst hq
    subst hfl
    clear hm
    go_enter Try.func36, Try.ntmps36
    go_wp2
    go_ret
    exact ⟨rfl, BEL.out⟩
set_option maxRecDepth 100000 in
set_option maxHeartbeats 3200000 in
theorem may_no (r : Rc) (w : World) (hm : ¬ mayR r) : Calls Try.prog 36 #[recV r] w fun e w' => e = .returned (.bool false) ∧ Below w.heap.size w w' := by
  obtain ⟨p, b, e, l, h, f, q, a⟩ := r
  unfold mayR at hm
  dsimp only at hm
  obtain ⟨x, hbel⟩ := rec_box w ⟨p, b, e, l, h, f, q, a⟩
  obtain ⟨c0, c1, c2, c3, c4, c5, c6, c7⟩ := x.rec
  have BEL := Lib.hid hbel
  clear x hbel
  by_cases k0 : p < 0
  · skip
    clear hm
    go_enter Try.func36, Try.ntmps36
    go_wp2
    go_ret
    exact ⟨rfl, BEL.out⟩
  by_cases k1 : 3 ≤ p
  · skip
    clear hm
    go_enter Try.func36, Try.ntmps36
    go_wp2
    go_ret
    exact ⟨rfl, BEL.out⟩
  by_cases k2 : b < 1
  · skip
    clear hm
    go_enter Try.func36, Try.ntmps36
    go_wp2
    go_ret
    exact ⟨rfl, BEL.out⟩
  by_cases k3 : e < 1
  · skip
    clear hm
    go_enter Try.func36, Try.ntmps36
    go_wp2
    go_ret
    exact ⟨rfl, BEL.out⟩
  by_cases k4 : l < 0
  · skip
    clear hm
    go_enter Try.func36, Try.ntmps36
    go_wp2
    go_ret
    exact ⟨rfl, BEL.out⟩
  by_cases k5 : 1 < l
  · skip
    clear hm
    go_enter Try.func36, Try.ntmps36
    go_wp2
    go_ret
    exact ⟨rfl, BEL.out⟩
  by_cases k6 : f < 0
  · skip
    clear hm
    go_enter Try.func36, Try.ntmps36
    go_wp2
    go_ret
    exact ⟨rfl, BEL.out⟩
  by_cases k7 : 1 < f
  · skip
    clear hm
    go_enter Try.func36, Try.ntmps36
    go_wp2
    go_ret
    exact ⟨rfl, BEL.out⟩
  by_cases k8 : h < 1
  · skip
    clear hm
    go_enter Try.func36, Try.ntmps36
    go_wp2
    go_ret
    exact ⟨rfl, BEL.out⟩
  by_cases k9 : 3 < h
  · skip
    clear hm
    go_enter Try.func36, Try.ntmps36
    go_wp2
    go_ret
    exact ⟨rfl, BEL.out⟩
  by_cases hh : h = 1
  · subst hh
    by_cases hfl : f = l
    · subst hfl
      cases q with
      | true =>
        clear hm
        go_enter Try.func36, Try.ntmps36
        go_wp2
        go_ret
        exact ⟨rfl, BEL.out⟩
      | false => exact absurd ⟨⟨by omega, by omega, by omega, by omega, by omega, by omega, by omega, by omega⟩, ⟨by omega, by omega⟩, .inl rfl, .inl rfl⟩ hm
    · exact absurd ⟨⟨by omega, by omega, by omega, by omega, by omega, by omega, by omega, by omega⟩, ⟨by omega, by omega⟩, .inl rfl, .inr ⟨rfl, hfl⟩⟩ hm
  · by_cases hfl : f = l
    · subst hfl
      cases q with
      | true =>
        clear hm
        go_enter Try.func36, Try.ntmps36
        go_wp2
        go_ret
        exact ⟨rfl, BEL.out⟩
      | false => exact absurd ⟨⟨by omega, by omega, by omega, by omega, by omega, by omega, by omega, by omega⟩, ⟨by omega, by omega⟩, .inr rfl, .inl rfl⟩ hm
    · have hq2 : (f != l) = true := bne_iff_ne.2 hfl
      clear hm
      go_enter Try.func36, Try.ntmps36
      go_wp2
      go_ret
      exact ⟨rfl, BEL.out⟩
theorem rmay_any (r : Rc) (w : World) : Calls Try.prog 36 #[recV r] w fun e w' => e = .returned (.bool (decide (mayR r))) ∧ Below w.heap.size w w' := by
  by_cases h : mayR r
  · rw [decide_eq_true h]; exact may_yes r w h
  · rw [decide_eq_false h]; exact may_no r w h

end Go.Proofs.Ythoflogegopikaa
