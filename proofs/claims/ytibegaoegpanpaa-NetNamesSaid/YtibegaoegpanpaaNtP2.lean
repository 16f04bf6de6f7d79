/- Layer 16, package net: a text found in a net in new memory. No statement is proved here. -/
import Derived.Test.YtibegaoegpanpaaNtP
namespace Go.Proofs.Ytibegaoegpanpaa
open Go.RowKit
set_option linter.unusedVariables false
set_option maxRecDepth 100000

theorem pat_no (A : Option Addr) (n c : Nat) (i : Int) (w : World) (h : i < 0 ∨ ((n : Int) ≤ i ∧ ¬ i < 0)) :
    Calls Try.prog 29 #[.slice A n c, .int .i64 i] w fun e w' => e = .returned (.tuple #[.slice none 0 0, .bool false]) ∧ w' = w := by
  rcases h with h | ⟨h, h0⟩
  · go_enter Try.func29, Try.ntmps29
    go_wp2
    go_ret2
    exact ⟨rfl, rfl⟩
  · go_enter Try.func29, Try.ntmps29
    go_wp2
    go_ret2
    exact ⟨rfl, rfl⟩
theorem pat_yes (b o n c k : Nat) (v : Value) (w : World) (hk : k < n) (hc : w.cell? ⟨b, o + k, none⟩ = some v) (hm : n ≤ maxLen) :
    Calls Try.prog 29 #[.slice (some ⟨b, o, none⟩) n c, .int .i64 (k : Int)] w fun e w' => e = .returned (.tuple #[v, .bool true]) ∧ w' = w := by
  unfold maxLen at hm
  have h0 : ¬ (k : Int) < 0 := by omega
  have h1 : ¬ (n : Int) ≤ (k : Int) := by omega
  have h2 : (k : Int) < (n : Int) := by omega
  go_enter Try.func29, Try.ntmps29
  go_wp2
  go_ret2
  exact ⟨rfl, rfl⟩

/-- A net of the call's own, and one of its texts. -/
def FindOut (w : World) (q : List Text) (k : Nat) (e : Ending) (w' : World) : Prop :=
  ∃ g c Ai ni ci, e = .returned (.tuple #[.agg #[.slice (some ⟨g, 0, none⟩) q.length c], .slice Ai ni ci, .int .i64 0]) ∧ OwnTexts w' w.heap.size (some ⟨g, 0, none⟩) q.length c q ∧ w'.cell? ⟨g, k, none⟩ = some (.slice Ai ni ci) ∧ Below w.heap.size w w'

set_option maxHeartbeats 1600000 in
theorem find_no (A : Option Addr) (n c : Nat) (q : List Text) (i : Int) (w : World) (hq : Texts w A n c q) (hs : Small q) (h : ntE2 q i ≠ 0) :
    Calls Try.prog 23 #[.slice A n c, .int .i64 i] w fun e w' => e = .returned (.tuple #[.agg #[.slice none 0 0], .slice none 0 0, .int .i64 (ntE2 q i)]) ∧ Below w.heap.size w w' := by
  have hl := hq.len
  have x := Blk.new w 47 [.slice none 0 0]
  have hbel : Below w.heap.size w (w.alloc (.cells #[.slice none 0 0] 47)) := (Below.refl _ _).alloc (Nat.le_refl _) _
  have hsz : (w.alloc (.cells #[.slice none 0 0] 47)).heap.size = w.heap.size + 1 := World.size_alloc _ _
  obtain ⟨w0, hw0⟩ : ∃ x : World, x = w.alloc (.cells #[.slice none 0 0] 47) := ⟨_, rfl⟩
  have CK := Lib.hid (pcheck16_any A n c q w0 hl)
  by_cases h64 : 64 < n
  · have e : ntE2 q i = 8 := if_pos (by omega)
    have e2 : ntE q = 8 := if_pos (by omega)
    rw [e]
    rw [e2] at CK
    have B := Lib.hid hbel
    have x0 := x.cell 0
    have f0 := x.free 0
    simp only [List.getElem?_cons_zero] at x0
    clear e e2 hl h64 hq hs h hbel x hsz
    go_enter Try.func23, Try.ntmps23
    go_wp2_with fail
    rw [← hw0]
    refine CK.out.mono ?_
    rintro e w1 ⟨rfl, rfl⟩
    rw [hw0]
    clear CK hw0
    go_wp2
    refine bodyPost_ret (v := .tuple #[.agg #[.slice none 0 0], .slice none 0 0, .int .i64 8]) ?_ rfl ⟨rfl, B.out⟩
    simp [results, Try.f23, go_sem, x0]
  · have e2 : ntE q = 0 := if_neg (by omega)
    have hi : i < 0 ∨ ((n : Int) ≤ i ∧ ¬ i < 0) := by
      rcases place_ways n i with h0 | h0 | ⟨k, rfl, hk⟩
      · exact .inl h0
      · exact .inr h0
      · exact absurd (ntE2_in (by omega) (by omega)) h
    have e : ntE2 q i = 2 := by unfold ntE2; rw [if_neg (by omega), if_pos (by omega)]
    rw [e]
    rw [e2] at CK
    rw [← hw0] at hbel x hsz
    have TW := Lib.hid (pTwin16_any A n c q w0 (hq.below hbel) hs)
    have PA := Lib.hid (fun (A1 : Option Addr) (c1 : Nat) (wx : World) => pat_no A1 n c1 i wx hi)
    have B := Lib.hid hbel
    have X := Lib.hid x
    clear e e2 hl h64 hq hs h hbel x hi
    go_enter Try.func23, Try.ntmps23
    go_wp2_with fail
    rw [← hw0]
    clear hw0
    refine CK.out.mono ?_
    rintro e w1 ⟨rfl, rfl⟩
    clear CK
    go_wp2_with fail
    refine TW.out.mono ?_
    rintro e w1 ⟨A1, c1, rfl, hown, hb1⟩
    have B1 := Lib.hid (B.out.trans (hb1.mono B.out.size))
    have X1 := Lib.hid (X.out.below hb1 X.out.lt)
    have y := Blk.new w1 47 [.slice A1 n c1]
    have hb2 : Below w1.heap.size w1 (w1.alloc (.cells #[.slice A1 n c1] 47)) := (Below.refl _ _).alloc (Nat.le_refl _) _
    have B2 := Lib.hid (B1.out.trans (hb2.mono B1.out.size))
    have x2 := X1.out.below hb2 X1.out.lt
    have y0 := y.cell 0
    simp only [List.getElem?_cons_zero] at y0
    clear hown hb1 TW hb2 B X
    go_wp2_with fail
    refine (PA.out A1 c1 _).mono ?_
    rintro e w3 ⟨rfl, rfl⟩
    have x0 := x2.cell 0
    have f0 := x2.free 0
    simp only [List.getElem?_cons_zero] at x0
    have z0 := (x2.set 0 (.slice none 0 0)).cell 0
    simp only [List.set_cons_zero, List.getElem?_cons_zero] at z0
    have BF := Lib.hid (B2.out.setCell (p := ⟨w.heap.size, 0, none⟩) (Nat.le_refl _) (.slice none 0 0))
    clear PA x2 X1
    go_wp2
    refine bodyPost_ret (v := .tuple #[.agg #[.slice none 0 0], .slice none 0 0, .int .i64 2]) ?_ rfl ⟨rfl, BF.out⟩
    simp [results, Try.f23, go_sem, z0]
set_option maxHeartbeats 1600000 in
theorem find_yes (A : Option Addr) (n c : Nat) (q : List Text) (k : Nat) (w : World) (hq : Texts w A n c q) (hs : Small q) (h64 : n ≤ 64) (hk : k < n) :
    Calls Try.prog 23 #[.slice A n c, .int .i64 (k : Int)] w (FindOut w q k) := by
  have hl := hq.len
  have x := Blk.new w 47 [.slice none 0 0]
  have hbel : Below w.heap.size w (w.alloc (.cells #[.slice none 0 0] 47)) := (Below.refl _ _).alloc (Nat.le_refl _) _
  have hsz : (w.alloc (.cells #[.slice none 0 0] 47)).heap.size = w.heap.size + 1 := World.size_alloc _ _
  have hml : n ≤ maxLen := Nat.le_trans h64 (by decide)
  obtain ⟨w0, hw0⟩ : ∃ x : World, x = w.alloc (.cells #[.slice none 0 0] 47) := ⟨_, rfl⟩
  have CK := Lib.hid (pcheck16_any A n c q w0 hl)
  have e2 : ntE q = 0 := if_neg (by omega)
  unfold FindOut
  rw [hl]
  rw [e2] at CK
  rw [← hw0] at hbel x hsz
  have hbs : w.heap.size ≤ w0.heap.size := by omega
  have TW := Lib.hid (pTwin16_any A n c q w0 (hq.below hbel) hs)
  have B := Lib.hid hbel
  have X := Lib.hid x
  clear e2 hl h64 hq hs hbel x
  go_enter Try.func23, Try.ntmps23
  go_wp2_with fail
  rw [← hw0]
  clear hw0
  refine CK.out.mono ?_
  rintro e w1 ⟨rfl, rfl⟩
  clear CK
  go_wp2_with fail
  refine TW.out.mono ?_
  rintro e w1 ⟨A1, c1, rfl, hown, hb1⟩
  obtain ⟨g, rfl, hg1, hg2⟩ := hown.block (by omega)
  have B1 := Lib.hid (B.out.trans (hb1.mono B.out.size))
  have X1 := Lib.hid (X.out.below hb1 X.out.lt)
  have y := Blk.new w1 47 [.slice (some ⟨g, 0, none⟩) n c1]
  have hb2 : Below w1.heap.size w1 (w1.alloc (.cells #[.slice (some ⟨g, 0, none⟩) n c1] 47)) := (Below.refl _ _).alloc (Nat.le_refl _) _
  have B2 := Lib.hid (B1.out.trans (hb2.mono B1.out.size))
  have x2 := X1.out.below hb2 X1.out.lt
  have O2 := hown.below hb2
  have y0 := y.cell 0
  simp only [List.getElem?_cons_zero] at y0
  obtain ⟨vs, hv, _, _, hin⟩ := id O2
  obtain ⟨Ai, ni, ci, hvk, _⟩ := hin k hk
  have hck : (w1.alloc (.cells #[.slice (some ⟨g, 0, none⟩) n c1] 47)).cell? ⟨g, 0 + k, none⟩ = some (.slice Ai ni ci) := by
    rw [Nat.zero_add, hv.cellAt k (by omega)]
    exact hvk
  have PA := Lib.hid (pat_yes g 0 n c1 k (.slice Ai ni ci) _ hk hck hml)
  clear hown hb1 TW hb2 B X hv hin hvk
  go_wp2_with fail
  refine PA.out.mono ?_
  rintro e w3 ⟨rfl, rfl⟩
  have x0 := x2.cell 0
  have f0 := x2.free 0
  simp only [List.getElem?_cons_zero] at x0
  have z0 := (x2.set 0 (.slice (some ⟨g, 0, none⟩) n c1)).cell 0
  simp only [List.set_cons_zero, List.getElem?_cons_zero] at z0
  have BF := Lib.hid (B2.out.setCell (p := ⟨w.heap.size, 0, none⟩) (Nat.le_refl _) (.slice (some ⟨g, 0, none⟩) n c1))
  have OF := Lib.hid (O2.away (g := w.heap.size) (by omega) 0 (.slice (some ⟨g, 0, none⟩) n c1))
  have hck1 := hck
  rw [Nat.zero_add] at hck1
  have CF := Lib.hid ((World.cell?_setCell_other _ ⟨w.heap.size, 0, none⟩ ⟨g, k, none⟩ (.slice (some ⟨g, 0, none⟩) n c1) (fun e => by have e := congrArg Addr.block e; simp only at e; omega)).trans hck1)
  clear x2 X1 hck hck1 O2
  go_wp2
  refine bodyPost_ret (v := .tuple #[.agg #[.slice (some ⟨g, 0, none⟩) n c1], .slice Ai ni ci, .int .i64 0]) ?_ rfl ⟨g, c1, Ai, ni, ci, rfl, OF.out.lower hbs, CF.out, BF.out⟩
  simp [results, Try.f23, go_sem, z0]
end Go.Proofs.Ytibegaoegpanpaa
