/- Layer 13, the program: pageOf, Text, Plan. -/
import Derived.Test.YtiibmlbenamgcaaPgP
import Derived.Test.YtiibmlbenamgcaaBitsO
import Derived.Test.YtiibmlbenamgcaaPlP5
namespace Go.Proofs.Ytiibmlbenamgcaa
open Go.RowKit
set_option linter.unusedVariables false
set_option maxRecDepth 100000

/-- A page and an error. -/
def PgeOut (w : World) (p n a f E : Int) (e : Ending) (w' : World) : Prop := e = .returned (.tuple #[pgV p n a f, .int .i64 E]) ∧ Below w.heap.size w w'
/-- A config in its box, a page's behind it. -/
structure GBox (w : World) (G : Nat) (P T A M W Q p n a f : Int) : Prop where
  cfg : Blk w G 27 [.int .i64 P, .int .i64 T, .int .i64 A, .int .i64 M, .int .i64 W, .int .i64 Q]
  pge : Blk w (G + 1) 60 (pgL p n a f)
section
variable {w w' : World} {G : Nat} {P T A M W Q p n a f : Int}
theorem GBox.below (x : GBox w G P T A M W Q p n a f) (hb : Below w.heap.size w w') : GBox w' G P T A M W Q p n a f := ⟨x.cfg.below hb x.cfg.lt, x.pge.below hb x.pge.lt⟩
theorem GBox.cells (x : GBox w G P T A M W Q p n a f) : w.cell? ⟨G, 0, none⟩ = some (.int .i64 P) ∧ w.cell? ⟨G, 1, none⟩ = some (.int .i64 T) ∧ w.cell? ⟨G, 2, none⟩ = some (.int .i64 A) ∧ w.cell? ⟨G, 3, none⟩ = some (.int .i64 M) ∧ w.cell? ⟨G, 4, none⟩ = some (.int .i64 W) ∧ w.cell? ⟨G, 5, none⟩ = some (.int .i64 Q) ∧
    w.cell? ⟨G + 1, 0, none⟩ = some (.int .i64 p) ∧ w.cell? ⟨G + 1, 1, none⟩ = some (.int .i64 n) ∧ w.cell? ⟨G + 1, 2, none⟩ = some (.int .i64 a) ∧ w.cell? ⟨G + 1, 3, none⟩ = some (.int .u8 f) :=
  ⟨x.cfg.cell 0, x.cfg.cell 1, x.cfg.cell 2, x.cfg.cell 3, x.cfg.cell 4, x.cfg.cell 5, x.pge.cell 0, x.pge.cell 1, x.pge.cell 2, x.pge.cell 3⟩
theorem GBox.new (w : World) (P T A M W Q p n a f : Int) : GBox ((w.alloc (.cells #[.int .i64 P, .int .i64 T, .int .i64 A, .int .i64 M, .int .i64 W, .int .i64 Q] 27)).alloc (.cells #[.int .i64 p, .int .i64 n, .int .i64 a, .int .u8 f] 60)) w.heap.size P T A M W Q p n a f ∧
    Below w.heap.size w ((w.alloc (.cells #[.int .i64 P, .int .i64 T, .int .i64 A, .int .i64 M, .int .i64 W, .int .i64 Q] 27)).alloc (.cells #[.int .i64 p, .int .i64 n, .int .i64 a, .int .u8 f] 60)) := by
  obtain ⟨x, hb⟩ := box_cfg w P T A M W Q
  obtain ⟨y, hk⟩ := box_pge (w.alloc (.cells #[.int .i64 P, .int .i64 T, .int .i64 A, .int .i64 M, .int .i64 W, .int .i64 Q] 27)) p n a f
  rw [World.size_alloc] at y
  exact ⟨⟨x.below hk x.lt, y⟩, hb.trans (hk.mono hb.size)⟩
end
theorem pge_zero {P T A M W Q p n : Int} (h : pgeE P T A M W Q p n = 0) : mayC P T A M W Q ∧ 0 ≤ p ∧ p < P ∧ 0 ≤ n ∧ n < pagC T := by
  unfold pgeE at h
  split at h
  · split at h
    · rename_i h1 h2
      exact ⟨h1, h2.1, by omega, by omega, by omega⟩
    · cases h
  · cases h
theorem many_zero {P T A M W Q : Int} (h : mayC P T A M W Q) : manyE T = 0 ∧ (allB T).length = (pagC T).toNat := by
  have h2 := h
  unfold mayC at h2
  refine ⟨if_pos (by omega), ?_⟩
  rw [all_made h, pag_pgs h]
  exact madeTo_length _ _ _

set_option maxHeartbeats 3200000 in
theorem ppageof_yes (P T A M W Q p n : Int) (w : World) (h : pgeE P T A M W Q p n = 0) :
    Calls Try.prog 25 #[cfgV P T A M W Q, .int .i64 p, .int .i64 n] w (PgeOut w p n (atP T A p n) (fulP T n.toNat) 0) := by
  obtain ⟨hc, hp0, hp1, hn0, hn1⟩ := pge_zero h
  have hat := (at_page hc ⟨hp0, hp1⟩ ⟨hn0, hn1⟩).2.1
  have PP := Lib.hid (fun w' : World => ppage_any P T A M W Q p n w')
  rw [h, hat] at PP
  obtain ⟨hm, hl⟩ := many_zero hc
  have AL := Lib.hid (fun w' : World => All_any T w')
  rw [hm] at AL
  obtain ⟨k, rfl⟩ : ∃ k : Nat, n = k := ⟨n.toNat, by omega⟩
  obtain ⟨m, hme⟩ : ∃ m : Nat, m = (pagC T).toNat := ⟨_, rfl⟩
  rw [← hme] at hl
  have hkm : (k : Int) < (m : Int) := by omega
  have hkm2 : k < m := by omega
  have hfu : fulP T (k : Int).toNat = (allB T).getD k 0 := by rw [Int.toNat_natCast]; rfl
  obtain ⟨f, hf⟩ : ∃ f, f = fulP T (k : Int).toNat := ⟨_, rfl⟩
  rw [← hf] at hfu ⊢
  obtain ⟨a, ha⟩ : ∃ a, a = atP T A p (k : Int) := ⟨_, rfl⟩
  rw [← ha] at PP ⊢
  obtain ⟨L, hL⟩ : ∃ L, L = allB T := ⟨_, rfl⟩
  rw [← hL] at AL hl hfu
  have HL := Lib.hid hl
  have HF := Lib.hid hfu
  have hwr : IntKind.i64.wrap (k : Int) = k := Lib.wrap_i64_small k (by have := pag_is hc; omega)
  obtain ⟨x, hbel⟩ := GBox.new w P T A M W Q 0 0 0 0
  obtain ⟨w1, hw1⟩ : ∃ x : World, x = (w.alloc (.cells #[.int .i64 P, .int .i64 T, .int .i64 A, .int .i64 M, .int .i64 W, .int .i64 Q] 27)).alloc (.cells #[.int .i64 0, .int .i64 0, .int .i64 0, .int .u8 0] 60) := ⟨_, rfl⟩
  rw [← hw1] at x hbel
  have X := Lib.hid x
  have B := Lib.hid hbel
  obtain ⟨c0, c1, c2, c3, c4, c5, q0, q1, q2, q3⟩ := x.cells
  unfold PgeOut
  clear h hc hp0 hp1 hn0 hn1 hat hm hme hf ha hL hl hfu x hbel hkm2
  have hkm2 := Lib.hid (show k < m by omega)
  go_enter Try.func25, Try.ntmps25
  go_wp2_with fail
  rw [← hw1]
  clear hw1
  refine (PP.out _).mono ?_
  rintro e w2 ⟨rfl, hb⟩
  have B := Lib.hid (B.out.trans (hb.mono B.out.size))
  have X := Lib.hid (X.out.below hb)
  clear hb c0 c1 c2 c3 c4 c5 q0 q1 q2 q3 PP
  obtain ⟨c0, c1, c2, c3, c4, c5, q0, q1, q2, q3⟩ := X.out.cells
  go_wp2_with fail
  refine (AL.out _).mono ?_
  intro e w3 hout
  obtain ⟨A2, r2, rfl, hown, hb⟩ := hout.len rfl HL.out
  have B := Lib.hid (B.out.trans (hb.mono B.out.size))
  have X := Lib.hid (X.out.below hb)
  obtain ⟨g, rfl, _, hc, _, _⟩ := owns_int_at hown hkm2.out
  rw [← HF.out] at hc
  clear hb hown hout c0 c1 c2 c3 c4 c5 q0 q1 q2 q3 AL
  obtain ⟨c0, c1, c2, c3, c4, c5, q0, q1, q2, q3⟩ := X.out.cells
  have f0 := X.out.pge.free 0
  have f1 := X.out.pge.free 1
  have f2 := X.out.pge.free 2
  have f3 := X.out.pge.free 3
  go_wp2
  have z := X.out.pge.fourP p k a f
  obtain ⟨z0, z1, z2, z3⟩ := z.pge
  refine bodyPost_ret (v := .tuple #[pgV p k a f, .int .i64 0]) ?_ rfl ⟨rfl, below_fourP B.out (by omega) _ _ _ _⟩
  clear c0 c1 c2 c3 c4 c5 q0 q1 q2 q3 f0 f1 f2 f3
  simp [results, Try.f25, go_sem, z0, z1, z2, z3]

set_option maxHeartbeats 3200000 in
theorem ppageof_no (P T A M W Q p n : Int) (w : World) (h : pgeE P T A M W Q p n ≠ 0) :
    Calls Try.prog 25 #[cfgV P T A M W Q, .int .i64 p, .int .i64 n] w (PgeOut w 0 0 0 0 (pgeE P T A M W Q p n)) := by
  have PP := Lib.hid (fun w' : World => ppage_any P T A M W Q p n w')
  obtain ⟨E, hE⟩ : ∃ E, E = pgeE P T A M W Q p n := ⟨_, rfl⟩
  rw [← hE] at PP h ⊢
  have hq : (E != 0) = true := bne_iff_ne.2 h
  have hq0 : (E == 0) = false := beq_eq_false_iff_ne.2 h
  obtain ⟨x, hbel⟩ := GBox.new w P T A M W Q 0 0 0 0
  obtain ⟨w1, hw1⟩ : ∃ x : World, x = (w.alloc (.cells #[.int .i64 P, .int .i64 T, .int .i64 A, .int .i64 M, .int .i64 W, .int .i64 Q] 27)).alloc (.cells #[.int .i64 0, .int .i64 0, .int .i64 0, .int .u8 0] 60) := ⟨_, rfl⟩
  rw [← hw1] at x hbel
  have X := Lib.hid x
  have B := Lib.hid hbel
  obtain ⟨c0, c1, c2, c3, c4, c5, q0, q1, q2, q3⟩ := x.cells
  unfold PgeOut
  clear h hE x hbel
  go_enter Try.func25, Try.ntmps25
  go_wp2_with fail
  rw [← hw1]
  clear hw1
  refine (PP.out _).mono ?_
  rintro e w2 ⟨rfl, hb⟩
  have B := Lib.hid (B.out.trans (hb.mono B.out.size))
  have X := Lib.hid (X.out.below hb)
  clear hb c0 c1 c2 c3 c4 c5 q0 q1 q2 q3 PP
  obtain ⟨c0, c1, c2, c3, c4, c5, q0, q1, q2, q3⟩ := X.out.cells
  have f0 := X.out.pge.free 0
  have f1 := X.out.pge.free 1
  have f2 := X.out.pge.free 2
  have f3 := X.out.pge.free 3
  go_wp2
  have z := X.out.pge.fourP 0 0 0 0
  obtain ⟨z0, z1, z2, z3⟩ := z.pge
  refine bodyPost_ret (v := .tuple #[pgV 0 0 0 0, .int .i64 E]) ?_ rfl ⟨rfl, below_fourP B.out (by omega) _ _ _ _⟩
  clear c0 c1 c2 c3 c4 c5 q0 q1 q2 q3 f0 f1 f2 f3
  simp [results, Try.f25, go_sem, z0, z1, z2, z3]

end Go.Proofs.Ytiibmlbenamgcaa
