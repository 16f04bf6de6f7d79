/- Layer 4: the document's own new queue; texts written over (the statements' own helper). -/
import Derived.Test.YtbbnfbclbhkneaaRingR5
namespace Go.Proofs.Ytbbnfbclbhkneaa
open Go.RowKit
set_option linter.unusedVariables false

theorem make_texts (n : Nat) (hn : n ≤ 64) (w : World) :
    (Instr.makeSlice 22 (.int .i64 (n : Int)) (.int .i64 (n : Int))).run Try.prog w = .ok (.slice (some ⟨w.heap.size, 0, none⟩) n n) (w.alloc (.cells (List.replicate n (.slice none 0 0)).toArray 28)) := by
  obtain ⟨i1, hi1, hy0, hy1, hy2⟩ := info_parts texts_info
  have hml : (64 : Nat) ≤ maxLen := by decide
  exact run_make1 (P := Try.prog) 22 28 i1 _ Try.underlying22 hi1 hy0 hy1 rfl n (by rw [hy2]; omega) (by omega) w
theorem own_texts (n : Nat) (hn : n ≤ 64) (w : World) : OwnTexts (w.alloc (.cells (List.replicate n (.slice none 0 0)).toArray 28)) w.heap.size (some ⟨w.heap.size, 0, none⟩) n n (List.replicate n []) := by
  refine ⟨List.replicate n (.slice none 0 0), (Blk.new w 28 (List.replicate n (.slice none 0 0))).owns (Nat.le_refl _) (by simp) (Nat.le_trans hn (by decide)), by simp, ?_, fun i hi => ?_⟩
  · intro zs hz z hzz
    rw [List.eq_of_mem_replicate hz] at hzz
    cases hzz
  · refine ⟨none, 0, 0, by simp [hi], ?_⟩
    have e : (List.replicate n ([] : List Int)).getD i [] = [] := by simp [List.getD_eq_getElem?_getD, hi]
    rw [e]
    exact World.ownsRow_nil _ _ _ _

set_option maxHeartbeats 800000 in
theorem rnew_any (r : Int) (w : World) : Calls Try.prog 22 #[.int .i64 r] w (QueueOut w (newI r) 0 0 (newE r)) := by
  have hbel : Below w.heap.size w (w.alloc (.cells #[.slice none 0 0, .int .i64 0, .int .i64 0] 24)) := (Below.refl _ _).alloc (Nat.le_refl _) _
  have x := Blk.new w 24 [.slice none 0 0, .int .i64 0, .int .i64 0]
  by_cases h1 : 1 ≤ r ∧ r ≤ 64
  · have hE : newE r = 0 := by unfold newE; rw [if_pos h1]
    obtain ⟨n, rfl⟩ : ∃ n : Nat, r = n := ⟨r.toNat, by omega⟩
    have hI : newI (n : Int) = List.replicate n [] := by unfold newI; rw [if_pos hE, Int.toNat_natCast]
    rw [hE, hI]
    have hn64 : n ≤ 64 := by omega
    have hn1 : 1 ≤ n := by omega
    have hmk := make_texts n hn64 (w.alloc (.cells #[.slice none 0 0, .int .i64 0, .int .i64 0] 24))
    have hO := own_texts n hn64 (w.alloc (.cells #[.slice none 0 0, .int .i64 0, .int .i64 0] 24))
    rw [World.size_alloc] at hmk hO
    have x2 := x.grown (World.grownBy_alloc (w.alloc (.cells #[.slice none 0 0, .int .i64 0, .int .i64 0] 24)) (.cells (List.replicate n (.slice none 0 0)).toArray 28) none) (by simp)
    have b2 := hbel.alloc hbel.size (.cells (List.replicate n (.slice none 0 0)).toArray 28)
    obtain ⟨w2, hw2⟩ : ∃ w2, w2 = (w.alloc (.cells #[.slice none 0 0, .int .i64 0, .int .i64 0] 24)).alloc (.cells (List.replicate n (.slice none 0 0)).toArray 28) := ⟨_, rfl⟩
    have hmk2 : (Instr.makeSlice 22 (.int .i64 (n : Int)) (.int .i64 (n : Int))).run Try.prog (w.alloc (.cells #[.slice none 0 0, .int .i64 0, .int .i64 0] 24)) = .ok (.slice (some ⟨w.heap.size + 1, 0, none⟩) n n) w2 := by rw [hw2]; exact hmk
    rw [← hw2] at hO x2 b2
    have e0 := x2.cell 0
    have e1 := x2.cell 1
    have e2 := x2.cell 2
    have g0 := x2.free 0
    have g1 := x2.free 1
    have g2 := x2.free 2
    simp only [List.getElem?_cons_zero, List.getElem?_cons_succ] at e0 e1 e2
    have X2 := Lib.hid x2
    have O2 := Lib.hid hO
    have B2 := Lib.hid b2
    clear hw2 hmk hO x2 b2 hbel x hE hI h1
    go_enter Try.func22, Try.ntmps22
    go_wp2
    have z := X2.out.three (.slice (some ⟨w.heap.size + 1, 0, none⟩) n n) (.int .i64 0) (.int .i64 0)
    have z0 := z.cell 0
    have z1 := z.cell 1
    have z2 := z.cell 2
    simp only [List.getElem?_cons_zero, List.getElem?_cons_succ] at z0 z1 z2
    have O3 := O2.out.three X2.out q_types.1 q_types.2 (.slice (some ⟨w.heap.size + 1, 0, none⟩) n n) (.int .i64 0) (.int .i64 0)
    have B3 := below_three B2.out (Nat.le_refl _) (.slice (some ⟨w.heap.size + 1, 0, none⟩) n n) (.int .i64 0) (.int .i64 0)
    have hl : (List.replicate n ([] : List Int)).length = n := List.length_replicate
    refine bodyPost_ret (v := .tuple #[queueV (some ⟨w.heap.size + 1, 0, none⟩) n n 0 0, .int .i64 0]) ?_ rfl ⟨_, n, by rw [hl], by rw [hl]; exact O3.lower (Nat.le_succ _), B3⟩
    clear e0 e1 e2 g0 g1 g2
    simp [results, Try.f22, go_sem, z0, z1, z2]
  · have hE : newE r = 2 := by unfold newE; rw [if_neg h1]
    have hI : newI r = [] := by unfold newI; rw [if_neg (by rw [hE]; decide)]
    rw [hE, hI]
    have z0 := x.cell 0
    have z1 := x.cell 1
    have z2 := x.cell 2
    simp only [List.getElem?_cons_zero, List.getElem?_cons_succ] at z0 z1 z2
    have BEL := Lib.hid hbel
    have Z0 := Lib.hid z0
    have Z1 := Lib.hid z1
    have Z2 := Lib.hid z2
    clear hbel x hE hI z0 z1 z2
    by_cases h2 : r < 1
    · clear h1
      go_enter Try.func22, Try.ntmps22
      go_wp2
      refine bodyPost_ret (v := .tuple #[queueV none 0 0 0 0, .int .i64 2]) ?_ rfl ⟨none, 0, rfl, OwnTexts.nil _ _, BEL.out⟩
      have z0 := Z0.out
      have z1 := Z1.out
      have z2 := Z2.out
      simp [results, Try.f22, go_sem, z0, z1, z2]
    · have h3 : 64 < r := by omega
      have h4 : 1 ≤ r := by omega
      clear h1 h2
      go_enter Try.func22, Try.ntmps22
      go_wp2
      refine bodyPost_ret (v := .tuple #[queueV none 0 0 0 0, .int .i64 2]) ?_ rfl ⟨none, 0, rfl, OwnTexts.nil _ _, BEL.out⟩
      have z0 := Z0.out
      have z1 := Z1.out
      have z2 := Z2.out
      simp [results, Try.f22, go_sem, z0, z1, z2]

end Go.Proofs.Ytbbnfbclbhkneaa
