/- Layer 4, package ring: whether a queue may be: Check. -/
import Derived.Test.YtbbnfbclbhkneaaRingI
namespace Go.Proofs.Ytbbnfbclbhkneaa
open Go.RowKit Go.Shelf
set_option linter.unusedVariables false

theorem part_stops (n B0 B1 F T : Nat) (A : Option Addr) (k c H : Nat) (m : Int) (s : Nat → Option Addr × Nat × Nat) (w : World) (hn : 2 ≤ n) (hB : B0 ≤ B1) (hB1 : B1 + 3 ≤ w.heap.size) (hk1 : 1 ≤ k) (hk : k ≤ 64) (hH : H < k) (hF : F ≤ T) (hT : T ≤ 64)
    (c0 : w.cell? ⟨B1, 0, none⟩ = some (.slice A k c)) (c1 : w.cell? ⟨B1, 1, none⟩ = some (.int .i64 (H : Int))) (c2 : w.cell? ⟨B1, 2, none⟩ = some (.int .i64 m))
    (c3 : w.cell? ⟨B1 + 1, 0, none⟩ = some (.int .i64 (F : Int))) (c4 : w.cell? ⟨B1 + 2, 0, none⟩ = some (.int .i64 (T : Int)))
    (hA : Seq w B0 A ((List.range k).map fun i => Value.slice (s i).1 (s i).2.1 (s i).2.2)) :
    SeqStopsK Fence.wide n Try.prog 34 #[.pointer (some ⟨B1 + 1, 0, none⟩), .pointer (some ⟨B1 + 1 + 1, 0, none⟩), .pointer (some ⟨B1, 0, none⟩)] (fun x : Nat => #[txtV s k H x]) (KpT B0 B1) (fun ys => ys = upN F (T - F)) (fun pre => pre <+: upN F (T - F)) (T - F) w :=
  fun l J Jx W hW hJ _ hY h0 =>
    part1_in n l B0 B1 F T A k c H m s J Jx W hn hB hk1 hk hH hF hT hY W.heap.size hJ
      ((hW.cell (p := ⟨B1, 0, none⟩) (by show B1 < _; omega)).trans c0) ((hW.cell (p := ⟨B1, 1, none⟩) (by show B1 < _; omega)).trans c1) ((hW.cell (p := ⟨B1, 2, none⟩) (by show B1 < _; omega)).trans c2)
      ((hW.cell (p := ⟨B1 + 1, 0, none⟩) (by show B1 + 1 < _; omega)).trans c3) ((hW.cell (p := ⟨B1 + 2, 0, none⟩) (by show B1 + 2 < _; omega)).trans c4)
      (hA.keep fun p hp => hW.cell (by omega)) h0

/-- The three boxes of part. -/
theorem boxesP (w : World) (A : Option Addr) (n c : Nat) (h m f t : Int) :
    let W := ((w.alloc (.cells #[.slice A n c, .int .i64 h, .int .i64 m] 24)).alloc (.cells #[.int .i64 f] 3)).alloc (.cells #[.int .i64 t] 3)
    W.cell? ⟨w.heap.size, 0, none⟩ = some (.slice A n c) ∧ W.cell? ⟨w.heap.size, 1, none⟩ = some (.int .i64 h) ∧ W.cell? ⟨w.heap.size, 2, none⟩ = some (.int .i64 m) ∧
    W.cell? ⟨w.heap.size + 1, 0, none⟩ = some (.int .i64 f) ∧ W.cell? ⟨w.heap.size + 2, 0, none⟩ = some (.int .i64 t) ∧ Below w.heap.size w W ∧ W.heap.size = w.heap.size + 3 := by
  intro W
  obtain ⟨a0, a1, a2⟩ := box_queue w A n c h m
  have b0 := (Blk.new (w.alloc (.cells #[.slice A n c, .int .i64 h, .int .i64 m] 24)) 3 [.int .i64 f]).cell 0
  have c0 := (Blk.new ((w.alloc (.cells #[.slice A n c, .int .i64 h, .int .i64 m] 24)).alloc (.cells #[.int .i64 f] 3)) 3 [.int .i64 t]).cell 0
  simp only [World.size_alloc, List.getElem?_cons_zero] at b0 c0
  have k : ∀ i, W.cell? ⟨w.heap.size, i, none⟩ = (w.alloc (.cells #[.slice A n c, .int .i64 h, .int .i64 m] 24)).cell? ⟨w.heap.size, i, none⟩ := fun i => by
    show (((w.alloc (.cells #[.slice A n c, .int .i64 h, .int .i64 m] 24)).alloc (.cells #[.int .i64 f] 3)).alloc (.cells #[.int .i64 t] 3)).cell? _ = _
    rw [World.cell?_alloc_lt _ _ _ (by simp; omega), World.cell?_alloc_lt _ _ _ (by simp)]
  refine ⟨(k 0).trans a0, (k 1).trans a1, (k 2).trans a2, ?_, c0, ?_, by simp [W]⟩
  · show (((w.alloc (.cells #[.slice A n c, .int .i64 h, .int .i64 m] 24)).alloc (.cells #[.int .i64 f] 3)).alloc (.cells #[.int .i64 t] 3)).cell? _ = _
    rw [World.cell?_alloc_lt _ _ _ (by simp)]
    exact b0
  · exact (((Below.refl _ _).alloc (Nat.le_refl _) _).alloc (by simp) _).alloc (by simp; omega) _

/-- The boxes that Check begins with. -/
theorem boxesC (w : World) (A : Option Addr) (n c : Nat) (h m : Int) :
    Blk ((w.alloc (.cells #[.slice A n c, .int .i64 h, .int .i64 m] 24)).alloc (.cells #[.int .i64 0] 25)) w.heap.size 24 [.slice A n c, .int .i64 h, .int .i64 m] ∧
    Blk ((w.alloc (.cells #[.slice A n c, .int .i64 h, .int .i64 m] 24)).alloc (.cells #[.int .i64 0] 25)) (w.heap.size + 1) 25 [.int .i64 0] ∧
    Below w.heap.size w ((w.alloc (.cells #[.slice A n c, .int .i64 h, .int .i64 m] 24)).alloc (.cells #[.int .i64 0] 25)) := by
  refine ⟨(Blk.new w 24 [.slice A n c, .int .i64 h, .int .i64 m]).grown (World.grownBy_alloc _ _ none) (by simp), ?_, ((Below.refl _ _).alloc (Nat.le_refl _) _).alloc (by simp) _⟩
  have := Blk.new (w.alloc (.cells #[.slice A n c, .int .i64 h, .int .i64 m] 24)) 25 [.int .i64 0]
  rwa [World.size_alloc] at this

/-- The same, with the error in its box. -/
theorem boxesC8 (w : World) (A : Option Addr) (n c : Nat) (h m : Int) :
    Blk ((w.alloc (.cells #[.slice A n c, .int .i64 h, .int .i64 m] 24)).alloc (.cells #[.int .i64 8] 25)) w.heap.size 24 [.slice A n c, .int .i64 h, .int .i64 m] ∧
    Blk ((w.alloc (.cells #[.slice A n c, .int .i64 h, .int .i64 m] 24)).alloc (.cells #[.int .i64 8] 25)) (w.heap.size + 1) 25 [.int .i64 8] ∧
    Below w.heap.size w ((w.alloc (.cells #[.slice A n c, .int .i64 h, .int .i64 m] 24)).alloc (.cells #[.int .i64 8] 25)) := by
  refine ⟨(Blk.new w 24 [.slice A n c, .int .i64 h, .int .i64 m]).grown (World.grownBy_alloc _ _ none) (by simp), ?_, ((Below.refl _ _).alloc (Nat.le_refl _) _).alloc (by simp) _⟩
  have := Blk.new (w.alloc (.cells #[.slice A n c, .int .i64 h, .int .i64 m] 24)) 25 [.int .i64 8]
  rwa [World.size_alloc] at this

/-- What a queue's numbers forbid. -/
def wrong (n : Nat) (h m : Int) : Prop := ¬ (1 ≤ n ∧ n ≤ 64 ∧ 0 ≤ h ∧ h < (n : Int) ∧ 0 ≤ m ∧ m ≤ (n : Int))

set_option maxRecDepth 100000 in
set_option maxHeartbeats 800000 in
theorem check_bad (A : Option Addr) (n c : Nat) (h m : Int) (w : World) (hcm : n ≤ 1000) (hw : wrong n h m) :
    Calls Try.prog 10 #[queueV A n c h m] w fun e w' => e = .returned (.int .i64 8) ∧ Below w.heap.size w w' := by
  obtain ⟨x1, x2, hbel⟩ := boxesC w A n c h m
  have R := isRoom_any (n : Int) ((w.alloc (.cells #[.slice A n c, .int .i64 h, .int .i64 m] 24)).alloc (.cells #[.int .i64 0] 25))
  have d0 := x1.cell 0
  have d1 := x1.cell 1
  have d2 := x1.cell 2
  have e0 := x2.cell 0
  have f0 := x2.free 0
  simp only [List.getElem?_cons_zero, List.getElem?_cons_succ] at d0 d1 d2 e0
  obtain ⟨_, y2, hbel8⟩ := boxesC8 w A n c h m
  have BEL := Lib.hid hbel8
  have z0 := y2.cell 0
  simp only [List.getElem?_cons_zero] at z0
  have Z0 := Lib.hid z0
  have HW := Lib.hid hw
  unfold wrong at hw
  clear hbel x1 x2 z0 y2 hbel8
  by_cases k1 : 1 ≤ (n : Int) ∧ (n : Int) ≤ 64
  case neg =>
    rw [decide_eq_false k1] at R
    have R := Lib.hid R
    clear k1 hw
    go_enter Try.func10, Try.ntmps10
    go_wp2_with fail
    refine R.out.mono ?_
    rintro e w2 ⟨rfl, rfl⟩
    go_wp2
    refine bodyPost_ret (v := .int .i64 8) ?_ rfl ⟨rfl, BEL.out⟩
    have z0 := Z0.out
    clear e0
    simp [results, Try.f10, go_sem, z0]
  rw [decide_eq_true k1] at R
  have R := Lib.hid R
  by_cases k3 : h < 0
  case pos =>
    clear hw
    go_enter Try.func10, Try.ntmps10
    go_wp2_with fail
    refine R.out.mono ?_
    rintro e w2 ⟨rfl, rfl⟩
    go_wp2
    refine bodyPost_ret (v := .int .i64 8) ?_ rfl ⟨rfl, BEL.out⟩
    have z0 := Z0.out
    clear e0
    simp [results, Try.f10, go_sem, z0]
  by_cases k4 : (n : Int) ≤ h
  case pos =>
    clear hw
    go_enter Try.func10, Try.ntmps10
    go_wp2_with fail
    refine R.out.mono ?_
    rintro e w2 ⟨rfl, rfl⟩
    go_wp2
    refine bodyPost_ret (v := .int .i64 8) ?_ rfl ⟨rfl, BEL.out⟩
    have z0 := Z0.out
    clear e0
    simp [results, Try.f10, go_sem, z0]
  by_cases k5 : m < 0
  case pos =>
    clear hw
    go_enter Try.func10, Try.ntmps10
    go_wp2_with fail
    refine R.out.mono ?_
    rintro e w2 ⟨rfl, rfl⟩
    go_wp2
    refine bodyPost_ret (v := .int .i64 8) ?_ rfl ⟨rfl, BEL.out⟩
    have z0 := Z0.out
    clear e0
    simp [results, Try.f10, go_sem, z0]
  have k6 : (n : Int) < m := by omega
  clear hw
  go_enter Try.func10, Try.ntmps10
  go_wp2_with fail
  refine R.out.mono ?_
  rintro e w2 ⟨rfl, rfl⟩
  go_wp2
  refine bodyPost_ret (v := .int .i64 8) ?_ rfl ⟨rfl, BEL.out⟩
  have z0 := Z0.out
  clear e0
  simp [results, Try.f10, go_sem, z0]

end Go.Proofs.Ytbbnfbclbhkneaa
