/- Layer 7, package place: one of the parts, out of the array. No statement is proved here. -/
import Derived.Test.YtghdcajojbbllaaPlP3
namespace Go.Proofs.Ytghdcajojbbllaa
open Go.RowKit
set_option linter.unusedVariables false

theorem ix_parts {i : Nat} (hi : i < 4) (cs : Array Value) (w : World) : (Instr.index 109 (.agg cs) (.int .i64 (i : Int))).run Try.prog w = .ok (.agg (cs.extract (i * 5) (i * 5 + 5))) w := by
  have hs : (Try.prog.info? 108).map (·.size) = some 5 := by kernel_rfl
  have h4 : (i : Int) < 4 := by omega
  have h6 : ¬ 4 ≤ i := by omega
  cases hq : Try.prog.info? 108 with
  | none => simp [hq] at hs
  | some f =>
    have h5 : f.size = 5 := by simpa [hq] using hs
    simp [Instr.index, run_underlying Try.underlying109, run_underlying Try.underlying108, asIntOf, part, sizeOf, typeInfo, isAgg, hq, h5, h6]

theorem ix_0 (P T A g p t : Int) (w : World) : (Instr.index 109 (.agg #[.int .u8 1, .int .i64 0, .int .i64 1, .int .i64 1, .int .i64 2, .int .u8 2, .int .i64 2, .int .i64 2, .int .i64 A, .int .i64 1, .int .u8 3, .int .i64 p, .int .i64 P, .int .i64 g, .int .i64 1, .int .u8 4, .int .i64 t, .int .i64 P, .int .i64 T, .int .i64 4]) (.int .i64 0)).run Try.prog w = .ok (.agg #[.int .u8 1, .int .i64 0, .int .i64 1, .int .i64 1, .int .i64 2]) w := by
  have := ix_parts (i := 0) (by omega) #[.int .u8 1, .int .i64 0, .int .i64 1, .int .i64 1, .int .i64 2, .int .u8 2, .int .i64 2, .int .i64 2, .int .i64 A, .int .i64 1, .int .u8 3, .int .i64 p, .int .i64 P, .int .i64 g, .int .i64 1, .int .u8 4, .int .i64 t, .int .i64 P, .int .i64 T, .int .i64 4] w
  simpa using this
theorem ix_1 (P T A g p t : Int) (w : World) : (Instr.index 109 (.agg #[.int .u8 1, .int .i64 0, .int .i64 1, .int .i64 1, .int .i64 2, .int .u8 2, .int .i64 2, .int .i64 2, .int .i64 A, .int .i64 1, .int .u8 3, .int .i64 p, .int .i64 P, .int .i64 g, .int .i64 1, .int .u8 4, .int .i64 t, .int .i64 P, .int .i64 T, .int .i64 4]) (.int .i64 1)).run Try.prog w = .ok (.agg #[.int .u8 2, .int .i64 2, .int .i64 2, .int .i64 A, .int .i64 1]) w := by
  have := ix_parts (i := 1) (by omega) #[.int .u8 1, .int .i64 0, .int .i64 1, .int .i64 1, .int .i64 2, .int .u8 2, .int .i64 2, .int .i64 2, .int .i64 A, .int .i64 1, .int .u8 3, .int .i64 p, .int .i64 P, .int .i64 g, .int .i64 1, .int .u8 4, .int .i64 t, .int .i64 P, .int .i64 T, .int .i64 4] w
  simpa using this
theorem ix_2 (P T A g p t : Int) (w : World) : (Instr.index 109 (.agg #[.int .u8 1, .int .i64 0, .int .i64 1, .int .i64 1, .int .i64 2, .int .u8 2, .int .i64 2, .int .i64 2, .int .i64 A, .int .i64 1, .int .u8 3, .int .i64 p, .int .i64 P, .int .i64 g, .int .i64 1, .int .u8 4, .int .i64 t, .int .i64 P, .int .i64 T, .int .i64 4]) (.int .i64 2)).run Try.prog w = .ok (.agg #[.int .u8 3, .int .i64 p, .int .i64 P, .int .i64 g, .int .i64 1]) w := by
  have := ix_parts (i := 2) (by omega) #[.int .u8 1, .int .i64 0, .int .i64 1, .int .i64 1, .int .i64 2, .int .u8 2, .int .i64 2, .int .i64 2, .int .i64 A, .int .i64 1, .int .u8 3, .int .i64 p, .int .i64 P, .int .i64 g, .int .i64 1, .int .u8 4, .int .i64 t, .int .i64 P, .int .i64 T, .int .i64 4] w
  simpa using this
theorem ix_3 (P T A g p t : Int) (w : World) : (Instr.index 109 (.agg #[.int .u8 1, .int .i64 0, .int .i64 1, .int .i64 1, .int .i64 2, .int .u8 2, .int .i64 2, .int .i64 2, .int .i64 A, .int .i64 1, .int .u8 3, .int .i64 p, .int .i64 P, .int .i64 g, .int .i64 1, .int .u8 4, .int .i64 t, .int .i64 P, .int .i64 T, .int .i64 4]) (.int .i64 3)).run Try.prog w = .ok (.agg #[.int .u8 4, .int .i64 t, .int .i64 P, .int .i64 T, .int .i64 4]) w := by
  have := ix_parts (i := 3) (by omega) #[.int .u8 1, .int .i64 0, .int .i64 1, .int .i64 1, .int .i64 2, .int .u8 2, .int .i64 2, .int .i64 2, .int .i64 A, .int .i64 1, .int .u8 3, .int .i64 p, .int .i64 P, .int .i64 g, .int .i64 1, .int .u8 4, .int .i64 t, .int .i64 P, .int .i64 T, .int .i64 4] w
  simpa using this
/-- Two bounds, held. -/
theorem within2_yes (a l m n k o : Int) (g : Nat) (t : TypeId) (w : World) (hg : g = w.heap.size) (h1 : l ≤ a ∧ a ≤ m) (h2 : k ≤ n ∧ n ≤ o) :
    Calls Try.prog 69 #[.slice (some ⟨g, 0, none⟩) 2 2] (w.alloc (.cells #[.int .i64 a, .int .i64 l, .int .i64 m, .int .i64 n, .int .i64 k, .int .i64 o] t)) fun e w' => e = .returned (.bool true) ∧ Below w.heap.size w w' :=
  (within_any g 2 _ _ (bnds2 w g t a l m n k o hg) (by omega) true (fun _ => rfl) (fun j hj hno => by
    match j, hj with
    | 0, _ => exact absurd h1 hno
    | 1, _ => exact absurd h2 hno)).mono fun e w' h => ⟨h.1, ((Below.refl _ _).alloc (Nat.le_refl _) _).trans (h.2.mono (by simp))⟩
theorem within2_no (a l m n k o : Int) (g : Nat) (t : TypeId) (w : World) (hg : g = w.heap.size) (h : ¬ ((l ≤ a ∧ a ≤ m) ∧ (k ≤ n ∧ n ≤ o))) :
    Calls Try.prog 69 #[.slice (some ⟨g, 0, none⟩) 2 2] (w.alloc (.cells #[.int .i64 a, .int .i64 l, .int .i64 m, .int .i64 n, .int .i64 k, .int .i64 o] t)) fun e w' => e = .returned (.bool false) ∧ Below w.heap.size w w' :=
  (within_any g 2 _ _ (bnds2 w g t a l m n k o hg) (by omega) false (fun hall => absurd ⟨hall 0 (by omega), hall 1 (by omega)⟩ h) (fun _ _ _ => rfl)).mono fun e w' h => ⟨h.1, ((Below.refl _ _).alloc (Nat.le_refl _) _).trans (h.2.mono (by simp))⟩
theorem within1_yes (a l m : Int) (g : Nat) (t : TypeId) (w : World) (hg : g = w.heap.size) (h1 : l ≤ a ∧ a ≤ m) :
    Calls Try.prog 69 #[.slice (some ⟨g, 0, none⟩) 1 1] (w.alloc (.cells #[.int .i64 a, .int .i64 l, .int .i64 m] t)) fun e w' => e = .returned (.bool true) ∧ Below w.heap.size w w' :=
  (within_any g 1 _ _ (bnds1 w g t a l m hg) (by omega) true (fun _ => rfl) (fun j hj hno => by
    match j, hj with
    | 0, _ => exact absurd h1 hno)).mono fun e w' h => ⟨h.1, ((Below.refl _ _).alloc (Nat.le_refl _) _).trans (h.2.mono (by simp))⟩
theorem within1_no (a l m : Int) (g : Nat) (t : TypeId) (w : World) (hg : g = w.heap.size) (h : ¬ (l ≤ a ∧ a ≤ m)) :
    Calls Try.prog 69 #[.slice (some ⟨g, 0, none⟩) 1 1] (w.alloc (.cells #[.int .i64 a, .int .i64 l, .int .i64 m] t)) fun e w' => e = .returned (.bool false) ∧ Below w.heap.size w w' :=
  (within_any g 1 _ _ (bnds1 w g t a l m hg) (by omega) false (fun hall => absurd (hall 0 (by omega)) h) (fun _ _ _ => rfl)).mono fun e w' h => ⟨h.1, ((Below.refl _ _).alloc (Nat.le_refl _) _).trans (h.2.mono (by simp))⟩

end Go.Proofs.Ytghdcajojbbllaa
