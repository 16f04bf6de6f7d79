/- Layer 4: what the walks of the statements ask of the program; a queue in its box. -/
import Derived.Test.YtbbnfbclbhkneaaRingS
namespace Go.Proofs.Ytbbnfbclbhkneaa
open Go.RowKit
set_option linter.unusedVariables false

/-- The seven calls, at all arguments that the statements go through. -/
structure RingDoes : Prop where
  new : ∀ (r : Int) (w : World), Calls Try.prog 7 #[.int .i64 r] w (QueueOut w (newI r) 0 0 (newE r))
  check : ∀ (A : Option Addr) (n c : Nat) (h m : Int) (q : List Text) (w : World), Texts w A n c q → Small q → Calls Try.prog 10 #[queueV A n c h m] w fun e w' => e = .returned (.int .i64 (chkQ q h m)) ∧ Below w.heap.size w w'
  push : ∀ (A : Option Addr) (n c : Nat) (h m : Int) (q : List Text) (A' : Option Addr) (n' c' : Nat) (b : Text) (w : World), Texts w A n c q → Small q → Arg w .u8 A' n' c' b → (∀ z ∈ b, isByte z) → b.length ≤ 200 →
    Calls Try.prog 13 #[queueV A n c h m, .slice A' n' c'] w (QueueOut w (pushI q h m b) (pushH q h m) (pushM q h m) (pushE q h m))
  pop : ∀ (A : Option Addr) (n c : Nat) (h m : Int) (q : List Text) (w : World), Texts w A n c q → Small q → Calls Try.prog 8 #[queueV A n c h m] w (PopOut w (popI q h m) (popH q h m) (popM q h m) (popB q h m) (popE q h m))
  list : ∀ (A : Option Addr) (n c : Nat) (h m : Int) (q : List Text) (w : World), Texts w A n c q → Small q → Calls Try.prog 16 #[queueV A n c h m] w (TextsOut w (listT q h m) (chkQ q h m))
  same : ∀ (A : Option Addr) (n c : Nat) (h m : Int) (a : List Text) (A' : Option Addr) (n' c' : Nat) (h' m' : Int) (b : List Text) (w : World), Texts w A n c a → Texts w A' n' c' b → Small a → Small b →
    Calls Try.prog 24 #[queueV A n c h m, queueV A' n' c' h' m'] w fun e w' => e = .returned (.bool (sameB a h m b h' m')) ∧ Below w.heap.size w w'
  twin : ∀ (A : Option Addr) (n c : Nat) (h m : Int) (q : List Text) (w : World), Texts w A n c q → Small q → Calls Try.prog 23 #[queueV A n c h m] w fun e w' => ∃ A' c', e = .returned (queueV A' n c' h m) ∧ OwnTexts w' w.heap.size A' n c' q ∧ Below w.heap.size w w'

/-- A queue in its box. -/
structure QBox (w : World) (B : Nat) (A : Option Addr) (n c : Nat) (h m : Int) (q : List Text) : Prop where
  blk : Blk w B 24 [.slice A n c, .int .i64 h, .int .i64 m]
  txt : Texts w A n c q
section
variable {w w' : World} {B : Nat} {A : Option Addr} {n c : Nat} {h m : Int} {q : List Text}
theorem QBox.below (x : QBox w B A n c h m q) (hb : Below w.heap.size w w') : QBox w' B A n c h m q := ⟨x.blk.below hb x.blk.lt, x.txt.below hb⟩
theorem QBox.new (h m : Int) (t : Texts w A n c q) : QBox (w.alloc (.cells #[.slice A n c, .int .i64 h, .int .i64 m] 24)) w.heap.size A n c h m q :=
  ⟨Blk.new w 24 [.slice A n c, .int .i64 h, .int .i64 m], t.below ((Below.refl _ _).alloc (Nat.le_refl _) _)⟩
theorem QBox.cells (x : QBox w B A n c h m q) : w.cell? ⟨B, 0, none⟩ = some (.slice A n c) ∧ w.cell? ⟨B, 1, none⟩ = some (.int .i64 h) ∧ w.cell? ⟨B, 2, none⟩ = some (.int .i64 m) :=
  ⟨x.blk.cell 0, x.blk.cell 1, x.blk.cell 2⟩
theorem QBox.alloc (x : QBox w B A n c h m q) (o : Obj) : QBox (w.alloc o) B A n c h m q := x.below ((Below.refl _ _).alloc (Nat.le_refl _) o)
theorem QBox.lt (x : QBox w B A n c h m q) : B < w.heap.size := x.blk.lt
theorem sameB_self (q : List Text) (h m : Int) : sameB q h m q h m = true := by simp [sameB]
end
theorem newI_small (r : Int) : Small (newI r) := by
  unfold newI
  split
  · rename_i h
    have : 1 ≤ r ∧ r ≤ 64 := by
      unfold newE at h
      split at h
      · assumption
      · omega
    exact ⟨by rw [List.length_replicate]; omega, fun t ht => by rw [List.eq_of_mem_replicate ht]; simp⟩
  · exact ⟨by simp, by simp⟩

end Go.Proofs.Ytbbnfbclbhkneaa
