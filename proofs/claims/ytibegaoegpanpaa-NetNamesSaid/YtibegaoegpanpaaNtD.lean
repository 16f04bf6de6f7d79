/- Layer 16: what the program's six calls do (as a structure of contracts). No statement is proved here. -/
import Derived.Test.YtibegaoegpanpaaNtR2
import Derived.Test.YtibegaoegpanpaaNtS
namespace Go.Proofs.Ytibegaoegpanpaa
open Go.RowKit
set_option linter.unusedVariables false

/-- The last text lies in another block than each of the others. -/
def LastApart (w : World) (A : Option Addr) (m : Nat) : Prop :=
  ∀ (gA i : Nat) (Ai Aj : Option Addr) (ni ci nj cj g : Nat), A = some ⟨gA, 0, none⟩ → i < m → w.cell? ⟨gA, i, none⟩ = some (.slice Ai ni ci) → w.cell? ⟨gA, m, none⟩ = some (.slice Aj nj cj) → (Value.slice Aj nj cj).ownBlock = some g → (Value.slice Ai ni ci).ownBlock ≠ some g
/-- A net of the call's own beside an error; where it is one longer, its last text lies apart. -/
def TwiceOut (w : World) (q : List Text) (i : Int) (e : Ending) (w' : World) : Prop :=
  ∃ A c, e = .returned (.tuple #[.slice A (twL q i).length c, .int .i64 (ntE2 q i)]) ∧ OwnTexts w' w.heap.size A (twL q i).length c (twL q i) ∧ ((twL q i).length = q.length + 1 → LastApart w' A q.length) ∧ Below w.heap.size w w'
/-- What the program's calls do. -/
structure NetDoes : Prop where
  check : ∀ (A : Option Addr) (n c : Nat) (q : List Text) (w : World), Texts w A n c q → Small q → Calls Try.prog 18 #[.slice A n c] w fun e w' => e = .returned (.int .i64 (ntE q)) ∧ Below w.heap.size w w'
  send : ∀ (A : Option Addr) (n c : Nat) (q : List Text) (A' : Option Addr) (n' c' : Nat) (b : Text) (w : World), Texts w A n c q → Small q → Arg w .u8 A' n' c' b → (∀ z ∈ b, isByte z) → n' ≤ 200 → Calls Try.prog 6 #[.slice A n c, .slice A' n' c'] w (TextsOut w (sdL q b) (ntE q))
  take : ∀ (A : Option Addr) (n c : Nat) (q : List Text) (i : Int) (w : World), Texts w A n c q → Small q → Calls Try.prog 8 #[.slice A n c, .int .i64 i] w (TakeOut w (tkL q i) (tkB q i) (ntE2 q i))
  twice : ∀ (A : Option Addr) (n c : Nat) (q : List Text) (i : Int) (w : World), Texts w A n c q → Small q → Calls Try.prog 7 #[.slice A n c, .int .i64 i] w (TwiceOut w q i)
  same : ∀ (A : Option Addr) (n c : Nat) (a : List Text) (A' : Option Addr) (n' c' : Nat) (b : List Text) (w : World), Texts w A n c a → Texts w A' n' c' b → Small a → Small b → Calls Try.prog 17 #[.slice A n c, .slice A' n' c'] w fun e w' => e = .returned (.bool (decide (a = b))) ∧ Below w.heap.size w w'
  twin : ∀ (A : Option Addr) (n c : Nat) (q : List Text) (w : World), Texts w A n c q → Small q → Calls Try.prog 15 #[.slice A n c] w (OneTexts w q)

theorem TextsOut.is {w : World} {q q' : List Text} {E E' : Int} {e : Ending} {w' : World} (x : TextsOut w q E e w') {n : Nat} (hq : q = q') (hE : E = E') (hn : q'.length = n) :
    ∃ A c, e = .returned (.tuple #[.slice A n c, .int .i64 E']) ∧ OwnTexts w' w.heap.size A n c q' ∧ Below w.heap.size w w' := by
  subst hq; subst hE; subst hn; exact x
theorem TwiceOut.is {w : World} {q q' : List Text} {i E' : Int} {e : Ending} {w' : World} (x : TwiceOut w q i e w') {n : Nat} (hq : twL q i = q') (hE : ntE2 q i = E') (hn : q'.length = n) :
    ∃ A c, e = .returned (.tuple #[.slice A n c, .int .i64 E']) ∧ OwnTexts w' w.heap.size A n c q' ∧ (n = q.length + 1 → LastApart w' A q.length) ∧ Below w.heap.size w w' := by
  subst hq; subst hE; subst hn; exact x
theorem TakeOut.is {w : World} {q q' : List Text} {b b' : Text} {E E' : Int} {e : Ending} {w' : World} (x : TakeOut w q b E e w') {n k : Nat} (hq : q = q') (hb : b = b') (hE : E = E') (hn : q'.length = n) (hk : b'.length = k) :
    ∃ A c A2 c2, e = .returned (.tuple #[.slice A n c, .slice A2 k c2, .int .i64 E']) ∧ OwnTexts w' w.heap.size A n c q' ∧ w'.ownsRow w.heap.size 5 1 (.slice A2 k c2) k (ints .u8 b') ∧ Below w.heap.size w w' := by
  subst hq; subst hb; subst hE; subst hn; subst hk; exact x
/-- A literal of three texts that lie in memory. -/
theorem lit_three {w : World} {b : Nat} (hb0 : b = w.heap.size) {A A' A2 : Option Addr} {n c n' c' n2 c2 : Nat} {x y z : Text} (hx : Arg w .u8 A n c x) (hy : Arg w .u8 A' n' c' y) (hz : Arg w .u8 A2 n2 c2 z) (bx : ∀ v ∈ x, isByte v) (by' : ∀ v ∈ y, isByte v) (bz : ∀ v ∈ z, isByte v) :
    Texts (w.alloc (.cells #[.slice A n c, .slice A' n' c', .slice A2 n2 c2] 26)) (some ⟨b, 0, none⟩) 3 3 [x, y, z] := by
  subst hb0
  have hb : Below w.heap.size w (w.alloc (.cells #[.slice A n c, .slice A' n' c', .slice A2 n2 c2] 26)) := (Below.refl _ _).alloc (Nat.le_refl _) _
  have x1 := Blk.new w 26 [.slice A n c, .slice A' n' c', .slice A2 n2 c2]
  refine ⟨rfl, Nat.le_refl _, by decide, fun zs hzs => ?_, fun i hi => ?_⟩
  · simp only [List.mem_cons, List.not_mem_nil, or_false] at hzs
    rcases hzs with rfl | rfl | rfl
    · exact bx
    · exact by'
    · exact bz
  · match i, hi with
    | 0, _ => exact ⟨_, 0, A, n, c, rfl, x1.lt, x1.cell 0, hx.below hb⟩
    | 1, _ => exact ⟨_, 0, A', n', c', rfl, x1.lt, x1.cell 1, hy.below hb⟩
    | 2, _ => exact ⟨_, 0, A2, n2, c2, rfl, x1.lt, x1.cell 2, hz.below hb⟩
end Go.Proofs.Ytibegaoegpanpaa
