/- Layer 2: Seal and Open, the program's, at all arguments: one answer, in plain words. -/
import Derived.Test.YtiibmlbenamgcaaCrcS
import Derived.Test.YtiibmlbenamgcaaBase3
import Derived.Test.YtiibmlbenamgcaaCopy
import Derived.StillTailTactics
namespace Go.Proofs.Ytiibmlbenamgcaa
open Go.RowKit
set_option linter.unusedVariables false

/-- The row behind the copy. -/
theorem splice_new (b : List Int) (z : Int) (n m : Nat) (hb : b.length = n) : splice (ints .u8 (List.replicate (n + m) z)) 0 (ints .u8 b) = ints .u8 (b ++ List.replicate m z) := by
  subst hb
  simp [splice, ints, List.drop_replicate, Nat.add_sub_cancel_left]

theorem splice_all (b : List Int) (z : Int) (n : Nat) (hb : b.length = n) : splice (ints .u8 (List.replicate n z)) 0 (ints .u8 b) = ints .u8 b := by
  subst hb
  simp [splice, ints]

end Go.Proofs.Ytiibmlbenamgcaa
