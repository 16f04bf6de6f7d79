/- Layer 11: the law's own record. -/
import Derived.Test.YthoflogegopikaaRecW
namespace Go.Proofs.Ythoflogegopikaa
open Go.RowKit
set_option linter.unusedVariables false

theorem one11_any (w : World) : Calls Try.prog 9 #[] w fun e w' => e = .returned (recV ⟨1, 258, 3, 1, 1, 0, true, true⟩) ∧ Below w.heap.size w w' := by
  have y := Blk.new w 24 [.int .i64 1, .int .u32 258, .int .u32 3, .int .i64 1, .int .u8 1, .int .i64 0, .bool true, .bool true]
  have HB := Lib.hid (show Below w.heap.size w (w.alloc (.cells #[.int .i64 1, .int .u32 258, .int .u32 3, .int .i64 1, .int .u8 1, .int .i64 0, .bool true, .bool true] 24)) from (Below.refl _ _).alloc (Nat.le_refl _) _)
  obtain ⟨c0, c1, c2, c3, c4, c5, c6, c7⟩ := Blk.rec (r := ⟨1, 258, 3, 1, 1, 0, true, true⟩) y
  clear y
  dsimp only at c0 c1 c2 c3 c4 c5 c6 c7
  go_enter Try.func9, Try.ntmps9
  go_wp2
  refine bodyPost_ret (v := recV ⟨1, 258, 3, 1, 1, 0, true, true⟩) ?_ rfl ⟨rfl, HB.out⟩
  simp [results, Try.f9, go_sem, c0, c1, c2, c3, c4, c5, c6, c7]
end Go.Proofs.Ythoflogegopikaa
