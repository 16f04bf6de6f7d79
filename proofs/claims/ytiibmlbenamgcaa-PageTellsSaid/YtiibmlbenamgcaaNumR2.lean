/- Layer 1: what the document's own Digits returns, in the words of NumMath. -/
/- Layer 1: what the document's own answers return: Number, Row, Write, Read, Same. -/
import Derived.Test.YtiibmlbenamgcaaBase3
import Derived.Test.YtiibmlbenamgcaaNumW
import Derived.StillTailTactics
import Derived.Deep.RegionWith
namespace Go.Proofs.Ytiibmlbenamgcaa
open Go.RowKit
set_option linter.unusedVariables false

theorem rword_info : (Try.prog.info? 131).map (fun i => (i.zero, i.size, i.bytes)) = some (some (.int .u64 0), 1, 8) := by kernel_rfl

/-- What Digits answers. -/
def DigOut (n : Nat) (v : Int) (w : World) (e : Ending) (w' : World) : Prop :=
  ∃ A c, e = .returned (.tuple #[.slice A n c, .bool (decide (v / 256 ^ n = 0))]) ∧ w'.ownsRow w.heap.size 5 1 (.slice A n c) n (ints .u8 (digs n v)) ∧ Below w.heap.size w w'

end Go.Proofs.Ytiibmlbenamgcaa

namespace Go.Proofs.Ytiibmlbenamgcaa
open Go.RowKit
set_option linter.unusedVariables false

/-- A row of bytes, alone. -/
def RowBytes (w : World) (zs : List Int) (e : Ending) (w' : World) : Prop :=
  ∃ A c, e = .returned (.slice A zs.length c) ∧ w'.ownsRow w.heap.size 5 1 (.slice A zs.length c) zs.length (ints .u8 zs) ∧ Below w.heap.size w w'

theorem getD_word {l : List Int} (hw : ∀ z ∈ l, isWord z) (k : Nat) : isWord (l.getD k 0) := by
  rcases Nat.lt_or_ge k l.length with h | h
  · have e : l.getD k 0 = l[k] := by simp [h]
    rw [e]; exact hw _ (List.getElem_mem h)
  · have e : l.getD k 0 = 0 := by simp [h]
    rw [e]; exact ⟨by omega, by omega⟩

end Go.Proofs.Ytiibmlbenamgcaa
