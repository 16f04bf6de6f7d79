/- Texts of layers 1 to 12, joined. -/
import Derived.Test.YtifgcfepbenpjaaGreatNa17
import Derived.Test.YtifgcfepbenpjaaGreatNa23
import Derived.Deep.RegionWith
import Derived.Deep.QuietTactic
import Derived.BigQuiet
set_option maxRecDepth 100000
set_option maxHeartbeats 12800000
set_option linter.unusedVariables false
namespace Go.Proofs.YtifgcfepbenpjaaGreat
open Go.RowKit
theorem method_note (g n : Int) (A : Option Addr) (k c : Nat) (w : World) : (method 415 219 (.agg #[.int .u64 g, .int .i64 n, .slice A k c]) "catamaran/journal.text").run Tryz.prog w = .ok (230, .agg #[.int .u64 g, .int .i64 n, .slice A k c]) w := by kernel_rfl
theorem method_fault (E : Int) (w : World) : (method 415 220 (.int .i64 E) "catamaran/journal.text").run Tryz.prog w = .ok (231, .int .i64 E) w := by kernel_rfl
end Go.Proofs.YtifgcfepbenpjaaGreat
