/- Texts of layers 1 to 12, joined. -/
import Derived.Test.YtifgcfepbenpjaaGreatNb22
set_option maxRecDepth 100000
set_option maxHeartbeats 12800000
set_option linter.unusedVariables false
namespace Go.Proofs.YtifgcfepbenpjaaGreat
open Go.RowKit
theorem Blk.rec {w:World} {g:Nat} {t:TypeId} {r:Rc} (h:Blk w g t (recL r)):w.cell? ⟨g,0,none⟩=some (.int .i64 r.p)∧w.cell? ⟨g,1,none⟩=some (.int .u32 r.b)∧w.cell? ⟨g,2,none⟩=some (.int .u32 r.e)∧w.cell? ⟨g,3,none⟩=some (.int .i64 r.l)∧w.cell? ⟨g,4,none⟩=some (.int .u8 r.h)∧w.cell? ⟨g,5,none⟩=some (.int .i64 r.f)∧w.cell? ⟨g,6,none⟩=some (.bool r.q)∧w.cell? ⟨g,7,none⟩=some (.bool r.a) :=
 ⟨h.cell 0,h.cell 1,h.cell 2,h.cell 3,h.cell 4,h.cell 5,h.cell 6,h.cell 7⟩
theorem rec_box (w:World) (r:Rc):Blk (w.alloc (.cells #[.int .i64 r.p,.int .u32 r.b,.int .u32 r.e,.int .i64 r.l,.int .u8 r.h,.int .i64 r.f,.bool r.q,.bool r.a] 64)) w.heap.size 64 (recL r)∧Below w.heap.size w (w.alloc (.cells #[.int .i64 r.p,.int .u32 r.b,.int .u32 r.e,.int .i64 r.l,.int .u8 r.h,.int .i64 r.f,.bool r.q,.bool r.a] 64)):=⟨Blk.new w 64 (recL r),(Below.refl _ _).alloc (Nat.le_refl _) _⟩
end Go.Proofs.YtifgcfepbenpjaaGreat
