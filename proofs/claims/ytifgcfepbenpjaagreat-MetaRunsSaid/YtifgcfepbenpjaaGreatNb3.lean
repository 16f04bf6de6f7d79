/- Texts of layers 1 to 12, joined. -/
import Derived.Test.YtifgcfepbenpjaaGreatNb1
import Derived.Lib.SmallJoins
import Derived.WalkMore
import Derived.ScopeJumps
import Derived.StillTailTactics
import Derived.Deep.RegionWith
import Derived.Deep.QuietTactic
import Derived.BigQuiet
import Derived.Deep.RegionHeld3
set_option maxRecDepth 100000
set_option maxHeartbeats 12800000
set_option linter.unusedVariables false
namespace Go.Proofs.YtifgcfepbenpjaaGreat
open Go.RowKit Go.OpenShut Go.ChangeShapes Go.WideShapes Go.Deep Go.Joins
abbrev cfgV (P T A M W Q:Int):Value:=.agg #[.int .i64 P,.int .i64 T,.int .i64 A,.int .i64 M,.int .i64 W,.int .i64 Q]
def mayC (P T A M W Q:Int):Prop:=1≤P∧P≤3∧1≤T∧T≤16∧P + 2≤A∧A≤32∧1≤M∧M≤P∧1≤W∧W≤4∧4≤Q∧Q≤64
instance (P T A M W Q:Int):Decidable (mayC P T A M W Q):=by unfold mayC;infer_instance
def pagC (T:Int):Int:=if 8 < T then 2 else 1
theorem pagC_or (T:Int):(pagC T=2∧8 < T)∨(pagC T=1∧T≤8):=by unfold pagC;split <;> omega
def fP (A:Int):Int:=2 + 2 * A
def fT (P T A:Int):Int:=2 + 2 * A + P * pagC T
def fE (P T A:Int):Int:=2 + 2 * A + P * pagC T + 4 * P * T
def chkC (P T A M W Q:Int):Int:=if mayC P T A M W Q then 0 else 8
def secN (P T A M W Q:Int):Int:=if mayC P T A M W Q then fE P T A else 0
def areE (P T A M W Q a n:Int):Int:=if mayC P T A M W Q then (if 0≤a∧a≤1∧0≤n∧n≤A - 1 then 0 else 2) else 8
def areN (P T A M W Q a n:Int):Int:=if mayC P T A M W Q then (if 0≤a∧a≤1∧0≤n∧n≤A - 1 then 2 + a * A + n else 0) else 0
theorem mul3 {a:Int} (h0:0≤a) (h3:a≤3) (b:Int):(a=0∧a * b=0)∨(a=1∧a * b=b)∨(a=2∧a * b=2 * b)∨(a=3∧a * b=3 * b):=by
 have:a=0∨a=1∨a=2∨a=3:=by omega
 rcases this with h | h | h | h <;> subst h <;> simp
theorem mul43 {a:Int} (h0:0≤a) (h3:a≤3) (b:Int):4 * a * b=4 * (a * b):=Int.mul_assoc 4 a b
theorem bounds_may {P T A M W Q:Int} (h:mayC P T A M W Q):0≤P * T∧P * T≤48∧1≤pagC T∧pagC T≤2∧1≤P * pagC T∧P * pagC T≤6∧4 * P * T=4 * (P * T):=by
 obtain ⟨h1,h2,h3,h4,h5,h6,h7⟩:=h
 rw [mul43 (by omega) h2]
 rcases mul3 (by omega) h2 T with h | h | h | h <;> rcases mul3 (by omega) h2 (pagC T) with k | k | k | k <;> rcases pagC_or T with p | p <;> omega
theorem fE_le {P T A M W Q:Int} (h:mayC P T A M W Q):6≤fE P T A∧fE P T A≤264:=by
 have hb:=bounds_may h
 obtain ⟨h1,h2,h3,h4,h5,h6,h7⟩:=h
 unfold fE
 omega
theorem box_cfg (w:World) (P T A M W Q:Int) :
  Blk (w.alloc (.cells #[.int .i64 P,.int .i64 T,.int .i64 A,.int .i64 M,.int .i64 W,.int .i64 Q] 36)) w.heap.size 36 [.int .i64 P,.int .i64 T,.int .i64 A,.int .i64 M,.int .i64 W,.int .i64 Q] ∧
  Below w.heap.size w (w.alloc (.cells #[.int .i64 P,.int .i64 T,.int .i64 A,.int .i64 M,.int .i64 W,.int .i64 Q] 36)) :=
 ⟨Blk.new w 36 [.int .i64 P,.int .i64 T,.int .i64 A,.int .i64 M,.int .i64 W,.int .i64 Q],(Below.refl _ _).alloc (Nat.le_refl _) _⟩
theorem Blk.cfg {w:World} {g:Nat} {t:TypeId} {P T A M W Q:Int} (h:Blk w g t [.int .i64 P,.int .i64 T,.int .i64 A,.int .i64 M,.int .i64 W,.int .i64 Q]) :
  w.cell? ⟨g,0,none⟩=some (.int .i64 P)∧w.cell? ⟨g,1,none⟩=some (.int .i64 T)∧w.cell? ⟨g,2,none⟩=some (.int .i64 A)∧w.cell? ⟨g,3,none⟩=some (.int .i64 M)∧w.cell? ⟨g,4,none⟩=some (.int .i64 W)∧w.cell? ⟨g,5,none⟩=some (.int .i64 Q) :=
 ⟨h.cell 0,h.cell 1,h.cell 2,h.cell 3,h.cell 4,h.cell 5⟩
section
variable {P:Program} {w:World} {base:Nat} {H:Type} {enc:TypeId × Value→H}
end
end Go.Proofs.YtifgcfepbenpjaaGreat
namespace Go.Proofs.YtifgcfepbenpjaaGreat
open Go.RowKit
theorem wrap_sm {x:Int} (h0:-100000≤x) (h1:x≤100000):IntKind.i64.wrap x=x:=by simp [IntKind.wrap_i64];omega
end Go.Proofs.YtifgcfepbenpjaaGreat
