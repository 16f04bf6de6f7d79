/- Texts of the layers below, joined. -/
import Derived.Test.YtdbeiikaeccbhaaDa22
import Derived.WalkSpells
set_option maxRecDepth 100000
set_option maxHeartbeats 12800000
set_option linter.unusedVariables false
namespace Go.Proofs.Ytdbeiikaeccbhaa
open Go.RowKit
theorem DiskOut.as {w:World} {S S':List Sec} {C C':List Pnd} {E E':Int} {e:Ending} {w':World} (x:DiskOut w S C E e w') {n n':Nat} (hS:S=S') (hC:C=C') (hE:E=E') (hn:S'.length=n) (hn':C'.length=n') :
  ∃ A c A' c',e=.returned (.tuple #[diskV A n c A' n' c',.int .i64 E'])∧OwnDsk w' w.heap.size A n c A' n' c' S' C'∧Below w.heap.size w w':=by
 subst hS;subst hC;subst hE;subst hn;subst hn';exact x
end Go.Proofs.Ytdbeiikaeccbhaa
