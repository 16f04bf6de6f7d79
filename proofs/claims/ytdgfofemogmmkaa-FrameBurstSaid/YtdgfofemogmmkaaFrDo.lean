/- Layer 15: what the program's five calls do. No statement is proved here. -/
import Derived.Test.YtdgfofemogmmkaaFrD
import Derived.Test.YtdgfofemogmmkaaFrP2
import Derived.Test.YtdgfofemogmmkaaFrP3
import Derived.Test.YtdgfofemogmmkaaFrP5
namespace Go.Proofs.Ytdgfofemogmmkaa
open Go.RowKit
set_option linter.unusedVariables false

theorem frame_does : FrameDoes where
  check a b c d A n k w _ _ _ _ _ := pcheck15_any a b c d A n k w
  write a b c d A n k z w h hz va vb vc vd := pwrite15_any a b c d A n k z w h hz va vb vc vd
  read A n k t w h hz _ := pread15_any A n k t w h hz
  same a b c d A n k z a2 b2 c2 d2 A2 n2 k2 z2 w h h2 hz hz2 _ _ _ _ _ _ _ _ _ _ := psame15_any a b c d A n k z a2 b2 c2 d2 A2 n2 k2 z2 w h h2 hz hz2
  twin a b c d A n k z w h hz _ _ _ _ hn := ptwin15_any a b c d A n k z w h (Nat.le_trans hn (by decide))
end Go.Proofs.Ytdgfofemogmmkaa
