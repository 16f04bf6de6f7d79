/- Layer 5: what the program's nine calls do. -/
import Derived.Test.YteinfkjlcpfeiaaDskF
import Derived.Test.YteinfkjlcpfeiaaDskWr
import Derived.Test.YteinfkjlcpfeiaaDskRd
import Derived.Test.YteinfkjlcpfeiaaDskS
import Derived.Test.YteinfkjlcpfeiaaDiskW
namespace Go.Proofs.Yteinfkjlcpfeiaa
open Go.RowKit

/-- The program's nine calls do what the walks of the statements ask. -/
theorem dsk_does : DskDoes where
  new := fun m w _ => pnew_any m w
  check := fun A n c A' n' c' S C w hq _ => check_any A n c A' n' c' S C w hq
  write := fun A n c A' n' c' S C t Ab nb cb b w hq hs hb hby hbl => pwrite_any A n c A' n' c' S C t Ab nb cb b w hq hs hb hby hbl
  read := fun A n c A' n' c' S C t w hq hs => pread_any A n c A' n' c' S C t w hq hs
  waits := fun A n c A' n' c' S C t w hq hs => pwaits_any A n c A' n' c' S C t w hq hs
  flush := fun A n c A' n' c' S C w hq hs => pflush_any A n c A' n' c' S C w hq hs
  crash := fun A n c A' n' c' S C Af nf cf F w hq hs hf hfb _ => pcrash_any A n c A' n' c' S C Af nf cf F w hq hs hf hfb
  same := fun A n c A' n' c' S C B m d B' m' d' T D w hq hr _ _ => psame_any A n c A' n' c' S C B m d B' m' d' T D w hq hr
  twin := fun A n c A' n' c' S C w hq hs => ptwin_any A n c A' n' c' S C w hq hs

end Go.Proofs.Yteinfkjlcpfeiaa
