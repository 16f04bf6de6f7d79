/- Texts of the layers below, joined. -/
import Derived.Test.YtdbeiikaeccbhaaDa39
import Derived.Lib.SmallJoins
set_option maxRecDepth 100000
set_option maxHeartbeats 12800000
set_option linter.unusedVariables false
namespace Go.Proofs.Ytdbeiikaeccbhaa
open Go.RowKit
theorem walk_DiffMarks (P T A M Wi Q:Int) (a1:Int) (a2:Option Addr) (len2 cap2:Nat) (z2:List Int) (a3:Option Addr) (len3 cap3:Nat) (z3:List Int) (a4:Int) (w:World) (w0a:(Lit.int .i64 P).wf=true) (w0b:(Lit.int .i64 T).wf=true) (w0c:(Lit.int .i64 A).wf=true) (w0d:(Lit.int .i64 M).wf=true) (w0e:(Lit.int .i64 Wi).wf=true) (w0f:(Lit.int .i64 Q).wf=true) (w1:(Lit.int .i64 a1).wf=true) (w2:IsRow .u8 w a2 len2 cap2 z2) (w3:IsRow .u8 w a3 len3 cap3 z3) (w4:(Lit.int .i64 a4).wf=true) :
  Calls Try.prog 4 #[cfgV P T A M Wi Q,.int .i64 a1,.slice a2 len2 cap2,.slice a3 len3 cap3,.int .i64 a4] w fun e w'=>e=.returned (.bool true)∧Below w.heap.size w w':=by
 obtain ⟨l2,hl2,hw2⟩:=w2.arg
 obtain ⟨l3,hl3,hw3⟩:=w3.arg
 exact dmarks_of diff_does P T A M Wi Q a1 a2 len2 cap2 l2 a3 len3 cap3 l3 a4 w hl2 hl3 (fun z hz=>wf_byte (hw2 z hz)) (fun z hz=>wf_byte (hw3 z hz))
end Go.Proofs.Ytdbeiikaeccbhaa
