/- Texts of the layers below, joined. -/
import Derived.Test.YtdbeiikaeccbhaaDa39
import Derived.Test.YtdbeiikaeccbhaaDa44
import Derived.Lib.SmallJoins
set_option maxRecDepth 100000
set_option maxHeartbeats 12800000
set_option linter.unusedVariables false
namespace Go.Proofs.Ytdbeiikaeccbhaa
open Go.RowKit
theorem walk_DiffCrash (P T A M Wi Q:Int) (a1:Option Addr) (len1 cap1:Nat) (b1:Option Addr) (lenb1 capb1:Nat) (S1:List Sec) (C1:List Pnd) (a2:Int) (a3:Option Addr) (len3 cap3:Nat) (z3:List Int) (a4 a5 a6:Int) (a7:Option Addr) (len7 cap7:Nat) (z7:List Int) (w:World) (w0a:(Lit.int .i64 P).wf=true) (w0b:(Lit.int .i64 T).wf=true) (w0c:(Lit.int .i64 A).wf=true) (w0d:(Lit.int .i64 M).wf=true) (w0e:(Lit.int .i64 Wi).wf=true) (w0f:(Lit.int .i64 Q).wf=true) (w1a:Dsk w a1 len1 cap1 b1 lenb1 capb1 S1 C1) (w1b:∀ p ∈ C1,(Lit.int .i64 p.1).wf=true) (w2:(Lit.int .i64 a2).wf=true) (w3:IsRow .u8 w a3 len3 cap3 z3) (w4:(Lit.int .i64 a4).wf=true) (w5:(Lit.int .u8 a5).wf=true) (w6:(Lit.int .i64 a6).wf=true) (w7:IsRow .u8 w a7 len7 cap7 z7) :
  Calls Try.prog 6 #[cfgV P T A M Wi Q,diskV a1 len1 cap1 b1 lenb1 capb1,.int .i64 a2,.slice a3 len3 cap3,.int .i64 a4,.int .u8 a5,.int .i64 a6,.slice a7 len7 cap7] w fun e w'=>e=.returned (.bool true)∧Below w.heap.size w w':=by
 obtain ⟨l3,hl3,hw3⟩:=w3.arg
 obtain ⟨l7,hl7,hw7⟩:=w7.arg
 exact dcrash_of diff_does P T A M Wi Q a1 len1 cap1 b1 lenb1 capb1 S1 C1 a2 a3 len3 cap3 l3 a4 a5 a6 a7 len7 cap7 l7 w w1a hl3 hl7 (fun z hz=>wf_byte (hw3 z hz)) (wf_byte w5) (fun z hz=>wf_byte (hw7 z hz))
end Go.Proofs.Ytdbeiikaeccbhaa
