/- Texts of layers 1 to 12, joined. -/
import Derived.Test.YtifgcfepbenpjaaGreatNaO
set_option maxRecDepth 100000
set_option maxHeartbeats 12800000
set_option linter.unusedVariables false
namespace Go.Proofs.YtifgcfepbenpjaaGreat
open Go.RowKit
theorem walk_MetaNotes (P0 T0 A0 M0 Wi0 Q0:Int) (a1:Option Addr) (len1 cap1:Nat) (b1:Option Addr) (lenb1 capb1:Nat) (S1:List Sec) (C1:List Pnd) (v2 ar2 g2 n2 u2:Int) (B2:Option Addr) (k_2 c2:Nat) (t2:List Rc) (a3:Option Addr) (len3 cap3:Nat) (z3:List Int) (W:World) (w0a:(Lit.int .i64 P0).wf=true) (w0b:(Lit.int .i64 T0).wf=true) (w0c:(Lit.int .i64 A0).wf=true) (w0d:(Lit.int .i64 M0).wf=true) (w0e:(Lit.int .i64 Wi0).wf=true) (w0f:(Lit.int .i64 Q0).wf=true) (w1a:Dsk W a1 len1 cap1 b1 lenb1 capb1 S1 C1) (w1b:∀ p ∈ C1,(Lit.int .i64 p.1).wf=true) (w2a:Recs W B2 k_2 c2 t2) (w2b:isS (v2,ar2,g2)) (w3:IsRow .u8 W a3 len3 cap3 z3) :
  Calls Tryz.prog 5 #[cfgV P0 T0 A0 M0 Wi0 Q0,diskV a1 len1 cap1 b1 lenb1 capb1,metV v2 ar2 g2 n2 u2 B2 k_2 c2,.slice a3 len3 cap3] W fun e W'=>e=.returned (.bool true)∧Below W.heap.size W W':=by
 obtain ⟨b,hb,hby⟩:=w3.arg
 exact mnotes_of P0 T0 A0 M0 Wi0 Q0 a1 len1 cap1 b1 lenb1 capb1 S1 C1 v2 ar2 g2 n2 u2 B2 k_2 c2 t2 a3 len3 cap3 b W w1a w2a w2b hb (fun z hz=>wf_byte (hby z hz))
end Go.Proofs.YtifgcfepbenpjaaGreat
