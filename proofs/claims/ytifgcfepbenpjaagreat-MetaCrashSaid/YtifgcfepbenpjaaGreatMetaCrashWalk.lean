/- Texts of layers 1 to 12, joined. -/
import Derived.Test.YtifgcfepbenpjaaGreatCr51
set_option maxRecDepth 100000
set_option maxHeartbeats 12800000
set_option linter.unusedVariables false
namespace Go.Proofs.YtifgcfepbenpjaaGreat
open Go.RowKit
theorem walk_MetaCrash (P0 T0 A0 M0 Wi0 Q0 : Int) (a1 : Option Addr) (len1 cap1 : Nat) (b1 : Option Addr) (lenb1 capb1 : Nat) (S1 : List Sec) (C1 : List Pnd) (a2 : Option Addr) (len2 cap2 : Nat) (z2 : List Int) (a3 : Int) (a4 : Option Addr) (len4 cap4 : Nat) (z4 : List Int) (W : World) (w0a : (Lit.int .i64 P0).wf = true) (w0b : (Lit.int .i64 T0).wf = true) (w0c : (Lit.int .i64 A0).wf = true) (w0d : (Lit.int .i64 M0).wf = true) (w0e : (Lit.int .i64 Wi0).wf = true) (w0f : (Lit.int .i64 Q0).wf = true) (w1a : Dsk W a1 len1 cap1 b1 lenb1 capb1 S1 C1) (w1b : ∀ p ∈ C1, (Lit.int .i64 p.1).wf = true) (w2 : IsRow .u8 W a2 len2 cap2 z2) (w3 : (Lit.int .i64 a3).wf = true) (w4 : IsRow .u8 W a4 len4 cap4 z4) :
  Calls Tryz.prog 6 #[cfgV P0 T0 A0 M0 Wi0 Q0, diskV a1 len1 cap1 b1 lenb1 capb1, .slice a2 len2 cap2, .int .i64 a3, .slice a4 len4 cap4] W fun e W' => e = .returned (.bool true) ∧ Below W.heap.size W W' := by
 obtain ⟨b, hb, hby⟩ := w2.arg
 obtain ⟨F, hf, hfy⟩ := w4.arg
 have e1 := w1a.secs.len
 have e2 := w1a.pnds.len
 subst e1 e2
 exact mcrash_of P0 T0 A0 M0 Wi0 Q0 a1 cap1 b1 capb1 S1 C1 a2 len2 cap2 b a3 a4 len4 cap4 F W w1a hb (fun z hz => wf_byte (hby z hz)) hf (fun z hz => wf_byte (hfy z hz))
end Go.Proofs.YtifgcfepbenpjaaGreat
