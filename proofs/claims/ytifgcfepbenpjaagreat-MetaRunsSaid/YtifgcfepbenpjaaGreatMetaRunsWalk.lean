/- Layer 12, MetaRuns: the walk as the frame asks for it. -/
import Derived.Test.YtifgcfepbenpjaaGreatRcW
namespace Go.Proofs.YtifgcfepbenpjaaGreat
open Go.RowKit
set_option linter.unusedVariables false

theorem walk_MetaRuns (P0 T0 A0 M0 Wi0 Q0 : Int) (a1 : Option Addr) (len1 cap1 : Nat) (z1 : List Stp) (W : World) (w0a : (Lit.int .i64 P0).wf = true) (w0b : (Lit.int .i64 T0).wf = true) (w0c : (Lit.int .i64 A0).wf = true) (w0d : (Lit.int .i64 M0).wf = true) (w0e : (Lit.int .i64 Wi0).wf = true) (w0f : (Lit.int .i64 Q0).wf = true) (w1 : Stps W a1 len1 cap1 z1) :
    Calls Tryz.prog 7 #[cfgV P0 T0 A0 M0 Wi0 Q0, .slice a1 len1 cap1] W fun e W' => e = .returned (.bool true) ∧ Below W.heap.size W W' :=
  mruns_of P0 T0 A0 M0 Wi0 Q0 a1 len1 cap1 z1 W w1
end Go.Proofs.YtifgcfepbenpjaaGreat
