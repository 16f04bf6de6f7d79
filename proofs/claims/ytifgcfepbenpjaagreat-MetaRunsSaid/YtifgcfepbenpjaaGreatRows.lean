/-
  No cell of these rows narrows 'for every input' (looked for: loops, veiled, ifaces, maps, wideKeys, modest, calm, conditions, laid).
  DERIVED. THE GIVEN ROWS OF THIS SEAT. 5 by the template 'for every input the law returns true; each argument reads behind the call as it read before'; 0 by the template 'total and deterministic' (their statements: YtifgcfepbenpjaaGreatTotals.lean).
  GIVEN WITH THE SEED: the statements are not yours to turn. If you find one false, say at which input.
  Laid BY PROGRAM, IN A SANDBOX (cutbox-rows.mjs): the forced cells as the released guide's own fill.sh prints them over the translation e8e976a041395852… (all of the seat's roots in one cut). By AI agents, Wed Nov 11 2026. No macro, syntax, notation, axiom, sorry.
-/
import Derived.Test.YtifgcfepbenpjaaGreatChecked
import GoSem.Claim
import GoSem.ClaimJoined
import GoSem.ClaimMapViews
import Derived.JoinedTies
import Derived.KernelRfl
namespace Go.Proofs.YtifgcfepbenpjaaGreat
/- THE CELL 'sum', in the pinned program and in every row, IS THE sha256 OF THE DUMP (.gsa) THAT YtifgcfepbenpjaaGreatProg.lean LOADS. Nothing in Lean hashes anything: it is a label: what it is worth is what the hold of that sum in a sandbox is worth. -/
noncomputable def Tryz.pinned : Pinned := { name := "ytifgcfepbenpjaagreat", sum := "e8e976a04139585231206b1640e14db17a5001f68d00f42e5bb974a479278882", checked := Tryz.checked }
namespace Rows
def none {H : Type} : Left H := { results := [], args := [] }

/-- 'catamaranlaw12.MetaNames': WHATEVER THE INPUT: true; the input reads as it did. -/
def metaNamesSpec : ChangeSpec := { name := "metaNames", fn := fun _ => fun
  | [] => { results := [.lit (.bool true)], args := [] }
  | _ => none }
def metaNamesRow : OpenClaim := { program := "ytifgcfepbenpjaagreat", sum := "e8e976a04139585231206b1640e14db17a5001f68d00f42e5bb974a479278882", func := "catamaran/catamaranlaw12.MetaNames", spec := "metaNames", unfollowed := true, recurses := true, apart := false }
def MetaNamesSaid : Prop := metaNamesRow.holds Tryz.pinned (OpenSpec.ofChange metaNamesSpec)

/-- ITS FALSE NEIGHBOUR: 'it returns false'. Refute it at one input. -/
def metaNamesWrong : ChangeSpec := { name := "metaNames", fn := fun _ => fun
  | [] => { results := [.lit (.bool false)], args := [] }
  | _ => none }
def MetaNamesWrongFalsely : Prop := metaNamesRow.holds Tryz.pinned (OpenSpec.ofChange metaNamesWrong)

/-- 'catamaranlaw12.MetaOpens': WHATEVER THE INPUT: true; the input reads as it did. -/
def metaOpensSpec : ChangeSpec := { name := "metaOpens", fn := fun _ => fun
  | [d1, d2, d3] => { results := [.lit (.bool true)], args := [d1, d2, d3] }
  | _ => none }
def metaOpensRow : OpenClaim := { program := "ytifgcfepbenpjaagreat", sum := "e8e976a04139585231206b1640e14db17a5001f68d00f42e5bb974a479278882", func := "catamaran/catamaranlaw12.MetaOpens", spec := "metaOpens", unfollowed := true, recurses := true, apart := false }
def MetaOpensSaid : Prop := metaOpensRow.holds Tryz.pinned (OpenSpec.ofChange metaOpensSpec)

/-- ITS FALSE NEIGHBOUR: 'it returns false'. Refute it at one input. -/
def metaOpensWrong : ChangeSpec := { name := "metaOpens", fn := fun _ => fun
  | [d1, d2, d3] => { results := [.lit (.bool false)], args := [d1, d2, d3] }
  | _ => none }
def MetaOpensWrongFalsely : Prop := metaOpensRow.holds Tryz.pinned (OpenSpec.ofChange metaOpensWrong)

/-- 'catamaranlaw12.MetaNotes': WHATEVER THE INPUT: true; the input reads as it did. -/
def metaNotesSpec : ChangeSpec := { name := "metaNotes", fn := fun _ => fun
  | [d1, d2, d3, d4] => { results := [.lit (.bool true)], args := [d1, d2, d3, d4] }
  | _ => none }
def metaNotesRow : OpenClaim := { program := "ytifgcfepbenpjaagreat", sum := "e8e976a04139585231206b1640e14db17a5001f68d00f42e5bb974a479278882", func := "catamaran/catamaranlaw12.MetaNotes", spec := "metaNotes", unfollowed := true, recurses := true, apart := false }
def MetaNotesSaid : Prop := metaNotesRow.holds Tryz.pinned (OpenSpec.ofChange metaNotesSpec)

/-- ITS FALSE NEIGHBOUR: 'it returns false'. Refute it at one input. -/
def metaNotesWrong : ChangeSpec := { name := "metaNotes", fn := fun _ => fun
  | [d1, d2, d3, d4] => { results := [.lit (.bool false)], args := [d1, d2, d3, d4] }
  | _ => none }
def MetaNotesWrongFalsely : Prop := metaNotesRow.holds Tryz.pinned (OpenSpec.ofChange metaNotesWrong)

/-- 'catamaranlaw12.MetaCrash': WHATEVER THE INPUT: true; the input reads as it did. -/
def metaCrashSpec : ChangeSpec := { name := "metaCrash", fn := fun _ => fun
  | [d1, d2, d3, d4, d5] => { results := [.lit (.bool true)], args := [d1, d2, d3, d4, d5] }
  | _ => none }
def metaCrashRow : OpenClaim := { program := "ytifgcfepbenpjaagreat", sum := "e8e976a04139585231206b1640e14db17a5001f68d00f42e5bb974a479278882", func := "catamaran/catamaranlaw12.MetaCrash", spec := "metaCrash", unfollowed := true, recurses := true, apart := false }
def MetaCrashSaid : Prop := metaCrashRow.holds Tryz.pinned (OpenSpec.ofChange metaCrashSpec)

/-- ITS FALSE NEIGHBOUR: 'it returns false'. Refute it at one input. -/
def metaCrashWrong : ChangeSpec := { name := "metaCrash", fn := fun _ => fun
  | [d1, d2, d3, d4, d5] => { results := [.lit (.bool false)], args := [d1, d2, d3, d4, d5] }
  | _ => none }
def MetaCrashWrongFalsely : Prop := metaCrashRow.holds Tryz.pinned (OpenSpec.ofChange metaCrashWrong)

/-- 'catamaranlaw12.MetaRuns': WHATEVER THE INPUT: true; the input reads as it did. -/
def metaRunsSpec : ChangeSpec := { name := "metaRuns", fn := fun _ => fun
  | [d1, d2] => { results := [.lit (.bool true)], args := [d1, d2] }
  | _ => none }
def metaRunsRow : OpenClaim := { program := "ytifgcfepbenpjaagreat", sum := "e8e976a04139585231206b1640e14db17a5001f68d00f42e5bb974a479278882", func := "catamaran/catamaranlaw12.MetaRuns", spec := "metaRuns", unfollowed := true, recurses := true, apart := false }
def MetaRunsSaid : Prop := metaRunsRow.holds Tryz.pinned (OpenSpec.ofChange metaRunsSpec)

/-- ITS FALSE NEIGHBOUR: 'it returns false'. Refute it at one input. -/
def metaRunsWrong : ChangeSpec := { name := "metaRuns", fn := fun _ => fun
  | [d1, d2] => { results := [.lit (.bool false)], args := [d1, d2] }
  | _ => none }
def MetaRunsWrongFalsely : Prop := metaRunsRow.holds Tryz.pinned (OpenSpec.ofChange metaRunsWrong)

/- THE SECOND FORM. 'bulk': how many values and letters a reading holds, each counted each time it is reached (what is shared counts as often as it is met; a slice's spare places count too). A statement '..UptoSaid' is the law's where the arguments, and the package variables that the reading takes, are together of bulk at most 1048576: NARROWER than '..Said'. Prove '..Said' where nothing that the law and all that it calls make is longer than what came in: it says more and counts as full. Else prove '..UptoSaid'. A law counts once. -/
mutual
def uptoBulk {H : Type} : DataW H → Nat
  | .lit (.string bytes) => bytes.length + 1
  | .lit _ => 1
  | .nil => 1
  | .ptr d => uptoBulk d + 1
  | .slice elems spare => uptoBulkAll elems + uptoBulkAll spare + 1
  | .agg parts => uptoBulkAll parts + 1
  | .iface _ d => uptoBulk d + 1
  | .map entries => uptoBulkEntries entries + 1
  | .held _ => 1
def uptoBulkAll {H : Type} : List (DataW H) → Nat
  | [] => 0
  | d :: r => uptoBulk d + uptoBulkAll r
def uptoBulkEntries {H : Type} : List (Lit × DataW H) → Nat
  | [] => 0
  | x :: r => uptoBulkEntry x + uptoBulkEntries r
def uptoBulkEntry {H : Type} : Lit × DataW H → Nat
  | (.string bytes, d) => bytes.length + uptoBulk d + 1
  | (_, d) => uptoBulk d + 1
 end
def uptoSmall : (H : Type) → List (DataW H) → Bool := fun _ ds => decide (uptoBulkAll ds ≤ 1048576)
def OpenSpec.upto (s : _root_.Go.ChangeSpec) : _root_.Go.OpenSpec := { _root_.Go.OpenSpec.ofChange s with cond := some uptoSmall }

/-- 'catamaranlaw12.MetaNames', WHERE WHAT IT READS IS OF BULK AT MOST 1048576: true; the input reads as it did. -/
def metaNamesUptoRow : OpenClaim := { program := "ytifgcfepbenpjaagreat", sum := "e8e976a04139585231206b1640e14db17a5001f68d00f42e5bb974a479278882", func := "catamaran/catamaranlaw12.MetaNames", spec := "metaNames", unfollowed := true, recurses := true, apart := false, narrowed := true }
def MetaNamesUptoSaid : Prop := metaNamesUptoRow.holds Tryz.pinned (OpenSpec.upto metaNamesSpec)

/-- 'catamaranlaw12.MetaOpens', WHERE WHAT IT READS IS OF BULK AT MOST 1048576: true; the input reads as it did. -/
def metaOpensUptoRow : OpenClaim := { program := "ytifgcfepbenpjaagreat", sum := "e8e976a04139585231206b1640e14db17a5001f68d00f42e5bb974a479278882", func := "catamaran/catamaranlaw12.MetaOpens", spec := "metaOpens", unfollowed := true, recurses := true, apart := false, narrowed := true }
def MetaOpensUptoSaid : Prop := metaOpensUptoRow.holds Tryz.pinned (OpenSpec.upto metaOpensSpec)

/-- 'catamaranlaw12.MetaNotes', WHERE WHAT IT READS IS OF BULK AT MOST 1048576: true; the input reads as it did. -/
def metaNotesUptoRow : OpenClaim := { program := "ytifgcfepbenpjaagreat", sum := "e8e976a04139585231206b1640e14db17a5001f68d00f42e5bb974a479278882", func := "catamaran/catamaranlaw12.MetaNotes", spec := "metaNotes", unfollowed := true, recurses := true, apart := false, narrowed := true }
def MetaNotesUptoSaid : Prop := metaNotesUptoRow.holds Tryz.pinned (OpenSpec.upto metaNotesSpec)

/-- 'catamaranlaw12.MetaCrash', WHERE WHAT IT READS IS OF BULK AT MOST 1048576: true; the input reads as it did. -/
def metaCrashUptoRow : OpenClaim := { program := "ytifgcfepbenpjaagreat", sum := "e8e976a04139585231206b1640e14db17a5001f68d00f42e5bb974a479278882", func := "catamaran/catamaranlaw12.MetaCrash", spec := "metaCrash", unfollowed := true, recurses := true, apart := false, narrowed := true }
def MetaCrashUptoSaid : Prop := metaCrashUptoRow.holds Tryz.pinned (OpenSpec.upto metaCrashSpec)

/-- 'catamaranlaw12.MetaRuns', WHERE WHAT IT READS IS OF BULK AT MOST 1048576: true; the input reads as it did. -/
def metaRunsUptoRow : OpenClaim := { program := "ytifgcfepbenpjaagreat", sum := "e8e976a04139585231206b1640e14db17a5001f68d00f42e5bb974a479278882", func := "catamaran/catamaranlaw12.MetaRuns", spec := "metaRuns", unfollowed := true, recurses := true, apart := false, narrowed := true }
def MetaRunsUptoSaid : Prop := metaRunsUptoRow.holds Tryz.pinned (OpenSpec.upto metaRunsSpec)

end Rows
end Go.Proofs.YtifgcfepbenpjaaGreat
