/-
  No cell of these rows narrows 'for every input' (looked for: loops, veiled, ifaces, maps, wideKeys, modest, calm, conditions, laid).
  DERIVED. THE GIVEN ROWS OF THIS SEAT. 4 by the template 'for every input the law returns true; each argument reads behind the call as it read before'; 0 by the template 'total and deterministic' (their statements: YtdbeiikaeccbhaaTotals.lean).
  GIVEN WITH THE SEED: the statements are not yours to turn. If you find one false, say at which input.
  Laid BY PROGRAM, IN A SANDBOX (cutbox-rows.mjs): the forced cells as the released guide's own fill.sh prints them over the translation 96488472207ece4d… (all of the seat's roots in one cut). By AI agents, Wed Nov 11 2026. No macro, syntax, notation, axiom, sorry.
-/
import Derived.Test.YtdbeiikaeccbhaaChecked
import GoSem.Claim
import GoSem.ClaimJoined
import GoSem.ClaimMapViews
import Derived.JoinedTies
import Derived.KernelRfl
namespace Go.Proofs.Ytdbeiikaeccbhaa
/- THE CELL 'sum', in the pinned program and in every row, IS THE sha256 OF THE DUMP (.gsa) THAT YtdbeiikaeccbhaaProg.lean LOADS. Nothing in Lean hashes anything: it is a label: what it is worth is what the hold of that sum in a sandbox is worth. -/
noncomputable def Try.pinned : Pinned := { name := "ytdbeiikaeccbhaa", sum := "96488472207ece4d6e93b53217e646dd243451c91fa379ffdd5104de205252aa", checked := Try.checked }
namespace Rows
def none {H : Type} : Left H := { results := [], args := [] }

/-- 'catamaranlaw14.DiffNames': WHATEVER THE INPUT: true; the input reads as it did. -/
def diffNamesSpec : ChangeSpec := { name := "diffNames", fn := fun _ => fun
  | [] => { results := [.lit (.bool true)], args := [] }
  | _ => none }
def diffNamesRow : OpenClaim := { program := "ytdbeiikaeccbhaa", sum := "96488472207ece4d6e93b53217e646dd243451c91fa379ffdd5104de205252aa", func := "catamaran/catamaranlaw14.DiffNames", spec := "diffNames", unfollowed := true, recurses := true, apart := false }
def DiffNamesSaid : Prop := diffNamesRow.holds Try.pinned (OpenSpec.ofChange diffNamesSpec)

/-- ITS FALSE NEIGHBOUR: 'it returns false'. Refute it at one input. -/
def diffNamesWrong : ChangeSpec := { name := "diffNames", fn := fun _ => fun
  | [] => { results := [.lit (.bool false)], args := [] }
  | _ => none }
def DiffNamesWrongFalsely : Prop := diffNamesRow.holds Try.pinned (OpenSpec.ofChange diffNamesWrong)

/-- 'catamaranlaw14.DiffMarks': WHATEVER THE INPUT: true; the input reads as it did. -/
def diffMarksSpec : ChangeSpec := { name := "diffMarks", fn := fun _ => fun
  | [d1, d2, d3, d4, d5] => { results := [.lit (.bool true)], args := [d1, d2, d3, d4, d5] }
  | _ => none }
def diffMarksRow : OpenClaim := { program := "ytdbeiikaeccbhaa", sum := "96488472207ece4d6e93b53217e646dd243451c91fa379ffdd5104de205252aa", func := "catamaran/catamaranlaw14.DiffMarks", spec := "diffMarks", unfollowed := true, recurses := true, apart := false }
def DiffMarksSaid : Prop := diffMarksRow.holds Try.pinned (OpenSpec.ofChange diffMarksSpec)

/-- ITS FALSE NEIGHBOUR: 'it returns false'. Refute it at one input. -/
def diffMarksWrong : ChangeSpec := { name := "diffMarks", fn := fun _ => fun
  | [d1, d2, d3, d4, d5] => { results := [.lit (.bool false)], args := [d1, d2, d3, d4, d5] }
  | _ => none }
def DiffMarksWrongFalsely : Prop := diffMarksRow.holds Try.pinned (OpenSpec.ofChange diffMarksWrong)

/-- 'catamaranlaw14.DiffCleans': WHATEVER THE INPUT: true; the input reads as it did. -/
def diffCleansSpec : ChangeSpec := { name := "diffCleans", fn := fun _ => fun
  | [d1, d2, d3, d4] => { results := [.lit (.bool true)], args := [d1, d2, d3, d4] }
  | _ => none }
def diffCleansRow : OpenClaim := { program := "ytdbeiikaeccbhaa", sum := "96488472207ece4d6e93b53217e646dd243451c91fa379ffdd5104de205252aa", func := "catamaran/catamaranlaw14.DiffCleans", spec := "diffCleans", unfollowed := true, recurses := true, apart := false }
def DiffCleansSaid : Prop := diffCleansRow.holds Try.pinned (OpenSpec.ofChange diffCleansSpec)

/-- ITS FALSE NEIGHBOUR: 'it returns false'. Refute it at one input. -/
def diffCleansWrong : ChangeSpec := { name := "diffCleans", fn := fun _ => fun
  | [d1, d2, d3, d4] => { results := [.lit (.bool false)], args := [d1, d2, d3, d4] }
  | _ => none }
def DiffCleansWrongFalsely : Prop := diffCleansRow.holds Try.pinned (OpenSpec.ofChange diffCleansWrong)

/-- 'catamaranlaw14.DiffCrash': WHATEVER THE INPUT: true; the input reads as it did. -/
def diffCrashSpec : ChangeSpec := { name := "diffCrash", fn := fun _ => fun
  | [d1, d2, d3, d4, d5, d6, d7, d8] => { results := [.lit (.bool true)], args := [d1, d2, d3, d4, d5, d6, d7, d8] }
  | _ => none }
def diffCrashRow : OpenClaim := { program := "ytdbeiikaeccbhaa", sum := "96488472207ece4d6e93b53217e646dd243451c91fa379ffdd5104de205252aa", func := "catamaran/catamaranlaw14.DiffCrash", spec := "diffCrash", unfollowed := true, recurses := true, apart := false }
def DiffCrashSaid : Prop := diffCrashRow.holds Try.pinned (OpenSpec.ofChange diffCrashSpec)

/-- ITS FALSE NEIGHBOUR: 'it returns false'. Refute it at one input. -/
def diffCrashWrong : ChangeSpec := { name := "diffCrash", fn := fun _ => fun
  | [d1, d2, d3, d4, d5, d6, d7, d8] => { results := [.lit (.bool false)], args := [d1, d2, d3, d4, d5, d6, d7, d8] }
  | _ => none }
def DiffCrashWrongFalsely : Prop := diffCrashRow.holds Try.pinned (OpenSpec.ofChange diffCrashWrong)

/- THE SECOND FORM. 'bulk': how many values and letters a reading holds, each counted each time it is reached (what is shared counts as often as it is met; a slice's spare places count too). A statement '..UptoSaid' is the law's where the arguments, and the package variables that the reading takes, are together of bulk at most 1048576: NARROWER than '..Said'. Prove '..Said' where nothing that the law and all that it calls make is longer than what came in: it says more and counts as full. Else prove '..UptoSaid'. A law counts once. -/
mutual
def uptoBulk {H : Type} : DataW H → Nat
  | .lit (.string bytes) => bytes.length + 1
  | .lit _ => 1
  | .nil => 1
  | .ptr d => uptoBulk d + 1
  | .slice elems spare => uptoBulkAll elems + uptoBulkAll spare + 1
  | .agg parts => uptoBulkAll parts + 1
  | .iface _ d => uptoBulk d + 1
  | .map entries => uptoBulkEntries entries + 1
  | .held _ => 1
def uptoBulkAll {H : Type} : List (DataW H) → Nat
  | [] => 0
  | d :: r => uptoBulk d + uptoBulkAll r
def uptoBulkEntries {H : Type} : List (Lit × DataW H) → Nat
  | [] => 0
  | x :: r => uptoBulkEntry x + uptoBulkEntries r
def uptoBulkEntry {H : Type} : Lit × DataW H → Nat
  | (.string bytes, d) => bytes.length + uptoBulk d + 1
  | (_, d) => uptoBulk d + 1
 end
def uptoSmall : (H : Type) → List (DataW H) → Bool := fun _ ds => decide (uptoBulkAll ds ≤ 1048576)
def OpenSpec.upto (s : _root_.Go.ChangeSpec) : _root_.Go.OpenSpec := { _root_.Go.OpenSpec.ofChange s with cond := some uptoSmall }

/-- 'catamaranlaw14.DiffNames', WHERE WHAT IT READS IS OF BULK AT MOST 1048576: true; the input reads as it did. -/
def diffNamesUptoRow : OpenClaim := { program := "ytdbeiikaeccbhaa", sum := "96488472207ece4d6e93b53217e646dd243451c91fa379ffdd5104de205252aa", func := "catamaran/catamaranlaw14.DiffNames", spec := "diffNames", unfollowed := true, recurses := true, apart := false, narrowed := true }
def DiffNamesUptoSaid : Prop := diffNamesUptoRow.holds Try.pinned (OpenSpec.upto diffNamesSpec)

/-- 'catamaranlaw14.DiffMarks', WHERE WHAT IT READS IS OF BULK AT MOST 1048576: true; the input reads as it did. -/
def diffMarksUptoRow : OpenClaim := { program := "ytdbeiikaeccbhaa", sum := "96488472207ece4d6e93b53217e646dd243451c91fa379ffdd5104de205252aa", func := "catamaran/catamaranlaw14.DiffMarks", spec := "diffMarks", unfollowed := true, recurses := true, apart := false, narrowed := true }
def DiffMarksUptoSaid : Prop := diffMarksUptoRow.holds Try.pinned (OpenSpec.upto diffMarksSpec)

/-- 'catamaranlaw14.DiffCleans', WHERE WHAT IT READS IS OF BULK AT MOST 1048576: true; the input reads as it did. -/
def diffCleansUptoRow : OpenClaim := { program := "ytdbeiikaeccbhaa", sum := "96488472207ece4d6e93b53217e646dd243451c91fa379ffdd5104de205252aa", func := "catamaran/catamaranlaw14.DiffCleans", spec := "diffCleans", unfollowed := true, recurses := true, apart := false, narrowed := true }
def DiffCleansUptoSaid : Prop := diffCleansUptoRow.holds Try.pinned (OpenSpec.upto diffCleansSpec)

/-- 'catamaranlaw14.DiffCrash', WHERE WHAT IT READS IS OF BULK AT MOST 1048576: true; the input reads as it did. -/
def diffCrashUptoRow : OpenClaim := { program := "ytdbeiikaeccbhaa", sum := "96488472207ece4d6e93b53217e646dd243451c91fa379ffdd5104de205252aa", func := "catamaran/catamaranlaw14.DiffCrash", spec := "diffCrash", unfollowed := true, recurses := true, apart := false, narrowed := true }
def DiffCrashUptoSaid : Prop := diffCrashUptoRow.holds Try.pinned (OpenSpec.upto diffCrashSpec)

end Rows
end Go.Proofs.Ytdbeiikaeccbhaa
