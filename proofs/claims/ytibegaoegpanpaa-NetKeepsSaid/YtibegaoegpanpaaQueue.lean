/- Layer 4: a queue as a value: what a law's frame hands over, and its boxes. No statement is proved here. -/
import Derived.Test.YtibegaoegpanpaaTexts
namespace Go.Proofs.Ytibegaoegpanpaa
open Go.RowKit Go.OpenShut Go.ChangeShapes Go.WideShapes Go.Deep Go.Joins
set_option linter.unusedVariables false

/-- A queue's value. -/
abbrev queueV (A : Option Addr) (n c : Nat) (h m : Int) : Value := .agg #[.slice A n c, .int .i64 h, .int .i64 m]
end Go.Proofs.Ytibegaoegpanpaa
