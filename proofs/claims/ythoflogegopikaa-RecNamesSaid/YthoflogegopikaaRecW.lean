/- Layer 11: RecDoes, what the program's calls do. -/
import Derived.Test.YthoflogegopikaaRecTab
import Derived.Test.YthoflogegopikaaRecFind
namespace Go.Proofs.Ythoflogegopikaa
open Go.RowKit
set_option linter.unusedVariables false

theorem str_arg11 {w : World} {A : Option Addr} {n c : Nat} {zs : List Int} (h : Arg w .u8 A n c zs) : (convert 26 9 (.slice A n c)).run Try.prog w = .ok (.string (strOfNums zs)) w :=
  run_str (P := Try.prog) w 26 9 5 Try.underlying26 Try.underlying5 Try.underlying9 (c := c) h.seq h.len
structure RecDoes : Prop where
  check : ∀ (r : Rc) (w : World), isR r → Calls Try.prog 13 #[recV r] w fun e w' => e = .returned (.int .i64 (rcE r)) ∧ Below w.heap.size w w'
  note : ∀ (r : Rc) (w : World), isR r → Calls Try.prog 14 #[recV r] w (RowOut .u8 5 w (ntB r) (rcE r))
  gone : ∀ (k : Int) (w : World), Calls Try.prog 10 #[.int .i64 k] w (RowOut .u8 5 w (goB k) (goE k))
  table : ∀ (A : Option Addr) (n c : Nat) (l : List Txt) (w : World), Texts w A n c l → n ≤ 1000 → ShortT l n → Calls Try.prog 11 #[.slice A n c] w (PutOut w (tabR l))
  put : ∀ (A : Option Addr) (n c : Nat) (t : List Rc) (A' : Option Addr) (n' c' : Nat) (b : Txt) (w : World), Recs w A n c t → n ≤ 100 → Arg w .u8 A' n' c' b → (∀ z ∈ b, isByte z) → n' ≤ 100 → Calls Try.prog 21 #[.slice A n c, .slice A' n' c'] w (PutOut w (putR t b))
  notes : ∀ (A : Option Addr) (n c : Nat) (t : List Rc) (w : World), Recs w A n c t → n ≤ 100 → Calls Try.prog 23 #[.slice A n c] w (NotesOut w (rnL t) (rnE t))
  find : ∀ (A : Option Addr) (n c : Nat) (t : List Rc) (p : Int) (w : World), Recs w A n c t → n ≤ 100 → (Lit.int .i64 p).wf = true → Calls Try.prog 25 #[.slice A n c, .int .i64 p] w (FindOut w t p)
end Go.Proofs.Ythoflogegopikaa
