/- Regions that draw their order: what each operation's slot holds, said by a table (behind XRegAll); nothing of any layer's types. No statement is proved here. -/
import Derived.Test.YtdgfofemogmmkaaRegAll
import Derived.Test.YtdgfofemogmmkaaBase3
namespace Go.Proofs.Ytdgfofemogmmkaa
open Go.RowKit

def stN (_ _ : World) : Prop := False
/-- What a slot holds, in a world: it stays where memory is made, and where a box is written (St). -/
structure Cl (St : World → World → Prop) where
  p : Value → World → Prop
  below : ∀ {v : Value} {w w' : World}, Below w.heap.size w w' → p v w → p v w'
  sto : ∀ {v : Value} {w w' : World}, St w w' → p v w → p v w'
section
variable {t : World → World → Prop}
def Cl.any : Cl t := ⟨fun _ _ => True, fun _ _ => trivial, fun _ _ => trivial⟩
def Cl.is (v0 : Value) : Cl t := ⟨fun v _ => v = v0, fun _ h => h, fun _ h => h⟩
/-- One more operation is listed: what the slots hold. -/
theorem stepT {tb : List (Cl t)} {f : Nat → Bool} {w w' : World} (l : List Value) (i : Nat) (v : Value) (h : ∀ j, f j = true → (tb.getD j Cl.any).p (l.getD j undef) w) (hm : ∀ (c : Cl t) (u : Value), c.p u w → c.p u w') (hi : i < l.length) (hv : (tb.getD i Cl.any).p v w') : ∀ j, (if j = i then true else f j) = true → (tb.getD j Cl.any).p ((l.set i v).getD j undef) w' := by
  intro j hj
  by_cases e : j = i
  · subst e
    rw [List.getD_eq_getElem?_getD (l := l.set j v), List.getElem?_set_self hi]
    exact hv
  · rw [if_neg e] at hj
    rw [List.getD_eq_getElem?_getD (l := l.set i v), List.getElem?_set_ne (fun k => e k.symm), ← List.getD_eq_getElem?_getD]
    exact hm _ _ (h j hj)
theorem stepP {tb : List (Cl t)} {f : Nat → Bool} {w : World} (l : List Value) (i : Nat) (v : Value) (h : ∀ j, f j = true → (tb.getD j Cl.any).p (l.getD j undef) w) (hi : i < l.length) (hv : (tb.getD i Cl.any).p v w) : ∀ j, (if j = i then true else f j) = true → (tb.getD j Cl.any).p ((l.set i v).getD j undef) w := stepT l i v h (fun _ _ k => k) hi hv
theorem stepB {tb : List (Cl t)} {f : Nat → Bool} {w w' : World} (l : List Value) (i : Nat) (v : Value) (hb : Below w.heap.size w w') (h : ∀ j, f j = true → (tb.getD j Cl.any).p (l.getD j undef) w) (hi : i < l.length) (hv : (tb.getD i Cl.any).p v w') : ∀ j, (if j = i then true else f j) = true → (tb.getD j Cl.any).p ((l.set i v).getD j undef) w' := stepT l i v h (fun c _ k => c.below hb k) hi hv
end
def clN (p : Value → World → Prop) (hb : ∀ {v : Value} {w w' : World}, Below w.heap.size w w' → p v w → p v w') : Cl stN := ⟨p, hb, fun h => h.elim⟩
end Go.Proofs.Ytdgfofemogmmkaa
