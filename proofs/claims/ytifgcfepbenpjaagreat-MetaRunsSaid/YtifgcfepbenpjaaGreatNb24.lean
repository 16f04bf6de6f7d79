/- Texts of layers 1 to 12, joined. -/
import Derived.Test.YtifgcfepbenpjaaGreatNb23
import Derived.Deep.RegionWith
import Derived.Deep.RegionHeld3
import Derived.Deep.Cut
import Derived.WalkKit
import Derived.BigQuiet
set_option maxRecDepth 100000
set_option maxHeartbeats 12800000
set_option linter.unusedVariables false
namespace Go.Proofs.YtifgcfepbenpjaaGreat
open Go.RowKit
theorem wrapw64 (v:Int) (h0:0≤v) (h:v < 18446744073709551616):IntKind.u64.wrap v=v:=by simp [IntKind.wrap_u64];omega
section
variable {P:Program} {ops:Array Oper} {Q:Exit→Act→World→Prop} {md:Region.Mode} {S:World→Prop} {st:Nat}
end
theorem mayTab_idx (t:List Rc):mayTab t↔∀ y,y < t.length→mayR (t.getD y zR)∧(0 < y→(t.getD (y - 1) zR).p < (t.getD y zR).p):=by
 induction t with
 | nil=>simp [mayTab]
 | cons r t ih =>
  cases t with
  | nil =>
   show mayR r↔_
   constructor
   ·intro h y hy
    have hy0:y=0:=by simp at hy;omega
    subst hy0
    exact ⟨h,fun k=>absurd k (Nat.lt_irrefl _)⟩
   ·intro h
    exact (h 0 (by simp)).1
  | cons s l =>
   show (mayR r∧r.p < s.p∧mayTab (s :: l))↔_
   rw [ih]
   constructor
   ·rintro ⟨h1,h2,h3⟩ y hy
    cases y with
    | zero=>exact ⟨h1,fun k=>absurd k (Nat.lt_irrefl _)⟩
    | succ y =>
     have h4:=h3 y (by simpa using hy)
     refine ⟨h4.1,fun _=>?_⟩
     cases y with
     | zero=>exact h2
     | succ y=>exact h4.2 (by omega)
   ·intro h
    refine ⟨(h 0 (by simp)).1,(h 1 (by simp)).2 (by omega),fun y hy=>?_⟩
    have h4:=h (y + 1) (by simp at hy ⊢;omega)
    refine ⟨h4.1,fun hy0=>?_⟩
    obtain ⟨z,rfl⟩:∃ z,y=z + 1:=⟨y - 1,by omega⟩
    exact h4.2 (by omega)
end Go.Proofs.YtifgcfepbenpjaaGreat
