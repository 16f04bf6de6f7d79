/- Texts of the layers below, joined. -/
import Derived.Test.YtdbeiikaeccbhaaDa18
import Derived.Test.YtdbeiikaeccbhaaDa21
import Derived.BigQuiet
set_option maxRecDepth 100000
set_option maxHeartbeats 12800000
set_option linter.unusedVariables false
namespace Go.Proofs.Ytdbeiikaeccbhaa
open Go.RowKit
def optAt (S:List Sec) (C:List Pnd) (a:Int):Option Txt:=if rdE S C a=0 then some (rdB S C a) else none
def optsOf (S:List Sec) (C:List Pnd) (at_:Int) (n:Nat):List (Option Txt):=(List.range n).map fun i:Nat=>optAt S C (at_ + (i:Int))
theorem optsOf_length (S:List Sec) (C:List Pnd) (at_:Int) (n:Nat):(optsOf S C at_ n).length=n:=by simp [optsOf]
theorem optsOf_get (S:List Sec) (C:List Pnd) (at_:Int) {n i:Nat} (h:i < n):(optsOf S C at_ n).getD i none=optAt S C (at_ + (i:Int)):=by
 rw [gtD,geE (by rw [optsOf_length];exact h)]
 simp [optsOf]
theorem rd_good {S:List Sec} {C:List Pnd} {at_:Int} (h:rdE S C at_=0) (hS:∀ s ∈ S,∀ z ∈ s.2,isByte z) (hC:∀ p ∈ C,∀ z ∈ p.2,isByte z):(rdB S C at_).length=32∧∀ z ∈ rdB S C at_,isByte z:=by
 have hB:rdB S C at_=gotB S C at_:=if_pos h
 have ha:askE S C at_=0:=by
  unfold rdE at h
  split at h
  ·assumption
  ·rename_i h2;exact absurd h h2
 obtain ⟨hm,a,rfl,hal⟩:=ask_zero ha
 have hm2:=(mayD_iff _ _).1 hm
 rw [hB]
 unfold gotB
 rcases hl:lastW C (a:Int) with _ | t
 ·have hx:secAt S (a:Int) ∈ S:=by
   unfold secAt
   rw [Int.toNat_natCast,gtD,geE hal]
   exact List.getElem_mem hal
  exact ⟨(hm2.2.1 _ hx).1,hS _ hx⟩
 ·unfold lastW at hl
  rcases hf:C.reverse.find? (fun p=>decide (p.1=(a:Int))) with _ | q
  ·rw [hf] at hl;cases hl
  ·rw [hf] at hl
   injection hl with hl
   subst hl
   have hx:q ∈ C:=List.mem_reverse.1 (List.mem_of_find?_eq_some hf)
   exact ⟨(hm2.2.2 _ hx).2.2,hC _ hx⟩
end Go.Proofs.Ytdbeiikaeccbhaa
