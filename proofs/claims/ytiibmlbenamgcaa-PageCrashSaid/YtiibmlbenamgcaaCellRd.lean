/- Layer 6, the program: a cell's sectors as they are read. No statement is proved here. -/
/- Layer 6, the program: Read. No statement is proved here. -/
import Derived.Test.YtiibmlbenamgcaaCellP9
import Derived.Test.YtiibmlbenamgcaaDskDoes
import Derived.Test.YtiibmlbenamgcaaDiskFlow
import Derived.BigQuiet
namespace Go.Proofs.Ytiibmlbenamgcaa
open Go.RowKit
set_option linter.unusedVariables false

/-- The error of a disk, and a cell. -/
def cellE (S : List Sec) (C : List Pnd) (at_ w : Int) : Int := if mayD S C = true then (if 1 ≤ w ∧ w ≤ 4 ∧ 0 ≤ at_ ∧ at_ + 2 * w ≤ (S.length : Int) then 0 else 2) else 8
def optAt (S : List Sec) (C : List Pnd) (a : Int) : Option Txt := if rdE S C a = 0 then some (rdB S C a) else none
def optsOf (S : List Sec) (C : List Pnd) (at_ : Int) (n : Nat) : List (Option Txt) := (List.range n).map fun i : Nat => optAt S C (at_ + (i : Int))
theorem optsOf_length (S : List Sec) (C : List Pnd) (at_ : Int) (n : Nat) : (optsOf S C at_ n).length = n := by simp [optsOf]
theorem optsOf_get (S : List Sec) (C : List Pnd) (at_ : Int) {n i : Nat} (h : i < n) : (optsOf S C at_ n).getD i none = optAt S C (at_ + (i : Int)) := by
  rw [List.getD_eq_getElem?_getD, List.getElem?_eq_getElem (by rw [optsOf_length]; exact h)]
  simp [optsOf]
theorem rd_good {S : List Sec} {C : List Pnd} {at_ : Int} (h : rdE S C at_ = 0) (hS : ∀ s ∈ S, ∀ z ∈ s.2, isByte z) (hC : ∀ p ∈ C, ∀ z ∈ p.2, isByte z) : (rdB S C at_).length = 32 ∧ ∀ z ∈ rdB S C at_, isByte z := by
  have hB : rdB S C at_ = gotB S C at_ := if_pos h
  have ha : askE S C at_ = 0 := by
    unfold rdE at h
    split at h
    · assumption
    · rename_i h2; exact absurd h h2
  obtain ⟨hm, a, rfl, hal⟩ := ask_zero ha
  have hm2 := (mayD_iff _ _).1 hm
  rw [hB]
  unfold gotB
  rcases hl : lastW C (a : Int) with _ | t
  · have hx : secAt S (a : Int) ∈ S := by
      unfold secAt
      rw [Int.toNat_natCast, List.getD_eq_getElem?_getD, List.getElem?_eq_getElem hal]
      exact List.getElem_mem hal
    exact ⟨(hm2.2.1 _ hx).1, hS _ hx⟩
  · unfold lastW at hl
    rcases hf : C.reverse.find? (fun p => decide (p.1 = (a : Int))) with _ | q
    · rw [hf] at hl; cases hl
    · rw [hf] at hl
      injection hl with hl
      subst hl
      have hx : q ∈ C := List.mem_reverse.1 (List.mem_of_find?_eq_some hf)
      exact ⟨(hm2.2.2 _ hx).2.2, hC _ hx⟩
def OwnOpt (w : World) (base : Nat) (A : Option Addr) (n c : Nat) : Option Txt → Prop
  | none => A = none ∧ n = 0 ∧ c = 0
  | some T => OwnTxt w base A n c T ∧ T.length = 32 ∧ ∀ z ∈ T, isByte z
theorem OwnOpt.opt {w : World} {base : Nat} {A : Option Addr} {n c : Nat} {t : Option Txt} (h : OwnOpt w base A n c t) : OptArg w A n c t := by
  cases t with
  | none => exact h
  | some T => exact ⟨h.1.arg, h.2⟩
theorem OwnOpt.below {w w' : World} {base : Nat} {A : Option Addr} {n c : Nat} {t : Option Txt} (h : OwnOpt w base A n c t) (hb : Below w.heap.size w w') : OwnOpt w' base A n c t := by
  cases t with
  | none => exact h
  | some T => exact ⟨h.1.below hb, h.2⟩
theorem OwnTxt.box {w : World} {base : Nat} {A : Option Addr} {n c : Nat} {T : Txt} (h : OwnTxt w base A n c T) {g : Nat} {t : TypeId} {cs : List Value} (hb : Blk w g t cs) (h2 : t ≠ 5) (i : Nat) (u : Value) : OwnTxt (w.setCell ⟨g, i, none⟩ u) base A n c T :=
  h.keep fun g' _ hu => Below.heap_setCell w _ u g' (fun e2 => by
    subst e2
    obtain ⟨cs', hc⟩ := hu
    unfold Blk at hb
    rw [hb] at hc
    simp at hc
    exact h2 hc.2)
theorem OwnOpt.box {w : World} {base : Nat} {A : Option Addr} {n c : Nat} {o : Option Txt} (h : OwnOpt w base A n c o) {g : Nat} {t : TypeId} {cs : List Value} (hb : Blk w g t cs) (h2 : t ≠ 5) (i : Nat) (u : Value) : OwnOpt (w.setCell ⟨g, i, none⟩ u) base A n c o := by
  cases o with
  | none => exact h
  | some T => exact ⟨h.1.box hb h2 i u, h.2⟩
/-- The first k places of a row hold these texts. -/
def OptsIn (w : World) (base : Nat) (vs : List Value) (l : List (Option Txt)) (k : Nat) : Prop := ∀ i, i < k → ∃ Ai ni ci, vs[i]? = some (.slice Ai ni ci) ∧ OwnOpt w base Ai ni ci (l.getD i none)
theorem OptsIn.below {w w' : World} {base : Nat} {vs : List Value} {l : List (Option Txt)} {k : Nat} (h : OptsIn w base vs l k) (hb : Below w.heap.size w w') : OptsIn w' base vs l k := fun i hi => by
  obtain ⟨Ai, ni, ci, e, ho⟩ := h i hi
  exact ⟨Ai, ni, ci, e, ho.below hb⟩
theorem OptsIn.put {w : World} {base g : Nat} {vs : List Value} {l : List (Option Txt)} {k : Nat} (h : OptsIn w base vs l k) (hb : Blk w g 22 vs) (hk : k < vs.length) {A : Option Addr} {n c : Nat} (ho : OwnOpt w base A n c (l.getD k none)) : OptsIn (w.setCell ⟨g, k, none⟩ (.slice A n c)) base (vs.set k (.slice A n c)) l (k + 1) := fun i hi => by
  by_cases e : i = k
  · subst e
    exact ⟨A, n, c, by rw [List.getElem?_set_self hk], ho.box hb (by decide) _ _⟩
  · obtain ⟨Ai, ni, ci, e1, h1⟩ := h i (by omega)
    exact ⟨Ai, ni, ci, by rw [List.getElem?_set_ne (fun h => e h.symm)]; exact e1, h1.box hb (by decide) _ _⟩
theorem OptsIn.opts {w : World} {base g n : Nat} {vs : List Value} {l : List (Option Txt)} (h : OptsIn w base vs l n) (hb : Blk w g 22 vs) (hn : n ≤ maxLen) (hl : l.length = n) : Opts w (some ⟨g, 0, none⟩) n n l :=
  ⟨hl, Nat.le_refl _, hn, fun i hi => by
    obtain ⟨Ai, ni, ci, e, ho⟩ := h i hi
    exact ⟨g, 0, Ai, ni, ci, rfl, hb.lt, by rw [Nat.zero_add, hb.cell i]; exact e, ho.opt⟩⟩
theorem opts_info : (Try.prog.info? 22).map (fun i => (i.zero, i.size, i.bytes)) = some (some (.slice none 0 0), 1, 24) := by kernel_rfl
end Go.Proofs.Ytiibmlbenamgcaa

namespace Go.Proofs.Ytiibmlbenamgcaa
open Go.RowKit
set_option linter.unusedVariables false

/-- What Read answers: its error, version and bytes. -/
def crE (S : List Sec) (C : List Pnd) (at_ wd : Int) : Int := if cellE S C at_ wd = 0 then (if hV wd.toNat (optsOf S C at_ (2 * wd.toNat)) = 0 then 6 else 0) else cellE S C at_ wd
def crV (S : List Sec) (C : List Pnd) (at_ wd : Int) : Int := if crE S C at_ wd = 0 then hV wd.toNat (optsOf S C at_ (2 * wd.toNat)) else 0
def crB (S : List Sec) (C : List Pnd) (at_ wd : Int) : Txt := if crE S C at_ wd = 0 then hB wd.toNat (optsOf S C at_ (2 * wd.toNat)) else []
def CRead (w : World) (b : Txt) (v E : Int) (e : Ending) (w' : World) : Prop :=
  ∃ A c, e = .returned (.tuple #[.slice A b.length c, .int .u32 v, .int .i64 E]) ∧ w'.ownsRow w.heap.size 5 1 (.slice A b.length c) b.length (ints .u8 b) ∧ Below w.heap.size w w'
theorem cellE_zero {S : List Sec} {C : List Pnd} {at_ wd : Int} (h : cellE S C at_ wd = 0) : mayD S C = true ∧ ∃ a m : Nat, at_ = a ∧ wd = m ∧ 1 ≤ m ∧ m ≤ 4 ∧ a + 2 * m ≤ S.length := by
  unfold cellE at h
  split at h
  · rename_i hm
    split at h
    · rename_i h1
      exact ⟨hm, at_.toNat, wd.toNat, by omega, by omega, by omega, by omega, by omega⟩
    · cases h
  · cases h

end Go.Proofs.Ytiibmlbenamgcaa
