/- Layer 5, package disk: its small functions. -/
/- Layer 5, package disk: whether sectors, and writes, may be. -/
/- Layer 5, package disk: whether sectors may be. -/
/- Layer 5, package disk: Check, and whether a sector is there. -/
/- Layer 5, package disk: Same. -/
/- Layer 5, package disk: a store of many lists of bytes in one piece of memory. -/
/- Layer 5: small disks: one of their texts. Nothing of the program. -/
import Derived.Test.YtdgfofemogmmkaaDiskQ
import Derived.Test.YtdgfofemogmmkaaCopy
import Derived.Lib.SliceRun
import Derived.Deep.RegionWith
namespace Go.Proofs.Ytdgfofemogmmkaa
open Go.RowKit
set_option linter.unusedVariables false

theorem make32 (w : World) : (Instr.makeSlice 23 (.int .i64 32) (.int .i64 32)).run Try.prog w = .ok (.slice (some ⟨w.heap.size, 0, none⟩) 32 32) (w.alloc (.cells (ints .u8 noughts).toArray 5)) := by
  obtain ⟨i0, hi0, hz0, hz1, hz2⟩ := info_parts byte_info
  have := run_make1 (P := Try.prog) 23 5 i0 _ Try.underlying23 hi0 hz0 hz1 rfl 32 (by rw [hz2]; omega) (by decide) w
  exact this
theorem nown32 (w : World) : (w.alloc (.cells (ints .u8 noughts).toArray 5)).ownsRow w.heap.size 5 1 (.slice (some ⟨w.heap.size, 0, none⟩) 32 32) 32 (ints .u8 noughts) :=
  (Blk.new w 5 (ints .u8 noughts)).owns (Nat.le_refl _) rfl (by decide)
theorem noughts_bytes : ∀ z ∈ noughts, isByte z := by
  intro z hz
  rw [List.eq_of_mem_replicate hz]
  exact ⟨by decide, by decide⟩

theorem equal_any (A : Option Addr) (n c : Nat) (x : Txt) (A' : Option Addr) (n' c' : Nat) (y : Txt) (w : World) (hx : Arg w .u8 A n c x) (hy : Arg w .u8 A' n' c' y) (bx : ∀ z ∈ x, isByte z) (by_ : ∀ z ∈ y, isByte z) :
    Calls Try.prog 30 #[.slice A n c, .slice A' n' c'] w fun e w' => e = .returned (.bool (decide (x = y))) ∧ w' = w := by
  have hst1 := run_str (P := Try.prog) w 23 9 5 Try.underlying23 Try.underlying5 Try.underlying9 (c := c) hx.seq hx.len
  have hst2 := run_str (P := Try.prog) w 23 9 5 Try.underlying23 Try.underlying5 Try.underlying9 (c := c') hy.seq hy.len
  have hse := strs_eq bx by_
  obtain ⟨R, hR⟩ : ∃ R, R = decide (x = y) := ⟨_, rfl⟩
  rw [← hR] at hse ⊢
  clear hR hx hy bx by_
  go_enter Try.func30, Try.ntmps30
  go_wp2
  go_ret
  exact ⟨rfl, rfl⟩

end Go.Proofs.Ytdgfofemogmmkaa

namespace Go.Proofs.Ytdgfofemogmmkaa
open Go.RowKit
set_option linter.unusedVariables false

def pndOkI (m : Int) (p : Pnd) : Bool := decide (0 ≤ p.1) && decide (p.1 < m) && decide (p.2.length = 32)
theorem all_getD {α : Type} (l : List α) (z : α) (f : α → Bool) (h : ∀ k, k < l.length → f (l.getD k z) = true) : l.all f = true := by
  rw [List.all_eq_true]
  intro s hs
  obtain ⟨k, hk, rfl⟩ := List.getElem_of_mem hs
  have := h k hk
  rwa [List.getD_eq_getElem?_getD, List.getElem?_eq_getElem hk, Option.getD_some] at this
theorem all_getD_no {α : Type} (l : List α) (z : α) (f : α → Bool) {k : Nat} (hk : k < l.length) (h : f (l.getD k z) = false) : l.all f = false := by
  rw [List.all_eq_false]
  refine ⟨l[k], List.getElem_mem hk, ?_⟩
  rw [List.getD_eq_getElem?_getD, List.getElem?_eq_getElem hk, Option.getD_some] at h
  rw [h]; simp

end Go.Proofs.Ytdgfofemogmmkaa

namespace Go.Proofs.Ytdgfofemogmmkaa
open Go.RowKit
set_option linter.unusedVariables false

theorem secOk_len {s : Sec} (h : s.2.length ≠ 32) : secOk s = false := by unfold secOk; rw [decide_eq_false h, Bool.false_and]
theorem secOk_good {s : Sec} (h : s.2.length = 32) (hb : s.1 = false) : secOk s = true := by unfold secOk; rw [decide_eq_true h, hb]; rfl
theorem secOk_bad {s : Sec} (h : s.2.length = 32) (hb : s.1 = true) : secOk s = decide (s.2 = noughts) := by
  unfold secOk
  rw [decide_eq_true h, hb, Bool.true_and, Bool.not_true, Bool.false_or]
  by_cases e : s.2 = noughts
  · rw [decide_eq_true e, e, List.all_eq_true]
    intro z hz
    rw [List.eq_of_mem_replicate hz]
    rfl
  · rw [decide_eq_false e]
    cases hall : s.2.all fun z => decide (z = 0) with
    | false => rfl
    | true =>
      refine absurd (List.eq_replicate_iff.2 ⟨h, fun z hz => ?_⟩) e
      have := List.all_eq_true.1 hall z hz
      exact decide_eq_true_iff.1 this

end Go.Proofs.Ytdgfofemogmmkaa

namespace Go.Proofs.Ytdgfofemogmmkaa
open Go.RowKit
set_option linter.unusedVariables false

theorem chk_yes {S : List Sec} {C : List Pnd} (h : 1 ≤ S.length ∧ S.length ≤ 1024) (hc : C.length ≤ 64) (h1 : S.all secOk = true) (h2 : C.all (pndOkI S.length) = true) : chkD S C = 0 := by
  unfold chkD mayD
  rw [decide_eq_true h.1, decide_eq_true h.2, decide_eq_true hc, h1, show C.all (pndOk S.length) = true from h2]
  rfl
theorem chk_no1 {S : List Sec} {C : List Pnd} (h : ¬ (1 ≤ S.length ∧ S.length ≤ 1024 ∧ C.length ≤ 64)) : chkD S C = 8 := by
  unfold chkD
  rw [if_neg]
  intro hm
  exact h ((mayD_iff S C).1 hm).1
theorem chk_no2 {S : List Sec} {C : List Pnd} (h : S.all secOk = false) : chkD S C = 8 := by
  unfold chkD mayD
  rw [h]
  simp
theorem chk_no3 {S : List Sec} {C : List Pnd} (h : C.all (pndOkI S.length) = false) : chkD S C = 8 := by
  unfold chkD mayD
  rw [show C.all (pndOk S.length) = false from h]
  simp

theorem ask_chk {S : List Sec} {C : List Pnd} {t : Int} (h : chkD S C ≠ 0) : askE S C t = chkD S C := by
  unfold askE chkD at *
  split at h
  · exact absurd rfl h
  · rename_i hm; rw [if_neg hm, if_neg hm]
theorem ask_at {S : List Sec} {C : List Pnd} {t : Int} (h : chkD S C = 0) : askE S C t = if 0 ≤ t ∧ t < (S.length : Int) then 0 else 2 := by
  unfold askE chkD at *
  split at h
  · rename_i hm
    rw [if_pos hm]
    by_cases hc : 0 ≤ t ∧ t < (S.length : Int)
    · rw [if_pos hc, if_neg (by omega)]
    · rw [if_neg hc, if_pos (by omega)]
  · omega

end Go.Proofs.Ytdgfofemogmmkaa

namespace Go.Proofs.Ytdgfofemogmmkaa
open Go.RowKit
set_option linter.unusedVariables false

theorem lists_yes {α : Type} {l m : List α} (z : α) (hl : l.length = m.length) (h : ∀ k, k < l.length → l.getD k z = m.getD k z) : l = m := by
  apply List.ext_getElem hl
  intro k h1 h2
  have := h k h1
  rwa [List.getD_eq_getElem?_getD, List.getD_eq_getElem?_getD, List.getElem?_eq_getElem h1, List.getElem?_eq_getElem h2] at this
theorem lists_no {α : Type} {l m : List α} (z : α) (k : Nat) (h : l.getD k z ≠ m.getD k z) : l ≠ m := fun e => h (by rw [e])

end Go.Proofs.Ytdgfofemogmmkaa

namespace Go.Proofs.Ytdgfofemogmmkaa
open Go.RowKit
set_option linter.unusedVariables false

theorem run_append_types {P : Program} {t t' e : TypeId} (ht : P.underlying t = some (.slice e)) (ht' : P.underlying t' = some (.slice e)) (ty : TypeId) (A : Option Addr) (n c : Nat) (A' : Option Addr) (n' c' : Nat) (w : World) :
    (Builtin.append_ #[t, t'] ty #[.slice A n c, .slice A' n' c']).run P w = (Builtin.append_ #[t', t'] ty #[.slice A n c, .slice A' n' c']).run P w := by
  simp [Builtin.append_, run_underlying ht, run_underlying ht']

/-- append, where what it answers is known. -/
theorem wpList_app_eq {P : Program} {w w' : World} {ops : Array Oper} {rest : List Oper} {o : Oper} {a : Act} {Q : Exit → Act → World → Prop} (hgd : o.guard = none) (s x : Operand) (t t' : TypeId)
    (ho : o.op = .call { callee := .builtin .append, args := #[s, x], argTypes := #[t, t'] }) {v u v' : Value} (hs : a.eval s = v) (hx : a.eval x = u)
    (hrun : (Builtin.append_ #[t, t'] o.type #[v, u]).run P w = .ok v' w') (h : wpList P ops Q rest (a.put o.dst v') w') : wpList P ops Q (o :: rest) a w := by
  refine wpList_plain hgd fun K hK => ?_
  unfold Oper.wp execOp
  simp only [ho, resolve, invoke, builtin, Sem.run_bind, Sem.run_pure, Result.andThen_ok, List.map_toArray, List.map_cons, List.map_nil, hs, hx, hrun]
  exact hK _ _ h

/-- A text that lies in what a store has given away. -/
def TxtIn (w : World) (base M m : Nat) (A : Option Addr) (n c : Nat) (zs : List Int) : Prop :=
  OwnTxt w base A n c zs ∧ ∀ g o, A = some ⟨g, o, none⟩ → 0 < n → g = M → o + n ≤ m
theorem TxtIn.stay {w w' : World} {base M m cm M' cm' k : Nat} {mem b : List Int} {A : Option Addr} {n c : Nat} {zs : List Int} (h : TxtIn w base M m A n c zs) (hown : w.ownsRow base 5 1 (.slice (some ⟨M, 0, none⟩) m cm) m (ints .u8 mem))
    (hown' : w'.ownsRow base 5 1 (.slice (some ⟨M', 0, none⟩) (m + k) cm') (m + k) (ints .u8 (mem ++ b))) (hg : w.grownBy w' (some M)) (hM : M' = M ∨ (M' = w.heap.size ∧ w.grownBy w' none)) : TxtIn w' base M' (m + k) A n c zs := by
  obtain ⟨ht, hin⟩ := h
  rcases Nat.eq_zero_or_pos n with h0 | hn
  · obtain ⟨h1, h2, h3, _⟩ := ht
    exact ⟨⟨h1, h2, h3, .inl h0⟩, fun g o _ hn => by omega⟩
  · rcases hM with rfl | ⟨rfl, hg2⟩
    · refine ⟨?_, fun g o e hn he => by have := hin g o e hn he; omega⟩
      obtain ⟨h1, h2, h3, h0 | ⟨g, o, cs, rfl, hb, hgc, hc⟩⟩ := ht
      · omega
      · refine ⟨h1, h2, h3, .inr ?_⟩
        by_cases e : g = M'
        · subst e
          have hon := hin g o rfl hn rfl
          rcases hown.2 with ⟨e, _⟩ | ⟨g1, cap1, cur1, e, _, hg1, _, _, _, ht1⟩ <;> cases e
          rcases hown'.2 with ⟨e, _⟩ | ⟨g2, cap2, cur2, e, _, hg2, _, _, _, ht2⟩ <;> cases e
          rw [hgc] at hg1
          simp at hg1
          subst hg1
          refine ⟨g, o, cur2, rfl, hb, hg2, fun j hj => ?_⟩
          have hml : (ints .u8 mem).length = m := by have := hown.1; omega
          have e1 : (ints .u8 mem)[o + j]? = some (.int .u8 (zs.getD j 0)) := by
            rw [← ht1, List.getElem?_take, if_pos (by omega)]
            simpa using hc j hj
          have e2 : (ints .u8 (mem ++ b))[o + j]? = some (.int .u8 (zs.getD j 0)) := by
            rw [ints_app, List.getElem?_append_left (by omega)]
            exact e1
          rw [← ht2, List.getElem?_take, if_pos (by omega)] at e2
          simpa using e2
        · exact ⟨g, o, cs, rfl, hb, (hg.block g (Array.getElem?_eq_some_iff.1 hgc).1 (fun e2 => e (by injection e2))).trans hgc, hc⟩
    · have hlt : ∀ g o, A = some ⟨g, o, none⟩ → g < w.heap.size := fun g o e => by
        obtain ⟨g', o', e', _, hu, _⟩ := ht.at_ hn
        rw [e] at e'
        cases e'
        exact hu.lt
      exact ⟨ht.below (below_of_grown hg2), fun g o e _ he => absurd (hlt g o e) (by omega)⟩
theorem TxtIn.below {w w' : World} {base M m : Nat} {A : Option Addr} {n c : Nat} {zs : List Int} (h : TxtIn w base M m A n c zs) (hb : Below w.heap.size w w') : TxtIn w' base M m A n c zs := ⟨h.1.below hb, h.2⟩
theorem TxtIn.keep {w w' : World} {base M m : Nat} {A : Option Addr} {n c : Nat} {zs : List Int} (h : TxtIn w base M m A n c zs) (hk : ∀ g, base ≤ g → U8 w g → w'.heap[g]? = w.heap[g]?) : TxtIn w' base M m A n c zs := ⟨h.1.keep hk, h.2⟩

end Go.Proofs.Ytdgfofemogmmkaa

namespace Go.Proofs.Ytdgfofemogmmkaa
theorem SmallD.sec_len {S : List Sec} {C : List Pnd} (h : SmallD S C) (k : Nat) : (S.getD k (false, [])).2.length ≤ 100 := by
  rcases Nat.lt_or_ge k S.length with hk | hk
  · rw [List.getD_eq_getElem?_getD, List.getElem?_eq_getElem hk, Option.getD_some]
    exact h.long _ (List.getElem_mem hk)
  · rw [List.getD_eq_getElem?_getD, List.getElem?_eq_none hk]
    simp
theorem SmallD.pnd_len {S : List Sec} {C : List Pnd} (h : SmallD S C) (k : Nat) : (C.getD k (0, [])).2.length ≤ 100 := by
  rcases Nat.lt_or_ge k C.length with hk | hk
  · rw [List.getD_eq_getElem?_getD, List.getElem?_eq_getElem hk, Option.getD_some]
    exact h.wide _ (List.getElem_mem hk)
  · rw [List.getD_eq_getElem?_getD, List.getElem?_eq_none hk]
    simp
end Go.Proofs.Ytdgfofemogmmkaa
