/- Layer 11: records' values; rows of records: read, and of the call's own; append. No statement is proved here. -/
import Derived.Test.YthoflogegopikaaRecMath
import Derived.Test.YthoflogegopikaaStepDup
import Derived.Laws.StructEq
import Derived.Maps.AppendAt
import Derived.Deep.Slices
namespace Go.Proofs.Ythoflogegopikaa
open Go.RowKit Go.OpenShut Go.ChangeShapes Go.WideShapes Go.Deep Go.Joins
set_option linter.unusedVariables false

/-- A record's value. -/
abbrev recV (r : Rc) : Value := .agg #[.int .i64 r.p, .int .u32 r.b, .int .u32 r.e, .int .i64 r.l, .int .u8 r.h, .int .i64 r.f, .bool r.q, .bool r.a]
abbrev recL (r : Rc) : List Value := [.int .i64 r.p, .int .u32 r.b, .int .u32 r.e, .int .i64 r.l, .int .u8 r.h, .int .i64 r.f, .bool r.q, .bool r.a]

theorem eq_rec (r s : Rc) (w : World) : (Op.equalIn 10000 24 (recV r) (recV s)).run Try.prog w = .ok (decide (r = s)) w := by
  have u1 := Try.underlying22
  have u2 := Try.underlying3
  have u3 := Try.underlying5
  have u4 := Try.underlying4
  have hS : Try.prog.underlying 24 = some (.struct (Try.prog.fieldsOf 24)) := by kernel_rfl
  have hp : Try.prog.stoodInHeld 24 = false := by kernel_rfl
  have e : decide (r = s) = (r.p == s.p && r.b == s.b && r.e == s.e && r.l == s.l && r.h == s.h && r.f == s.f && r.q == s.q && r.a == s.a) := by
    rw [Bool.eq_iff_iff]
    simp [Rc.eq_iff, and_assoc]
  rw [e, show (10000 : Nat) = 9999 + 1 from rfl, run_equalIn_agg w 9999 24 _ _ hS hp]
  simp only [Program.fieldsOf, Try.underlying24]
  go_simp
  by_cases h1 : r.p = s.p <;> by_cases h2 : r.b = s.b <;> by_cases h3 : r.e = s.e <;> by_cases h4 : r.l = s.l <;> by_cases h5 : r.h = s.h <;> by_cases h6 : r.f = s.f <;> by_cases h7 : r.q = s.q <;> by_cases h8 : r.a = s.a <;> simp [h1, h2, h3, h4, h5, h6, h7, h8]
theorem rec_info : (Try.prog.info? 24).map (fun i => (i.zero, i.size, i.bytes)) = some (some (recV zR), 8, 48) := by kernel_rfl

def recsV (L : List Rc) : List Value := L.flatMap recL
theorem recsV_length (L : List Rc) : (recsV L).length = L.length * 8 := by
  induction L with
  | nil => rfl
  | cons r L ih => unfold recsV at ih ⊢; rw [List.flatMap_cons, List.length_append, ih]; simp; omega
theorem recsV_at {L : List Rc} {i j : Nat} (hi : i < L.length) (hj : j < 8) : (recsV L)[i * 8 + j]? = (recL (L.getD i zR))[j]? := by
  induction L generalizing i with
  | nil => exact absurd hi (Nat.not_lt_zero _)
  | cons r L ih =>
    have e : recsV (r :: L) = recL r ++ recsV L := rfl
    rw [e]
    cases i with
    | zero =>
      rw [Nat.zero_mul, Nat.zero_add, List.getElem?_append_left (by simpa using hj)]
      rfl
    | succ i =>
      rw [List.getElem?_append_right (by simp; omega), show (i + 1) * 8 + j - (recL r).length = i * 8 + j by simp; omega, ih (by simpa using hi)]
      rfl
theorem recsV_app (L M : List Rc) : recsV (L ++ M) = recsV L ++ recsV M := List.flatMap_append
theorem recsV_one (r : Rc) : recsV [r] = recL r := by simp [recsV]
theorem one_rec (r : Rc) : ∀ v ∈ recL r, v.oneCell' = true := by intro v hv; simp at hv; rcases hv with rfl | rfl | rfl | rfl | rfl | rfl | rfl | rfl <;> rfl
theorem one_recs (L : List Rc) : ∀ v ∈ recsV L, v.oneCell' = true := fun v hv => by
  obtain ⟨r, _, h⟩ := List.mem_flatMap.1 hv
  exact one_rec r v h

/-- Rows of records, as they are read. -/
structure Recs (w : World) (A : Option Addr) (n c : Nat) (L : List Rc) : Prop where
  len : L.length = n
  cap : n ≤ c
  max : c ≤ maxLen
  is : allR L
  at_ : ∀ i, i < n → ∃ b o, A = some ⟨b, o, none⟩ ∧ b < w.heap.size ∧ ∀ j v, (recL (L.getD i zR))[j]? = some v → w.cell? ⟨b, o + i * 8 + j, none⟩ = some v
section
variable {w w' : World} {A : Option Addr} {n c : Nat} {L : List Rc}
theorem Recs.below (h : Recs w A n c L) (hb : Below w.heap.size w w') : Recs w' A n c L :=
  ⟨h.len, h.cap, h.max, h.is, fun i hi => by
    obtain ⟨b, o, e, hlt, hc⟩ := h.at_ i hi
    exact ⟨b, o, e, Nat.lt_of_lt_of_le hlt hb.size, fun j v hv => (hb.cell (p := ⟨b, _, none⟩) hlt).trans (hc j v hv)⟩⟩
theorem Recs.nil (w : World) : Recs w none 0 0 [] := ⟨rfl, Nat.le_refl _, by decide, (fun r hr => by cases hr), fun i hi => by omega⟩
theorem Recs.row (h : Recs w A n c L) {i : Nat} (hi : i < n) : ∃ b o, A = some ⟨b, o, none⟩ ∧ b < w.heap.size ∧ w.cell? ⟨b, o + i * 8, none⟩ = some (.int .i64 (L.getD i zR).p) ∧ w.cell? ⟨b, o + i * 8 + 1, none⟩ = some (.int .u32 (L.getD i zR).b) ∧ w.cell? ⟨b, o + i * 8 + 2, none⟩ = some (.int .u32 (L.getD i zR).e) ∧
    w.cell? ⟨b, o + i * 8 + 3, none⟩ = some (.int .i64 (L.getD i zR).l) ∧ w.cell? ⟨b, o + i * 8 + 4, none⟩ = some (.int .u8 (L.getD i zR).h) ∧ w.cell? ⟨b, o + i * 8 + 5, none⟩ = some (.int .i64 (L.getD i zR).f) ∧ w.cell? ⟨b, o + i * 8 + 6, none⟩ = some (.bool (L.getD i zR).q) ∧ w.cell? ⟨b, o + i * 8 + 7, none⟩ = some (.bool (L.getD i zR).a) := by
  obtain ⟨b, o, e, hlt, hc⟩ := h.at_ i hi
  exact ⟨b, o, e, hlt, hc 0 _ rfl, hc 1 _ rfl, hc 2 _ rfl, hc 3 _ rfl, hc 4 _ rfl, hc 5 _ rfl, hc 6 _ rfl, hc 7 _ rfl⟩
theorem Recs.is_at (h : Recs w A n c L) {i : Nat} (hi : i < n) : isR (L.getD i zR) := by
  have := h.len
  rw [List.getD_eq_getElem?_getD, List.getElem?_eq_getElem (by omega)]
  exact h.is _ (List.getElem_mem _)
theorem Recs.seq (h : Recs w A n c L) : Seq w w.heap.size A (recsV L) := fun k v hv => by
  have hk : k < L.length * 8 := by
    rcases Nat.lt_or_ge k (recsV L).length with hk | hk
    · rwa [recsV_length] at hk
    · rw [List.getElem?_eq_none hk] at hv; cases hv
  have e : k = (k / 8) * 8 + k % 8 := by omega
  obtain ⟨b, o, ea, hlt, hc⟩ := h.at_ (k / 8) (by have := h.len; omega)
  have h2 := recsV_at (L := L) (i := k / 8) (j := k % 8) (by omega) (by omega)
  rw [← e] at h2
  have h3 := hc (k % 8) v (by rw [← h2]; exact hv)
  refine ⟨b, o, ea, hlt, ?_⟩
  rw [Nat.add_assoc, ← e] at h3
  exact h3
end

/-- Records of the call's own. -/
def OwnRecs (w : World) (base : Nat) (A : Option Addr) (n c : Nat) (L : List Rc) : Prop := w.ownsRow base 24 8 (.slice A n c) n (recsV L) ∧ L.length = n ∧ allR L
section
variable {w w' : World} {base base' : Nat} {A : Option Addr} {n c : Nat} {L : List Rc}
theorem Recs.of_own (h : OwnRecs w base A n c L) : Recs w A n c L := by
  obtain ⟨hown, hl, ha⟩ := h
  refine ⟨hl, ?_, ?_, ha, fun i hi => ?_⟩
  · rcases hown.2 with ⟨e, h0⟩ | ⟨g, cap, cur, e, _, _, h1, h2, _⟩ <;> cases e
    · exact Nat.le_refl _
    · exact h1
  · rcases hown.2 with ⟨e, h0⟩ | ⟨g, cap, cur, e, _, _, h1, h2, _⟩ <;> cases e
    · decide
    · exact h2
  · have h0 : (recsV L)[i * 8 + 0]? = some (.int .i64 (L.getD i zR).p) := by rw [recsV_at (by omega) (by omega)]; rfl
    obtain ⟨b, e, hlt, _⟩ := owns_cell hown h0
    refine ⟨b, 0, e, hlt, fun j v hv => ?_⟩
    have hj : j < 8 := by
      rcases Nat.lt_or_ge j 8 with hj | hj
      · exact hj
      · rw [List.getElem?_eq_none (by simpa using hj)] at hv; cases hv
    have h1 : (recsV L)[i * 8 + j]? = some v := by rw [recsV_at (by omega) hj]; exact hv
    obtain ⟨b', e', _, hc⟩ := owns_cell hown h1
    rw [e] at e'
    cases e'
    rw [Nat.zero_add]
    exact hc
theorem OwnRecs.below (h : OwnRecs w base A n c L) (hb : Below w.heap.size w w') : OwnRecs w' base A n c L := ⟨owns_below h.1 hb, h.2.1, h.2.2⟩
theorem OwnRecs.lower (h : OwnRecs w base A n c L) (hb : base' ≤ base) : OwnRecs w base' A n c L := ⟨owns_base h.1 hb, h.2.1, h.2.2⟩
theorem OwnRecs.nil (w : World) (base : Nat) : OwnRecs w base none 0 0 [] := ⟨World.ownsRow_nil _ _ _ _, rfl, fun r hr => by cases hr⟩
/-- They stay where a block turns that is none of theirs. -/
theorem OwnRecs.keep (h : OwnRecs w base A n c L) (hk : ∀ (g : Nat) (cs : Array Value), base ≤ g → w.heap[g]? = some (.cells cs 24 (0, 0)) → w'.heap[g]? = w.heap[g]?) : OwnRecs w' base A n c L :=
  ⟨owns_keep h.1 fun g cs hg hc => hk g cs hg hc, h.2.1, h.2.2⟩
theorem OwnRecs.away (h : OwnRecs w base A n c L) {g : Nat} (hg : g < base) (i : Nat) (u : Value) : OwnRecs (w.setCell ⟨g, i, none⟩ u) base A n c L :=
  h.keep fun g' _ hb hc => (grownBy_set w g i u).block g' (Array.getElem?_eq_some_iff.1 hc).1 (fun e => by injection e with e; omega)
/-- append(out, r), in a world where its literal lies. -/
theorem run_recs (w0 w : World) (ty : TypeId) (A0 : Option Addr) (n0 c0 : Nat) (M : List Rc) (hown : OwnRecs w base A0 n0 c0 M) (r : Rc) (hr : isR r) (h63 : n0 + 1 ≤ 100000) (hbel : Below base w0 w) (hw0 : base ≤ w0.heap.size) :
    ∃ A' c' w', (Builtin.append_ #[30, 30] ty #[.slice A0 n0 c0, .slice (some ⟨w.heap.size, 0, none⟩) 1 1]).run Try.prog (w.alloc (.cells (recL r).toArray 24)) = .ok (.slice A' (n0 + 1) c') w' ∧ OwnRecs w' base A' (n0 + 1) c' (M ++ [r]) ∧ Below base w0 w' ∧ (w.alloc (.cells (recL r).toArray 24)).grownBy w' (Value.slice A0 n0 c0).ownBlock := by
  obtain ⟨i, hi, hz, hsize, hby⟩ := info_parts rec_info
  have hml : (100000 : Nat) ≤ maxLen := by decide
  have hbase : base ≤ w.heap.size := Nat.le_trans hw0 hbel.size
  have hlit := Blk.new w 24 (recL r)
  have hcs : ∀ j u, (recL r)[j]? = some u → (w.alloc (.cells (recL r).toArray 24)).cell? ((⟨w.heap.size, 0, none⟩ : Addr).add j) = some u := by
    intro j u hu
    have e2 : (⟨w.heap.size, 0, none⟩ : Addr).add j = ⟨w.heap.size, 0 + j, none⟩ := by unfold Addr.add; split <;> simp_all
    rw [e2, Nat.zero_add, hlit.cell j]
    exact hu
  obtain ⟨v', w', h, r2, r3, _, _⟩ := run_append_own_at (P := Try.prog) (w.alloc (.cells (recL r).toArray 24)) base 30 ty 24 i _ 8 48 Try.underlying30 hi hz hsize hby rfl (by omega) _ n0 (recsV M) (hown.1.alloc _) ⟨w.heap.size, 0, none⟩ 1 1 (recL r) rfl hcs (one_rec r) (by omega) (by omega) (by simp; omega)
  obtain ⟨g', c', rfl⟩ := ownsRow_some r2
  refine ⟨some ⟨g', 0, none⟩, c', w', h, ⟨by rw [recsV_app, recsV_one]; exact r2, by simp [hown.2.1], fun s hs => ?_⟩, (hbel.alloc hbase _).grown r3 (by simp; omega) (fun g e => (hown.1.lt g e).1), r3⟩
  rcases List.mem_append.1 hs with hs | hs
  · exact hown.2.2 s hs
  · rw [List.mem_singleton.1 hs]; exact hr
end
theorem OwnRecs.allocated {w : World} {base : Nat} {A : Option Addr} {n c : Nat} {L : List Rc} (h : OwnRecs w base A n c L) (o : Obj) : OwnRecs (w.alloc o) base A n c L := h.below ((Below.refl _ _).alloc (Nat.le_refl _) o)
/-- append(out, r), guarded or not. -/
theorem wpList_recs (w0 w : World) {ops : Array Oper} {rest : List Oper} {o : Oper} {a : Act} {Q : Exit → Act → World → Prop} (hw : Region.wanted o (yielded ops a.tmps) = true) (s x : Operand)
    (ho : o.op = .call { callee := .builtin .append, args := #[s, x], argTypes := #[30, 30] }) (base : Nat) (A0 : Option Addr) (n c0 : Nat) (M : List Rc) (hs : a.eval s = .slice A0 n c0) (hown : OwnRecs w base A0 n c0 M)
    (r : Rc) (hr : isR r) (hx : a.eval x = .slice (some ⟨w.heap.size, 0, none⟩) 1 1) (h63 : n + 1 ≤ 100000) (hbel : Below base w0 w) (hw0 : base ≤ w0.heap.size)
    (h : ∀ A' c' w', OwnRecs w' base A' (n + 1) c' (M ++ [r]) → Below base w0 w' → wpList Try.prog ops Q rest (a.put o.dst (.slice A' (n + 1) c')) w') : wpList Try.prog ops Q (o :: rest) a (w.alloc (.cells (recL r).toArray 24)) := by
  refine wpList_want hw fun K hK => ?_
  obtain ⟨A', c', w', hrun, h2, h3, _⟩ := run_recs w0 w o.type A0 n c0 M hown r hr h63 hbel hw0
  unfold Oper.wp execOp
  simp only [ho, resolve, invoke, builtin, Sem.run_bind, Sem.run_pure, Result.andThen_ok, List.map_toArray, List.map_cons, List.map_nil, hs, hx, hrun]
  exact hK _ _ (h A' c' w' h2 h3)
end Go.Proofs.Ythoflogegopikaa
