/- Small facts on memory that all walks of this seat use: what a slice reads as, a block known whole, what stays. No statement is proved here. -/
/- More small facts on memory: a copy of its own. No statement is proved here. -/
/- One row of numbers that came in, or is the call's own. No statement is proved here. -/
import Derived.Test.YtibegaoegpanpaaRows
import Derived.WalkKit
import Derived.WalkSpells
import Derived.WalkLawsBesides
import Derived.Lib.Hide
import Derived.Deep.Draws
import Derived.BigQuiet
import Derived.Deep.QuietTactic
import Derived.Maps.AppendAt
import Derived.Deep.AppendLies
import Derived.Test.YtibegaoegpanpaaByteMath
import Derived.OpenShut
namespace Go.Proofs.Ytibegaoegpanpaa
open Go.RowKit

/-- The slice's address A leads to the cells xs, one behind the other, in a block below B. (Of the empty list nothing is asked.) -/
def Seq (w : World) (B : Nat) (A : Option Addr) (xs : List Value) : Prop :=
  ∀ (j : Nat) (v : Value), xs[j]? = some v → ∃ b o, A = some ⟨b, o, none⟩ ∧ b < B ∧ w.cell? ⟨b, o + j, none⟩ = some v

/-- Numbers of one kind, as cells. -/
def ints (k : IntKind) (zs : List Int) : List Value := zs.map (Value.int k)

theorem ints_length (k : IntKind) (zs : List Int) : (ints k zs).length = zs.length := by simp [ints]
theorem ints_get (k : IntKind) (zs : List Int) (j : Nat) (h : j < zs.length) : (ints k zs)[j]? = some (.int k zs[j]) := by simp [ints, h]
theorem ints_getD (k : IntKind) (zs : List Int) (j : Nat) (h : j < zs.length) : (ints k zs)[j]? = some (.int k (zs.getD j 0)) := by simp [ints, h]
theorem ints_app (k : IntKind) (xs ys : List Int) : ints k (xs ++ ys) = ints k xs ++ ints k ys := by simp [ints]
theorem ints_nil (k : IntKind) : ints k [] = [] := rfl
theorem ints_one (k : IntKind) (zs : List Int) : ∀ u ∈ ints k zs, u.oneCell' = true := by
  intro u hu
  obtain ⟨z, _, rfl⟩ := List.mem_map.1 hu
  rfl

theorem set_ints (k : IntKind) (l : List Int) (i : Nat) (x : Int) : (ints k l).set i (.int k x) = ints k (l.set i x) := by
  simp [ints, List.map_set]
theorem block_add (a : Addr) (n : Nat) : (a.add n).block = a.block := by unfold Addr.add; split <;> rfl

section
variable {w w' : World} {B B' : Nat} {A : Option Addr} {xs ys : List Value}

theorem Seq.empty : Seq w B A [] := fun j v h => by simp at h
theorem Seq.at_ (h : Seq w B A xs) (hne : 0 < xs.length) : ∃ b o, A = some ⟨b, o, none⟩ ∧ b < B ∧ ∀ (j : Nat) (v : Value), xs[j]? = some v → w.cell? ⟨b, o + j, none⟩ = some v := by
  obtain ⟨b, o, rfl, hb, _⟩ := h 0 xs[0] (List.getElem?_eq_getElem hne)
  refine ⟨b, o, rfl, hb, fun j v hv => ?_⟩
  obtain ⟨b', o', e, _, hc⟩ := h j v hv
  cases e
  exact hc
theorem Seq.of {b o : Nat} (hb : b < B) (h : ∀ (j : Nat) (v : Value), xs[j]? = some v → w.cell? ⟨b, o + j, none⟩ = some v) : Seq w B (some ⟨b, o, none⟩) xs :=
  fun j v hv => ⟨b, o, rfl, hb, h j v hv⟩
/-- One number of a row. -/
theorem Seq.int {k : IntKind} {zs : List Int} (h : Seq w B A (ints k zs)) {j : Nat} (hj : j < zs.length) :
    ∃ b o, A = some ⟨b, o, none⟩ ∧ b < B ∧ w.cell? ⟨b, o + j, none⟩ = some (.int k (zs.getD j 0)) := h j _ (ints_getD k zs j hj)
theorem Seq.keep (h : Seq w B A xs) (hk : ∀ p : Addr, p.block < B → w'.cell? p = w.cell? p) : Seq w' B A xs := fun j v hv => by
  obtain ⟨b, o, e, hb, hc⟩ := h j v hv
  exact ⟨b, o, e, hb, (hk _ hb).trans hc⟩
theorem Seq.more (h : Seq w B A xs) (hB : B ≤ B') : Seq w B' A xs := fun j v hv => by
  obtain ⟨b, o, e, hb, hc⟩ := h j v hv
  exact ⟨b, o, e, by omega, hc⟩
theorem Seq.below (h : Seq w B A xs) (hb : Below B w w') : Seq w' B A xs := h.keep fun _ hp => hb.cell hp
theorem Seq.grown (h : Seq w B A xs) {row : Option Nat} (hg : w.grownBy w' row) (hB : B ≤ w.heap.size) (hr : ∀ g, row = some g → B ≤ g) : Seq w' B A xs :=
  h.keep fun p hp => World.cell?_of_block (hg.block p.block (by omega) (fun e => by have := hr _ e.symm; omega))
theorem Seq.alloc (h : Seq w B A xs) (hB : B ≤ w.heap.size) (o : Obj) : Seq (w.alloc o) B A xs := h.keep fun p hp => World.cell?_alloc_lt w o p (by omega)
theorem Seq.take (h : Seq w B A xs) (n : Nat) : Seq w B A (xs.take n) := fun j v hv => by
  rw [List.getElem?_take] at hv
  split at hv
  · exact h j v hv
  · cases hv
/-- A piece of it, from place n on. -/
theorem Seq.drop {b o : Nat} (h : Seq w B (some ⟨b, o, none⟩) xs) (n : Nat) : Seq w B (some ⟨b, o + n, none⟩) (xs.drop n) := fun j v hv => by
  rw [List.getElem?_drop] at hv
  obtain ⟨b', o', e, hb, hc⟩ := h (n + j) v hv
  cases e
  exact ⟨_, _, rfl, hb, by rw [show o + n + j = o + (n + j) from by omega]; exact hc⟩
theorem Seq.own {base : Nat} {e : TypeId} {n c : Nat} (h : w.ownsRow base e 1 (.slice A n c) n xs) : Seq w w.heap.size A xs := by
  rcases h.2 with ⟨_, h0⟩ | ⟨g, cap, cur, hv, _, hg, _, _, _, _⟩
  · have : xs = [] := List.eq_nil_of_length_eq_zero (by have := h.1; omega)
    subst this
    exact Seq.empty
  · cases hv
    refine Seq.of (Array.getElem?_eq_some_iff.1 hg).1 fun j v hv => ?_
    have hc := h.cells (g := g) rfl j v hv
    have e : (⟨g, 0, none⟩ : Addr).add j = ⟨g, 0 + j, none⟩ := by unfold Addr.add; split <;> simp_all
    rwa [e] at hc
end

/-- What a law's frame tells of a slice of integers that came in. -/
def IsRow (k : IntKind) (w : World) (a : Option Addr) (len cap : Nat) (zs : List Int) : Prop :=
  (a = none ∧ len = 0 ∧ cap = 0 ∧ zs = []) ∨
  ∃ x, a = some x ∧ len ≤ cap ∧ cap ≤ maxLen ∧ zs.length = cap ∧ (∀ i, i < zs.length → w.cell? (x.add i) = some (.int k (zs.getD i 0))) ∧ ∀ n ∈ zs, (Lit.int k n).wf = true

/-- It reads as the list of its elements, below the heap's end, each fitting its kind. -/
theorem IsRow.read {k : IntKind} {w : World} {a : Option Addr} {len cap : Nat} {zs : List Int} (h : IsRow k w a len cap zs) :
    ∃ l : List Int, l.length = len ∧ len ≤ cap ∧ cap ≤ maxLen ∧ Seq w w.heap.size a (ints k l) ∧ ∀ z ∈ l, (Lit.int k z).wf = true := by
  rcases h with ⟨rfl, rfl, rfl, rfl⟩ | ⟨x, rfl, hl, hm, hz, hc, hw⟩
  · exact ⟨[], rfl, Nat.le_refl _, by decide, Seq.empty, by simp⟩
  · refine ⟨zs.take len, by simp; omega, hl, hm, ?_, fun z hz => hw z (List.mem_of_mem_take hz)⟩
    intro j v hv
    have hj : j < len ∧ j < zs.length := by
      have : j < (ints k (zs.take len)).length := by
        rcases Nat.lt_or_ge j (ints k (zs.take len)).length with h | h
        · exact h
        · rw [List.getElem?_eq_none h] at hv; cases hv
      simp [ints] at this
      omega
    have hv' : v = .int k (zs.getD j 0) := by
      have e := ints_getD k (zs.take len) j (by simp; omega)
      rw [e] at hv
      injection hv with hv
      rw [← hv]
      simp [hj.1]
    subst hv'
    obtain ⟨b, o, spot⟩ := x
    have h0 := hc 0 (by omega)
    have hs : spot = none := by simpa [Addr.add] using World.cell?_spot h0
    subst hs
    have hcj := hc j hj.2
    have e : (⟨b, o, none⟩ : Addr).add j = ⟨b, o + j, none⟩ := by unfold Addr.add; split <;> simp_all
    rw [e] at hcj
    exact ⟨b, o, rfl, World.block_lt_of_cell? w _ hcj, hcj⟩

/-- A block of the heap, known whole, no cell frozen. -/
def Blk (w : World) (g : Nat) (t : TypeId) (cs : List Value) : Prop := w.heap[g]? = some (.cells cs.toArray t (0, 0))
section
variable {w w' : World} {g : Nat} {t : TypeId} {cs : List Value}
theorem Blk.lt (h : Blk w g t cs) : g < w.heap.size := (Array.getElem?_eq_some_iff.1 h).1
theorem Blk.cell (h : Blk w g t cs) (i : Nat) : w.cell? ⟨g, i, none⟩ = cs[i]? := by
  have := cell_of_row w g i cs.toArray t (0, 0) h
  simpa using this
theorem Blk.free (h : Blk w g t cs) (i : Nat) : w.frozen? ⟨g, i, none⟩ = false := by
  unfold Blk at h
  simp [World.frozen?, h]
theorem Blk.set (h : Blk w g t cs) (i : Nat) (u : Value) : Blk (w.setCell ⟨g, i, none⟩ u) g t (cs.set i u) := by
  unfold Blk at h ⊢
  simp [World.setCell, Array.getElem?_modify, h]
/-- One block has one element type. -/
theorem Blk.ty {t' : TypeId} {cs' : List Value} (h : Blk w g t cs) (h' : Blk w g t' cs') : t = t' := by
  unfold Blk at h h'
  rw [h] at h'
  injection h' with h'
  injection h' with _ e
theorem Blk.grown {row : Option Nat} (h : Blk w g t cs) (hb : w.grownBy w' row) (hg : some g ≠ row) : Blk w' g t cs := (hb.block g h.lt hg).trans h
theorem Blk.below {B : Nat} (h : Blk w g t cs) (hb : Below B w w') (hg : g < B) : Blk w' g t cs := (hb.block g hg).trans h
theorem Blk.seq (h : Blk w g t cs) (o n : Nat) : Seq w (g + 1) (some ⟨g, o, none⟩) ((cs.drop o).take n) := fun j v hv => by
  refine ⟨g, o, rfl, by omega, ?_⟩
  rw [h.cell]
  rw [List.getElem?_take] at hv
  split at hv
  · rwa [List.getElem?_drop] at hv
  · cases hv
end
theorem Blk.owns {w : World} {g : Nat} {t : TypeId} {cs : List Value} (h : Blk w g t cs) {base n : Nat} (hb : base ≤ g) (hn : cs.length = n) (hm : n ≤ maxLen) : w.ownsRow base t 1 (.slice (some ⟨g, 0, none⟩) n n) n cs :=
  ⟨by omega, .inr ⟨g, n, cs.toArray, rfl, hb, h, Nat.le_refl _, hm, by simp [hn], by simp [← hn]⟩⟩
theorem below_of_grown {w w' : World} (h : w.grownBy w' none) : Below w.heap.size w w' := (Below.refl _ _).grown h (Nat.le_refl _) (fun _ e => by cases e)
/-- What a call hands back beside a number: a row of its own, and nothing that was there has turned. -/
def RowOut (k : IntKind) (t : TypeId) (w : World) (zs : List Int) (E : Int) (e : Ending) (w' : World) : Prop :=
  ∃ A c, e = .returned (.tuple #[.slice A zs.length c, .int .i64 E]) ∧ w'.ownsRow w.heap.size t 1 (.slice A zs.length c) zs.length (ints k zs) ∧ Below w.heap.size w w'
theorem RowOut.len {k : IntKind} {t : TypeId} {w : World} {zs zs' : List Int} {E : Int} {e : Ending} {w' : World} (h : RowOut k t w zs E e w') {n : Nat} (hz : zs = zs') (hn : zs'.length = n) :
    ∃ A c, e = .returned (.tuple #[.slice A n c, .int .i64 E]) ∧ w'.ownsRow w.heap.size t 1 (.slice A n c) n (ints k zs') ∧ Below w.heap.size w w' := by
  subst hz; subst hn; exact h
theorem RowOut.nil (k : IntKind) (t : TypeId) (w : World) (E : Int) : RowOut k t w [] E (.returned (.tuple #[.slice none 0 0, .int .i64 E])) w :=
  ⟨none, 0, rfl, World.ownsRow_nil _ _ _ _, Below.refl _ _⟩
theorem _root_.Go.World.grownBy.weak {w w' : World} {row row' : Option Nat} (h : w.grownBy w' row) (hr : ∀ k, row = some k → k < w.heap.size → row' = some k) : w.grownBy w' row' :=
  ⟨h.os, h.tape, h.output, h.size, fun k hk he => h.block k hk (fun e => he (hr k e.symm hk).symm)⟩
theorem grownBy_drew {w wr : World} {row : Option Nat} (h : w.grownBy wr row) : w.grownBy wr.drew row := ⟨h.os, h.tape, h.output, h.size, h.block⟩
theorem grownBy_then {a b c : World} {row : Option Nat} (h : a.grownBy b none) (k : b.grownBy c row) (hr : ∀ g, row = some g → a.heap.size ≤ g) : a.grownBy c none :=
  ⟨k.os.trans h.os, k.tape.trans h.tape, k.output.trans h.output, Nat.le_trans h.size k.size, fun i hi _ => (k.block i (by have := h.size; omega) (fun e => by have := hr i e.symm; omega)).trans (h.block i hi (by simp))⟩
theorem grownBy_set (w : World) (g i : Nat) (u : Value) : w.grownBy (w.setCell ⟨g, i, none⟩ u) (some g) :=
  ⟨rfl, rfl, rfl, by simp [World.setCell], fun k _ hk => Below.heap_setCell w _ u k (fun e => hk (by rw [e]))⟩
theorem Blk.away {w : World} {g g' : Nat} {t : TypeId} {cs : List Value} (h : Blk w g t cs) (hg : g ≠ g') (i : Nat) (u : Value) : Blk (w.setCell ⟨g', i, none⟩ u) g t cs :=
  h.grown (grownBy_set w g' i u) (fun e => hg (by injection e))
theorem grownBy_trans {a b c : World} {row : Option Nat} (h : a.grownBy b row) (k : b.grownBy c row) : a.grownBy c row :=
  ⟨k.os.trans h.os, k.tape.trans h.tape, k.output.trans h.output, Nat.le_trans h.size k.size, fun i hi hr => (k.block i (by have := h.size; omega) hr).trans (h.block i hi hr)⟩
theorem grownBy_set_new {w wr : World} {row : Option Nat} (h : w.grownBy wr row) {g : Nat} (hg : w.heap.size ≤ g) (i : Nat) (u : Value) : w.grownBy (wr.setCell ⟨g, i, none⟩ u) row :=
  ⟨h.os, h.tape, h.output, by have := h.size; simp [World.setCell]; omega, fun k hk hr => (Below.heap_setCell wr _ u k (fun e => by simp at e; omega)).trans (h.block k hk hr)⟩
theorem grownBy_refl (w : World) (row : Option Nat) : w.grownBy w row := ⟨rfl, rfl, rfl, Nat.le_refl _, fun _ _ _ => rfl⟩

/-- n cells of one value: what make lays. -/
def rep (n : Nat) (z : Value) : Array Value := (List.replicate n z).toArray
theorem rep_toList (n : Nat) (z : Value) : rep n z = (List.replicate n z).toArray := rfl
theorem run_make1 {P : Program} (t e : TypeId) (i : TypeInfo) (z : Value) (ht : P.underlying t = some (.slice e)) (hi : P.info? e = some i) (hz : i.zero = some z) (h1 : i.size = 1) (hzc : z.cells = #[z])
    (n : Nat) (hb : i.bytes * n ≤ 281474976710656) (hm : n ≤ maxLen) (w : World) :
    (Instr.makeSlice t (.int .i64 (n : Int)) (.int .i64 (n : Int))).run P w = .ok (.slice (some ⟨w.heap.size, 0, none⟩) n n) (w.alloc (.cells (rep n z) e)) := by
  have hm' : (n : Int) ≤ 9223372036854775807 := by simp only [maxLen] at hm; omega
  have hb' : (i.bytes : Int) * (n : Int) ≤ 281474976710656 := by
    have h : ((i.bytes * n : Nat) : Int) ≤ 281474976710656 := by omega
    rwa [Int.natCast_mul] at h
  have hr := run_make (P := P) w t e i z ht hi hz .i64 .i64 n n (by omega) (Int.le_refl _) hb' hm'
  simp only [Int.toNat_natCast, h1, Nat.mul_one, hzc] at hr
  rw [hr]
  have he : madeCells #[z] n = rep n z := by
    have := toList_madeCells_one z n
    rw [rep, ← this]
  rw [he]
theorem Blk.new (w : World) (t : TypeId) (cs : List Value) : Blk (w.alloc (.cells cs.toArray t)) w.heap.size t cs := heap_alloc_new w _

theorem grown_of_below {w w' : World} (h : Below w.heap.size w w') : w.grownBy w' none := ⟨h.os, h.tape, h.output, h.size, fun k hk _ => h.block k hk⟩
theorem owns_below {w w' : World} {base : Nat} {e : TypeId} {size : Nat} {v : Value} {n : Nat} {xs : List Value} (h : w.ownsRow base e size v n xs) (hb : Below w.heap.size w w') : w'.ownsRow base e size v n xs :=
  h.kept (grown_of_below hb) (by cases v.ownBlock <;> simp)

/-- append of a row that is read onto a row of the call's own: one cell an element. -/
theorem run_app {P : Program} (w : World) (base : Nat) (t ty e : TypeId) (i : TypeInfo) (z : Value) (bytes : Nat) (ht : P.underlying t = some (.slice e)) (hi : P.info? e = some i) (hz : i.zero = some z)
    (hsize : i.size = 1) (hby : i.bytes = bytes) (hzs : z.cells.size = 1) (v : Value) (n : Nat) (xs : List Value) (hown : w.ownsRow base e 1 v n xs)
    (B : Nat) (A : Option Addr) (m c : Nat) (news : List Value) (hl : news.length = m) (hr : Seq w B A news) (h1 : ∀ u ∈ news, u.oneCell' = true)
    (h63 : n + m ≤ maxLen) (hbytes : (n + m) * bytes ≤ 140737488355328) (hbase : base ≤ w.heap.size) :
    ∃ v' w', (Builtin.append_ #[t, t] ty #[v, .slice A m c]).run P w = .ok v' w' ∧ w'.ownsRow base e 1 v' (n + m) (xs ++ news) ∧ w.grownBy w' v.ownBlock ∧ (v'.ownBlock = v.ownBlock ∨ v'.ownBlock = some w.heap.size) := by
  cases A with
  | none =>
    have hm : news = [] := by
      cases news with
      | nil => rfl
      | cons x r => obtain ⟨_, _, e, _⟩ := hr 0 x rfl; cases e
    subst hm
    have hm0 : m = 0 := by simpa using hl.symm
    subst hm0
    refine ⟨v, w, ?_, by simpa using hown, grownBy_refl _ _, .inl rfl⟩
    rcases hown.2 with ⟨rfl, rfl⟩ | ⟨g, cap, cur, rfl, _, _, hnc, _⟩
    · simp [Builtin.append_, run_underlying ht, sizeOf, typeInfo, hi, Builtin.lenOf, Builtin.firstCells]
    · simp [Builtin.append_, run_underlying ht, sizeOf, typeInfo, hi, Builtin.lenOf, Builtin.firstCells, hnc, storeCells]
  | some a =>
    have hcs : ∀ j u, news[j]? = some u → w.cell? (a.add j) = some u := by
      intro j u hu
      obtain ⟨b, o, e, _, hc⟩ := hr j u hu
      injection e with e
      subst e
      have e2 : (⟨b, o, none⟩ : Addr).add j = ⟨b, o + j, none⟩ := by unfold Addr.add; split <;> simp_all
      rw [e2]; exact hc
    obtain ⟨v', w', h, h2, h3, _, h5⟩ := run_append_own_at (P := P) w base t ty e i z 1 bytes ht hi hz hsize hby hzs (by omega) v n xs hown a m c news (by omega) hcs h1 h63 hbytes hbase
    exact ⟨v', w', h, h2, h3, h5⟩

theorem wpList_app {P : Program} (w : World) {ops : Array Oper} {rest : List Oper} {o : Oper} {a : Act} {Q : Exit → Act → World → Prop} (hgd : o.guard = none) (s x : Operand) (t : TypeId)
    (ho : o.op = .call { callee := .builtin .append, args := #[s, x], argTypes := #[t, t] })
    (base : Nat) (e : TypeId) (i : TypeInfo) (z : Value) (bytes : Nat) (ht : P.underlying t = some (.slice e)) (hi : P.info? e = some i) (hz : i.zero = some z)
    (hsize : i.size = 1) (hby : i.bytes = bytes) (hzs : z.cells.size = 1) (v : Value) (n : Nat) (xs : List Value) (hs : a.eval s = v) (hown : w.ownsRow base e 1 v n xs)
    (B : Nat) (A : Option Addr) (m c : Nat) (news : List Value) (hx : a.eval x = .slice A m c) (hl : news.length = m) (hr : Seq w B A news) (h1 : ∀ u ∈ news, u.oneCell' = true)
    (h63 : n + m ≤ maxLen) (hbytes : (n + m) * bytes ≤ 140737488355328) (hbase : base ≤ w.heap.size)
    (h : ∀ v' w', w'.ownsRow base e 1 v' (n + m) (xs ++ news) → w.grownBy w' v.ownBlock → (v'.ownBlock = v.ownBlock ∨ v'.ownBlock = some w.heap.size) → wpList P ops Q rest (a.put o.dst v') w') : wpList P ops Q (o :: rest) a w := by
  refine wpList_plain hgd fun K hK => ?_
  obtain ⟨v', w', hrun, h2, h3, h4⟩ := run_app (P := P) w base t o.type e i z bytes ht hi hz hsize hby hzs v n xs hown B A m c news hl hr h1 h63 hbytes hbase
  unfold Oper.wp execOp
  simp only [ho, resolve, invoke, builtin, Sem.run_bind, Sem.run_pure, Result.andThen_ok, List.map_toArray, List.map_cons, List.map_nil, hs, hx, hrun]
  exact hK _ _ (h v' w' h2 h3 h4)
theorem owns_base {w : World} {base base' : Nat} {e : TypeId} {size : Nat} {v : Value} {n : Nat} {xs : List Value} (h : w.ownsRow base e size v n xs) (hb : base' ≤ base) : w.ownsRow base' e size v n xs := by
  refine ⟨h.1, ?_⟩
  rcases h.2 with h2 | ⟨g, cap, cur, hv, hg, r⟩
  · exact .inl h2
  · exact .inr ⟨g, cap, cur, hv, Nat.le_trans hb hg, r⟩
theorem owns_slice {w : World} {base : Nat} {e : TypeId} {v : Value} {n : Nat} {xs : List Value} (h : w.ownsRow base e 1 v n xs) : ∃ A c, v = .slice A n c := by
  rcases h.2 with ⟨rfl, rfl⟩ | ⟨g, cap, cur, rfl, _⟩
  · exact ⟨_, _, rfl⟩
  · exact ⟨_, _, rfl⟩

/-- A literal of numbers, in a block of its own. -/
theorem lit_seq (w : World) (t : TypeId) (k : IntKind) (zs : List Int) : Seq (w.alloc (.cells (ints k zs).toArray t)) (w.heap.size + 1) (some ⟨w.heap.size, 0, none⟩) (ints k zs) := by
  have h := (Blk.new w t (ints k zs)).seq 0 (ints k zs).length
  simpa using h
theorem lit_row (w : World) (t : TypeId) (k : IntKind) (zs : List Int) (cs : Array Value) (b B : Nat) (h : cs = (ints k zs).toArray) (hb : b = w.heap.size) (hB : w.heap.size < B) : Seq (w.alloc (.cells cs t)) B (some ⟨b, 0, none⟩) (ints k zs) := by
  subst h; subst hb; exact (lit_seq w t k zs).more hB
/-- string(b): the bytes. -/
theorem run_str {P : Program} (w : World) (src dst e : TypeId) (hs : P.underlying src = some (.slice e)) (he : P.underlying e = some (.int .u8)) (hd : P.underlying dst = some .string) {B : Nat} {A : Option Addr} {n c : Nat} {zs : List Int}
    (h : Seq w B A (ints .u8 zs)) (hl : zs.length = n) : (convert src dst (.slice A n c)).run P w = .ok (.string (strOfNums zs)) w := by
  cases A with
  | none =>
    have hz : zs = [] := by
      cases zs with
      | nil => rfl
      | cons x r => obtain ⟨_, _, e, _⟩ := h 0 _ rfl; cases e
    subst hz
    have : n = 0 := by simpa using hl.symm
    subst this
    exact run_convert_bytes_nil w src e hs he 0 c dst hd
  | some a =>
    rcases Nat.eq_zero_or_pos n with h0 | h0
    · subst h0
      have hz : zs = [] := List.eq_nil_of_length_eq_zero hl
      subst hz
      obtain ⟨b, o, s⟩ := a
      have hr : (loadCells ⟨b, o, s⟩ 0).run P w = .ok (([] : List Int).map (Value.int .u8)).toArray w := run_loadCells_list (P := P) w ⟨b, o, s⟩ [] (fun j v hj => by simp at hj)
      rw [run_convert_bytes_string w src dst e _ 0 c hs he hd, run_bytesToString w _ 0 c [] hr]
      rfl
    · obtain ⟨b, o, e', _, hc⟩ := h.at_ (by rw [ints_length]; omega)
      rw [e']
      exact run_convert_bytes_arg w src e hs he b o n c zs hl (fun i hi => by
        have := hc i _ (ints_getD .u8 zs i (by omega))
        exact this) dst hd

end Go.Proofs.Ytibegaoegpanpaa

namespace Go.Proofs.Ytibegaoegpanpaa
open Go.RowKit

/-- append([]T{}, x...): a copy of its own. -/
theorem wpList_dup {P : Program} (w : World) {ops : Array Oper} {rest : List Oper} {o : Oper} {a : Act} {Q : Exit → Act → World → Prop} (hgd : o.guard = none) (s x : Operand) (t : TypeId)
    (ho : o.op = .call { callee := .builtin .append, args := #[s, x], argTypes := #[t, t] })
    (e : TypeId) (i : TypeInfo) (z : Value) (bytes : Nat) (ht : P.underlying t = some (.slice e)) (hi : P.info? e = some i) (hz : i.zero = some z)
    (hsize : i.size = 1) (hby : i.bytes = bytes) (hzs : z.cells.size = 1) (hs : a.eval s = .slice (some ⟨w.heap.size, 0, none⟩) 0 0)
    (A : Option Addr) (m c : Nat) (news : List Value) (hx : a.eval x = .slice A m c) (hl : news.length = m) (hr : Seq w w.heap.size A news) (h1 : ∀ u ∈ news, u.oneCell' = true)
    (h63 : m ≤ maxLen) (hbytes : m * bytes ≤ 140737488355328)
    (h : ∀ A' c' w', w'.ownsRow w.heap.size e 1 (.slice A' m c') m news → Below w.heap.size w w' → wpList P ops Q rest (a.put o.dst (.slice A' m c')) w') : wpList P ops Q (o :: rest) a (w.alloc (.cells #[] e)) := by
  have hlit : (w.alloc (.cells #[] e)).ownsRow w.heap.size e 1 (.slice (some ⟨w.heap.size, 0, none⟩) 0 0) 0 [] := World.ownsRow_lit w #[] 0 (Nat.le_refl _) (by decide) rfl
  refine wpList_app _ hgd s x t ho w.heap.size e i z bytes ht hi hz hsize hby hzs _ 0 [] hs hlit w.heap.size A m c news hx hl (hr.alloc (Nat.le_refl _) _) h1 (by omega) (by rw [Nat.zero_add]; exact hbytes) (by simp) ?_
  intro v' w' hown hg _
  rw [Nat.zero_add, List.nil_append] at hown
  obtain ⟨A', c', rfl⟩ := owns_slice hown
  exact h A' c' w' hown (((Below.refl _ _).alloc (Nat.le_refl _) _).grown hg (by simp) (fun g e => by have e : some w.heap.size = some g := e; injection e with e; omega))

/-- One cell of a row of the call's own: it is there, and may be written. -/
theorem owns_at {w : World} {base : Nat} {e : TypeId} {A : Option Addr} {n c k : Nat} {xs : List Value} (h : w.ownsRow base e 1 (.slice A n c) n xs) (hk : k < n) :
    ∃ g v, A = some ⟨g, 0, none⟩ ∧ base ≤ g ∧ w.cell? ⟨g, k, none⟩ = some v ∧ w.frozen? ⟨g, k, none⟩ = false ∧ ∀ u, (w.setCell ⟨g, k, none⟩ u).ownsRow base e 1 (.slice A n c) n (xs.set k u) := by
  have hl := h.1
  rcases h.2 with ⟨_, h0⟩ | ⟨g, cap, cur, hv, hb, _⟩
  · omega
  · cases hv
    have hkl : k < xs.length := by omega
    exact ⟨g, xs[k], rfl, hb, by rw [h.cellAt k (by omega), List.getElem?_eq_getElem hkl], h.frozenAt k, fun u => (h.stored k u).1⟩

/-- One number of a row of the call's own. -/
theorem owns_int_at {w : World} {base : Nat} {e : TypeId} {A : Option Addr} {n c j : Nat} {k : IntKind} {zs : List Int} (h : w.ownsRow base e 1 (.slice A n c) n (ints k zs)) (hj : j < n) :
    ∃ g, A = some ⟨g, 0, none⟩ ∧ base ≤ g ∧ w.cell? ⟨g, j, none⟩ = some (.int k (zs.getD j 0)) ∧ w.frozen? ⟨g, j, none⟩ = false ∧ ∀ x, (w.setCell ⟨g, j, none⟩ (.int k x)).ownsRow base e 1 (.slice A n c) n (ints k (zs.set j x)) := by
  have hl := h.1
  rw [ints_length] at hl
  obtain ⟨g, v, rfl, hb, hc, hf, hset⟩ := owns_at h hj
  refine ⟨g, rfl, hb, ?_, hf, fun x => ?_⟩
  · have := h.cellAt j (by omega)
    rw [this, ints_getD k zs j (by omega)]
  · have := hset (.int k x)
    rwa [show (ints k zs).set j (.int k x) = ints k (zs.set j x) from by simp [ints, List.map_set]] at this

/-- A row of the call's own stays where another one is laid. -/
theorem _root_.Go.World.ownsRow.allocated {w : World} {base : Nat} {e : TypeId} {size : Nat} {v : Value} {n : Nat} {xs : List Value} (h : w.ownsRow base e size v n xs) (o : Obj) : (w.alloc o).ownsRow base e size v n xs :=
  owns_below h ((Below.refl _ _).alloc (Nat.le_refl _) o)

end Go.Proofs.Ytibegaoegpanpaa

namespace Go.Proofs.Ytibegaoegpanpaa
open Go.RowKit Go.OpenShut
set_option linter.unusedVariables false

/-- One row of numbers that came in, or is the call's own: what the contracts ask of it. -/
structure Arg (w : World) (k : IntKind) (A : Option Addr) (n c : Nat) (zs : List Int) : Prop where
  seq : Seq w w.heap.size A (ints k zs)
  len : zs.length = n
  cap : n ≤ c
  max : c ≤ maxLen
theorem Arg.below {w w' : World} {k : IntKind} {A : Option Addr} {n c : Nat} {zs : List Int} (h : Arg w k A n c zs) (hb : Below w.heap.size w w') : Arg w' k A n c zs :=
  ⟨(h.seq.below hb).more hb.size, h.len, h.cap, h.max⟩
theorem Arg.nil (w : World) (k : IntKind) : Arg w k none 0 0 [] := ⟨Seq.empty, rfl, Nat.le_refl _, by decide⟩
theorem Arg.own {w : World} {k : IntKind} {base : Nat} {t : TypeId} {A : Option Addr} {n c : Nat} {zs : List Int} (h : w.ownsRow base t 1 (.slice A n c) n (ints k zs)) : Arg w k A n c zs := by
  refine ⟨Seq.own h, by have := h.1; rw [ints_length] at this; omega, ?_, ?_⟩
  · rcases h.2 with ⟨e, rfl⟩ | ⟨g, cap, cur, e, _, _, h1, h2, _⟩ <;> cases e
    · exact Nat.le_refl _
    · exact h1
  · rcases h.2 with ⟨e, rfl⟩ | ⟨g, cap, cur, e, _, _, h1, h2, _⟩ <;> cases e
    · decide
    · exact h2
theorem IsRow.arg {k : IntKind} {w : World} {a : Option Addr} {len cap : Nat} {zs : List Int} (h : IsRow k w a len cap zs) : ∃ l : List Int, Arg w k a len cap l ∧ ∀ z ∈ l, (Lit.int k z).wf = true := by
  obtain ⟨l, h1, h2, h3, h4, h5⟩ := h.read
  exact ⟨l, ⟨h4, h1, h2, h3⟩, h5⟩
theorem wf_byte {z : Int} (h : (Lit.int .u8 z).wf = true) : isByte z := by
  have := bounds_u8 h
  exact ⟨this.1, by omega⟩
theorem wf_word {z : Int} (h : (Lit.int .u64 z).wf = true) : isWord z := by
  have := bounds_u64 h
  exact ⟨this.1, by omega⟩
theorem wf_u32 {z : Int} (h : (Lit.int .u32 z).wf = true) : ∃ s : Nat, z = s ∧ s < 4294967296 := by
  have := bounds_u32 h
  exact ⟨z.toNat, by omega, by omega⟩
theorem byte_info : (Try.prog.info? 5).map (fun i => (i.zero, i.size, i.bytes)) = some (some (.int .u8 0), 1, 1) := by kernel_rfl
theorem byte_size : (Try.prog.info? 5).map (·.size) = some 1 := by kernel_rfl

end Go.Proofs.Ytibegaoegpanpaa
