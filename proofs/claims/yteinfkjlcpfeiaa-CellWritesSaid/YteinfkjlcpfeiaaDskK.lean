/- Layer 5, package disk: a store of many lists of bytes in one piece of memory. -/
import Derived.Test.YteinfkjlcpfeiaaDskP4
import Derived.Test.YteinfkjlcpfeiaaTxt
namespace Go.Proofs.Yteinfkjlcpfeiaa
open Go.RowKit
set_option linter.unusedVariables false

theorem run_append_types {P : Program} {t t' e : TypeId} (ht : P.underlying t = some (.slice e)) (ht' : P.underlying t' = some (.slice e)) (ty : TypeId) (A : Option Addr) (n c : Nat) (A' : Option Addr) (n' c' : Nat) (w : World) :
    (Builtin.append_ #[t, t'] ty #[.slice A n c, .slice A' n' c']).run P w = (Builtin.append_ #[t', t'] ty #[.slice A n c, .slice A' n' c']).run P w := by
  simp [Builtin.append_, run_underlying ht, run_underlying ht']

/-- append, where what it answers is known. -/
theorem wpList_app_eq {P : Program} {w w' : World} {ops : Array Oper} {rest : List Oper} {o : Oper} {a : Act} {Q : Exit → Act → World → Prop} (hgd : o.guard = none) (s x : Operand) (t t' : TypeId)
    (ho : o.op = .call { callee := .builtin .append, args := #[s, x], argTypes := #[t, t'] }) {v u v' : Value} (hs : a.eval s = v) (hx : a.eval x = u)
    (hrun : (Builtin.append_ #[t, t'] o.type #[v, u]).run P w = .ok v' w') (h : wpList P ops Q rest (a.put o.dst v') w') : wpList P ops Q (o :: rest) a w := by
  refine wpList_plain hgd fun K hK => ?_
  unfold Oper.wp execOp
  simp only [ho, resolve, invoke, builtin, Sem.run_bind, Sem.run_pure, Result.andThen_ok, List.map_toArray, List.map_cons, List.map_nil, hs, hx, hrun]
  exact hK _ _ h

/-- append(store, b...): what it answers. -/
theorem run_store {base : Nat} (w : World) (ty : TypeId) (M m cm : Nat) (mem : List Int) (hown : w.ownsRow base 5 1 (.slice (some ⟨M, 0, none⟩) m cm) m (ints .u8 mem)) (A : Option Addr) (k c : Nat) (b : List Int) (hb : Arg w .u8 A k c b) (hk : 0 < k) (h63 : m + k ≤ 100000) (hbase : base ≤ w.heap.size) :
    ∃ M' cm' w', (Builtin.append_ #[98, 31] ty #[.slice (some ⟨M, 0, none⟩) m cm, .slice A k c]).run Try.prog w = .ok (.slice (some ⟨M', 0, none⟩) (m + k) cm') w' ∧ w'.ownsRow base 5 1 (.slice (some ⟨M', 0, none⟩) (m + k) cm') (m + k) (ints .u8 (mem ++ b)) ∧
      w.grownBy w' (some M) ∧ (M' = M ∨ (M' = w.heap.size ∧ w.grownBy w' none)) := by
  obtain ⟨i, hi, hz, hsize, hby⟩ := info_parts byte_info
  have hml : (100000 : Nat) ≤ maxLen := by decide
  rw [run_append_types Try.underlying98 Try.underlying31]
  obtain ⟨bA, oA, rfl, _, hc⟩ := hb.seq.at_ (by rw [ints_length, hb.len]; exact hk)
  have hnews : ∀ j u, (ints .u8 b)[j]? = some u → w.cell? ((⟨bA, oA, none⟩ : Addr).add j) = some u := fun j u hu => by
    have e2 : (⟨bA, oA, none⟩ : Addr).add j = ⟨bA, oA + j, none⟩ := by unfold Addr.add; split <;> simp_all
    rw [e2]; exact hc j u hu
  have hl : (ints .u8 b).length = k * i.size := by rw [hsize, ints_length, hb.len]; omega
  have hlen : (ints .u8 (mem ++ b)).length = (m + k) * 1 := by rw [ints_length, List.length_append, hb.len]; have := hown.1; rw [ints_length] at this; omega
  have hml' : (ints .u8 mem).length = m := by have := hown.1; omega
  rcases hown.2 with ⟨e, _⟩ | ⟨g, cap, cur, e, hbg, hg, hnc, hcm, hcs, htake⟩
  · cases e
  · cases e
    by_cases hroom : m + k ≤ cm
    · have hfit : m * i.size + (ints .u8 b).length ≤ cur.size := by rw [hl, hsize]; omega
      have hr := run_append_room (P := Try.prog) w 31 ty 5 i Try.underlying31 hi M m cm cur hg ⟨bA, oA, none⟩ k c (ints .u8 b) hl hnews (ints_one _ _) hroom hfit
      refine ⟨M, cm, _, hr, ⟨hlen, .inr ⟨M, cm, _, rfl, hbg, setRow_heap w M cur _ _ _ hg, hroom, hcm, ?_, ?_⟩⟩, ⟨rfl, rfl, rfl, by simp, fun k' _ hk' => setRow_other w M k' _ (fun e => hk' (by simp [e]))⟩, .inl rfl⟩
      · simp only [List.size_toArray, List.length_append, List.length_take, List.length_drop, Array.length_toList]
        rw [ints_length, hb.len, hsize]
        omega
      · rw [hsize, htake, ← hlen, ints_app]
        exact List.take_left
    · have holds : ∀ j u, (ints .u8 mem)[j]? = some u → w.cell? ((⟨M, 0, none⟩ : Addr).add j) = some u := hown.cells (g := M) rfl
      have hr := run_append_grow (P := Try.prog) w 31 ty 5 i _ Try.underlying31 hi hz ⟨M, 0, none⟩ m cm (ints .u8 mem) (by rw [hsize, hml']; omega) holds ⟨bA, oA, none⟩ k c (ints .u8 b) hl hnews (by omega) (by omega) (growslice_fits (by omega) (by rw [hby]; omega))
      have hge := grownCap_ge w (m + k) cm 5
      have hgm : grownCap w (m + k) cm 5 ≤ maxLen := grownCap_le_maxLen w (m + k) cm 5 (by omega)
      refine ⟨w.heap.size, _, _, hr, ⟨hlen, .inr ⟨w.heap.size, _, _, rfl, hbase, heap_alloc_new w.drew _, hge, hgm, ?_, ?_⟩⟩, ⟨rfl, rfl, rfl, by simp, fun k hk _ => heap_alloc_old w.drew _ hk⟩, .inr ⟨rfl, ⟨rfl, rfl, rfl, by simp, fun k hk _ => heap_alloc_old w.drew _ hk⟩⟩⟩
      · simp only [Array.size_append, List.size_toArray, size_zeroCells]
        rw [hml', ints_length, hb.len]
        simp [Value.cells]
        omega
      · simp only [Array.toList_append, List.append_assoc]
        rw [← List.append_assoc, ← hlen, ints_app]
        exact List.take_left

/-- A text that lies in what a store has given away. -/
def TxtIn (w : World) (base M m : Nat) (A : Option Addr) (n c : Nat) (zs : List Int) : Prop :=
  OwnTxt w base A n c zs ∧ ∀ g o, A = some ⟨g, o, none⟩ → 0 < n → g = M → o + n ≤ m
theorem TxtIn.stay {w w' : World} {base M m cm M' cm' k : Nat} {mem b : List Int} {A : Option Addr} {n c : Nat} {zs : List Int} (h : TxtIn w base M m A n c zs) (hown : w.ownsRow base 5 1 (.slice (some ⟨M, 0, none⟩) m cm) m (ints .u8 mem))
    (hown' : w'.ownsRow base 5 1 (.slice (some ⟨M', 0, none⟩) (m + k) cm') (m + k) (ints .u8 (mem ++ b))) (hg : w.grownBy w' (some M)) (hM : M' = M ∨ (M' = w.heap.size ∧ w.grownBy w' none)) : TxtIn w' base M' (m + k) A n c zs := by
  obtain ⟨ht, hin⟩ := h
  rcases Nat.eq_zero_or_pos n with h0 | hn
  · obtain ⟨h1, h2, h3, _⟩ := ht
    exact ⟨⟨h1, h2, h3, .inl h0⟩, fun g o _ hn => by omega⟩
  · rcases hM with rfl | ⟨rfl, hg2⟩
    · refine ⟨?_, fun g o e hn he => by have := hin g o e hn he; omega⟩
      obtain ⟨h1, h2, h3, h0 | ⟨g, o, cs, rfl, hb, hgc, hc⟩⟩ := ht
      · omega
      · refine ⟨h1, h2, h3, .inr ?_⟩
        by_cases e : g = M'
        · subst e
          have hon := hin g o rfl hn rfl
          rcases hown.2 with ⟨e, _⟩ | ⟨g1, cap1, cur1, e, _, hg1, _, _, _, ht1⟩ <;> cases e
          rcases hown'.2 with ⟨e, _⟩ | ⟨g2, cap2, cur2, e, _, hg2, _, _, _, ht2⟩ <;> cases e
          rw [hgc] at hg1
          simp at hg1
          subst hg1
          refine ⟨g, o, cur2, rfl, hb, hg2, fun j hj => ?_⟩
          have hml : (ints .u8 mem).length = m := by have := hown.1; omega
          have e1 : (ints .u8 mem)[o + j]? = some (.int .u8 (zs.getD j 0)) := by
            rw [← ht1, List.getElem?_take, if_pos (by omega)]
            simpa using hc j hj
          have e2 : (ints .u8 (mem ++ b))[o + j]? = some (.int .u8 (zs.getD j 0)) := by
            rw [ints_app, List.getElem?_append_left (by omega)]
            exact e1
          rw [← ht2, List.getElem?_take, if_pos (by omega)] at e2
          simpa using e2
        · exact ⟨g, o, cs, rfl, hb, (hg.block g (Array.getElem?_eq_some_iff.1 hgc).1 (fun e2 => e (by injection e2))).trans hgc, hc⟩
    · have hlt : ∀ g o, A = some ⟨g, o, none⟩ → g < w.heap.size := fun g o e => by
        obtain ⟨g', o', e', _, hu, _⟩ := ht.at_ hn
        rw [e] at e'
        cases e'
        exact hu.lt
      exact ⟨ht.below (below_of_grown hg2), fun g o e _ he => absurd (hlt g o e) (by omega)⟩
theorem TxtIn.below {w w' : World} {base M m : Nat} {A : Option Addr} {n c : Nat} {zs : List Int} (h : TxtIn w base M m A n c zs) (hb : Below w.heap.size w w') : TxtIn w' base M m A n c zs := ⟨h.1.below hb, h.2⟩
theorem TxtIn.keep {w w' : World} {base M m : Nat} {A : Option Addr} {n c : Nat} {zs : List Int} (h : TxtIn w base M m A n c zs) (hk : ∀ g, base ≤ g → U8 w g → w'.heap[g]? = w.heap[g]?) : TxtIn w' base M m A n c zs := ⟨h.1.keep hk, h.2⟩

/-- What a call of keep leaves. -/
structure Kept (w : World) (base Bm M m : Nat) (mem : List Int) (k : Nat) (b : List Int) (A2 : Option Addr) (M' cm' : Nat) (w' : World) : Prop where
  box : Blk w' Bm 98 [.slice (some ⟨M', 0, none⟩) (m + k) cm']
  own : w'.ownsRow base 5 1 (.slice (some ⟨M', 0, none⟩) (m + k) cm') (m + k) (ints .u8 (mem ++ b))
  txt : TxtIn w' base M' (m + k) A2 k k b
  stay : ∀ A n c zs, TxtIn w base M m A n c zs → TxtIn w' base M' (m + k) A n c zs
  below : Below base w w'
  same : ∀ g, g < w.heap.size → g ≠ Bm → g ≠ M → w'.heap[g]? = w.heap[g]?

set_option maxRecDepth 100000 in
set_option maxHeartbeats 1600000 in
theorem keep_any (base Bm M m cm : Nat) (mem : List Int) (A : Option Addr) (k c : Nat) (b : List Int) (w : World) (hx : Blk w Bm 98 [.slice (some ⟨M, 0, none⟩) m cm]) (hown : w.ownsRow base 5 1 (.slice (some ⟨M, 0, none⟩) m cm) m (ints .u8 mem)) (hb : Arg w .u8 A k c b)
    (hB : base ≤ Bm) (h63 : m + k ≤ 100000) :
    Calls Try.prog 67 #[.pointer (some ⟨Bm, 0, none⟩), .slice A k c] w fun e w' => ∃ A2 M' cm', e = .returned (.slice A2 k k) ∧ Kept w base Bm M m mem k b A2 M' cm' w' := by
  have q0 := hx.cell 0
  have f0 := hx.free 0
  simp only [List.getElem?_cons_zero] at q0
  have hbase : base ≤ w.heap.size := Nat.le_trans hB (Nat.le_of_lt hx.lt)
  rcases Nat.eq_zero_or_pos k with h0 | hk
  · subst h0
    have hb0 : b = [] := List.eq_nil_of_length_eq_zero hb.len
    subst hb0
    have RES : Kept w base Bm M m mem 0 [] none M cm w :=
      ⟨hx, by rw [List.append_nil]; exact hown, ⟨OwnTxt.nil _ _, fun g o e _ _ => by cases e⟩, fun A n c zs h => h, Below.refl _ _, fun _ _ _ _ => rfl⟩
    have RES := Lib.hid RES
    clear hx hown hb q0 f0
    go_enter Try.func67, Try.ntmps67
    go_wp2
    go_ret
    exact ⟨none, M, cm, rfl, RES.out⟩
  · obtain ⟨M', cm', w1, hrun, hown1, hg, hM⟩ := run_store w 98 M m cm mem hown A k c b hb hk h63 hbase
    have hMB : M ≠ Bm := fun e => by
      subst e
      exact u8_blk (by decide) (U8.of_owns hown) hx
    have hx1 : Blk w1 Bm 98 [.slice (some ⟨M, 0, none⟩) m cm] := hx.grown hg (by simp; omega)
    have q1 := hx1.cell 0
    have f1 := hx1.free 0
    simp only [List.getElem?_cons_zero] at q1
    obtain ⟨w2, hw2⟩ : ∃ w2, w2 = w1.setCell ⟨Bm, 0, none⟩ (.slice (some ⟨M', 0, none⟩) (m + k) cm') := ⟨_, rfl⟩
    have hx2 : Blk w2 Bm 98 [.slice (some ⟨M', 0, none⟩) (m + k) cm'] := by rw [hw2]; exact hx1.set 0 _
    have q2 := hx2.cell 0
    simp only [List.getElem?_cons_zero] at q2
    have hsame : ∀ g, g ≠ Bm → w2.heap[g]? = w1.heap[g]? := fun g hne => by rw [hw2]; exact Below.heap_setCell w1 _ _ g hne
    have hu8 : ∀ g, U8 w1 g → w2.heap[g]? = w1.heap[g]? := fun g hu => hsame g (fun e => by subst e; exact u8_blk (by decide) hu hx1)
    have hown2 : w2.ownsRow base 5 1 (.slice (some ⟨M', 0, none⟩) (m + k) cm') (m + k) (ints .u8 (mem ++ b)) := owns_keep hown1 fun g cs _ hc => hu8 g ⟨cs, hc⟩
    have hcm := (Arg.own hown2).max
    have hcc := (Arg.own hown2).cap
    have RES : Kept w base Bm M m mem k b (some ⟨M', m, none⟩) M' cm' w2 := by
      refine ⟨hx2, hown2, ⟨?_, fun g o e _ _ => by cases e; exact Nat.le_refl _⟩, fun A n c zs h => (h.stay hown hown1 hg hM).keep fun g _ hu => hu8 g hu, ?_, fun g hlt h1 h2 => (hsame g h1).trans (hg.block g hlt (fun e => h2 (by injection e)))⟩
      · refine ⟨hb.len, Nat.le_refl _, Nat.le_trans hb.cap hb.max, .inr ?_⟩
        rcases hown2.2 with ⟨e, _⟩ | ⟨g1, cap1, cur1, e, hb1, hg1, _, _, _, ht1⟩ <;> cases e
        refine ⟨M', m, cur1, rfl, hb1, hg1, fun j hj => ?_⟩
        have hml : (ints .u8 mem).length = m := by have := hown.1; omega
        have e2 : (ints .u8 (mem ++ b))[m + j]? = some (.int .u8 (b.getD j 0)) := by
          rw [ints_app, List.getElem?_append_right (by omega), hml, show m + j - m = j by omega]
          exact ints_getD .u8 b j (by rw [hb.len]; exact hj)
        rw [← ht1, List.getElem?_take, if_pos (by omega)] at e2
        simpa using e2
      · rw [hw2]
        exact (((Below.refl base w).grown hg hbase (fun g e => by cases e; exact (hown.lt M rfl).1)).setCell (p := ⟨Bm, 0, none⟩) hB _)
    have RES := Lib.hid RES
    have hml : (100000 : Nat) ≤ maxLen := by decide
    unfold maxLen at hcm
    have hk0 : ((k : Int) == 0) = false := beq_eq_false_iff_ne.2 (by omega)
    have hk1 : ¬ (k : Int) = 0 := by omega
    have hk2 : ¬ k = 0 := by omega
    clear hx hown hb hg hM hown1 hown2 hx1 hx2 hsame hu8
    go_enter Try.func67, Try.ntmps67
    have HRUN := Lib.hid hrun
    clear hrun
    go_wp2_with (at_builtin; refine wpList_app_eq rfl (.tmp 17) (.tmp 18) 98 31 rfl rfl rfl HRUN.out ?_)
    rw [show m + k - m = k by omega, ← hw2]
    go_ret
    exact ⟨_, M', cm', rfl, RES.out⟩

end Go.Proofs.Yteinfkjlcpfeiaa
