/- Rows of texts of the call's own, each anywhere in a block of bytes of the call's own: append, read, written over; and the document's SameAll. No statement is proved here. -/
import Derived.Test.YteapaoefgcnicaaCellRj
import Derived.BigQuiet
namespace Go.Proofs.Yteapaoefgcnicaa
open Go.RowKit Go.OpenShut Go.ChangeShapes Go.WideShapes Go.Deep
set_option linter.unusedVariables false

/-- Texts of the call's own, each anywhere in a block of bytes of the call's own. -/
def OwnTxs (w : World) (base : Nat) (A : Option Addr) (n c : Nat) (zss : List Txt) : Prop :=
  ∃ vs : List Value, w.ownsRow base 36 1 (.slice A n c) n vs ∧ zss.length = n ∧ (∀ zs ∈ zss, ∀ z ∈ zs, isByte z) ∧
    ∀ i, i < n → ∃ Ai ni ci, vs[i]? = some (.slice Ai ni ci) ∧ OwnTxt w base Ai ni ci (zss.getD i [])
theorem OwnTxs.of {w : World} {base : Nat} {A : Option Addr} {n c : Nat} {zss : List Txt} (h : OwnTexts w base A n c zss) : OwnTxs w base A n c zss := by
  obtain ⟨vs, hown, hl, hby, hin⟩ := h
  refine ⟨vs, hown, hl, hby, fun i hi => ?_⟩
  obtain ⟨Ai, ni, ci, h1, h2⟩ := hin i hi
  exact ⟨Ai, ni, ci, h1, OwnTxt.of h2⟩
theorem OwnTxs.row {w : World} {base : Nat} {A : Option Addr} {n c : Nat} {zss : List Txt} (h : OwnTxs w base A n c zss) {i : Nat} (hi : i < n) :
    ∃ g Ai ni ci, A = some ⟨g, 0, none⟩ ∧ w.cell? ⟨g, i, none⟩ = some (.slice Ai ni ci) ∧ OwnTxt w base Ai ni ci (zss.getD i []) ∧ (zss.getD i []).length = ni ∧ ni ≤ maxLen ∧ ∀ z ∈ zss.getD i [], isByte z := by
  obtain ⟨vs, hown, hl, hby, hin⟩ := h
  obtain ⟨Ai, ni, ci, hv, ho⟩ := hin i hi
  obtain ⟨g, v, e, hbg, hc, hf, hset⟩ := owns_at hown hi
  obtain ⟨b, e', hlt, hcc⟩ := owns_cell hown hv
  rw [e] at e'
  cases e'
  subst e
  refine ⟨g, Ai, ni, ci, rfl, hcc, ho, ho.1, Nat.le_trans ho.2.1 ho.2.2.1, ?_⟩
  rw [List.getD_eq_getElem?_getD, List.getElem?_eq_getElem (by omega)]
  exact hby _ (List.getElem_mem _)
/-- A byte of a block of bytes is written over: the texts stay, as long as they were. -/
theorem OwnTxs.touch {w : World} {base g : Nat} {A : Option Addr} {n c : Nat} {zss : List Txt} (h : OwnTxs w base A n c zss) (hu : U8 w g) (k : Nat) {z : Int} (hz : isByte z) :
    ∃ zss', OwnTxs (w.setCell ⟨g, k, none⟩ (.int .u8 z)) base A n c zss' ∧ ∀ j, (zss'.getD j []).length = (zss.getD j []).length := by
  obtain ⟨vs, hown, hl, hby, hin⟩ := h
  obtain ⟨f, hf⟩ : ∃ f : Nat → Txt → Txt, f = fun j zs => match vs.getD j undef with | .slice Aj _ _ => touchL Aj g k z zs | _ => zs := ⟨_, rfl⟩
  have hfl : ∀ j zs, (f j zs).length = zs.length := fun j zs => by
    rw [hf]
    dsimp only
    split
    · exact touchL_len ..
    · rfl
  have hfb : ∀ j zs, (∀ y ∈ zs, isByte y) → ∀ y ∈ f j zs, isByte y := fun j zs hb => by
    rw [hf]
    dsimp only
    split
    · exact touchL_byte _ g k hz hb
    · exact hb
  have e1 : ∀ j, j < n → ((List.range n).map fun j => f j (zss.getD j [])).getD j [] = f j (zss.getD j []) := fun j hj => by
    simp [List.getD_eq_getElem?_getD, hj]
  refine ⟨(List.range n).map fun j => f j (zss.getD j []), ⟨vs, ?_, by simp, ?_, fun j hj => ?_⟩, fun j => ?_⟩
  · refine owns_keep hown fun g' cs _ hc => Below.heap_setCell w _ _ g' (fun e => ?_)
    subst e
    obtain ⟨cs', hc'⟩ := hu
    rw [hc] at hc'
    simp at hc'
  · intro s hs y hy
    obtain ⟨j, hj, rfl⟩ := List.mem_map.1 hs
    have hjn := List.mem_range.1 hj
    exact hfb j _ (fun y hy => hby (zss.getD j []) (by
      rw [List.getD_eq_getElem?_getD, List.getElem?_eq_getElem (by omega)]
      exact List.getElem_mem _) y hy) y hy
  · obtain ⟨Aj, nj, cj, hvj, hoj⟩ := hin j hj
    have e2 : vs.getD j undef = .slice Aj nj cj := by rw [List.getD_eq_getElem?_getD, hvj]; rfl
    have e3 : f j (zss.getD j []) = touchL Aj g k z (zss.getD j []) := by rw [hf]; dsimp only; rw [e2]
    rw [e1 j hj, e3]
    exact ⟨Aj, nj, cj, hvj, hoj.touch z⟩
  · rcases Nat.lt_or_ge j n with hj | hj
    · rw [e1 j hj]
      exact hfl j _
    · have e4 : ((List.range n).map fun j => f j (zss.getD j [])).getD j [] = [] := by
        simp [List.getD_eq_getElem?_getD, hj]
      have e5 : zss.getD j [] = [] := by simp [List.getD_eq_getElem?_getD, hl, hj]
      rw [e4, e5]

theorem OwnTxs.nil (w : World) (base : Nat) : OwnTxs w base none 0 0 [] := ⟨[], World.ownsRow_nil _ _ _ _, rfl, by simp, fun i hi => absurd hi (Nat.not_lt_zero _)⟩
theorem OwnTxs.below {w w' : World} {base : Nat} {A : Option Addr} {n c : Nat} {zss : List Txt} (h : OwnTxs w base A n c zss) (hb : Below w.heap.size w w') : OwnTxs w' base A n c zss := by
  obtain ⟨vs, h1, h2, h3, h4⟩ := h
  exact ⟨vs, owns_below h1 hb, h2, h3, fun i hi => by obtain ⟨a, b, c, e, o⟩ := h4 i hi; exact ⟨a, b, c, e, o.below hb⟩⟩
theorem OwnTxs.lower {w : World} {base base' : Nat} {A : Option Addr} {n c : Nat} {zss : List Txt} (h : OwnTxs w base A n c zss) (hb : base' ≤ base) : OwnTxs w base' A n c zss := by
  obtain ⟨vs, h1, h2, h3, h4⟩ := h
  exact ⟨vs, owns_base h1 hb, h2, h3, fun i hi => by obtain ⟨a, b, c, e, o⟩ := h4 i hi; exact ⟨a, b, c, e, o.lower hb⟩⟩
theorem OwnTxs.texts {w : World} {base : Nat} {A : Option Addr} {n c : Nat} {zss : List Txt} (h : OwnTxs w base A n c zss) : Texts w A n c zss := by
  obtain ⟨vs, hown, hl, hb, hin⟩ := h
  refine ⟨hl, ?_, ?_, hb, fun i hi => ?_⟩
  · rcases hown.2 with ⟨e, h0⟩ | ⟨g, cap, cur, e, _, _, h1, h2, _⟩ <;> cases e
    · exact Nat.le_refl _
    · exact h1
  · rcases hown.2 with ⟨e, h0⟩ | ⟨g, cap, cur, e, _, _, h1, h2, _⟩ <;> cases e
    · decide
    · exact h2
  · obtain ⟨Ai, ni, ci, hv, ho⟩ := hin i hi
    obtain ⟨b, e, hlt, hcc⟩ := owns_cell hown hv
    exact ⟨b, 0, Ai, ni, ci, e, hlt, by rw [Nat.zero_add]; exact hcc, ho.arg⟩
theorem OwnTxs.snoc {w w' : World} {base : Nat} {A A' Ai : Option Addr} {n c c' ni ci : Nat} {zss : List Txt} {zs : Txt} {vs : List Value} (hown0 : w.ownsRow base 36 1 (.slice A n c) n vs) (hl : zss.length = n) (hby : ∀ zs ∈ zss, ∀ z ∈ zs, isByte z)
    (hin : ∀ i, i < n → ∃ Ai ni ci, vs[i]? = some (.slice Ai ni ci) ∧ OwnTxt w base Ai ni ci (zss.getD i [])) (hz : ∀ z ∈ zs, isByte z)
    (ho : OwnTxt w base Ai ni ci zs) (hg : w.grownBy w' (Value.slice A n c).ownBlock)
    (hown : w'.ownsRow base 36 1 (.slice A' (n + 1) c') (n + 1) (vs ++ [.slice Ai ni ci])) : OwnTxs w' base A' (n + 1) c' (zss ++ [zs]) := by
  have hvl : vs.length = n := by have := hown0.1; omega
  have hkeep : ∀ {A' : Option Addr} {n' c' : Nat} {xs : List Int}, OwnTxt w base A' n' c' xs → OwnTxt w' base A' n' c' xs := fun hx =>
    hx.keep fun g' _ hu => hg.block g' (by obtain ⟨cs, hc⟩ := hu; exact (Array.getElem?_eq_some_iff.1 hc).1) (fun e => u8_row (by decide) hu hown0 e.symm)
  refine ⟨_, hown, by simp [hl], ?_, fun j hj => ?_⟩
  · intro y hy z hzz
    rcases List.mem_append.1 hy with hy | hy
    · exact hby y hy z hzz
    · rw [List.mem_singleton] at hy
      subst hy
      exact hz z hzz
  · by_cases e : j = n
    · subst e
      refine ⟨Ai, ni, ci, by rw [List.getElem?_append_right (by omega)]; simp [hvl], ?_⟩
      have e2 : (zss ++ [zs]).getD j [] = zs := by simp [List.getD_eq_getElem?_getD, hl]
      rw [e2]
      exact hkeep ho
    · obtain ⟨Aj, nj, cj, hv, hoj⟩ := hin j (by omega)
      refine ⟨Aj, nj, cj, by rw [List.getElem?_append_left (by omega)]; exact hv, ?_⟩
      have e2 : (zss ++ [zs]).getD j [] = zss.getD j [] := by simp [List.getD_eq_getElem?_getD, List.getElem?_append_left (show j < zss.length by omega)]
      rw [e2]
      exact hkeep hoj
theorem txts_info : (Try.prog.info? 36).map (fun i => (i.zero, i.size, i.bytes)) = some (some (.slice none 0 0), 1, 24) := by kernel_rfl
/-- append(out, t): what it answers. -/
theorem run_txs {P : Program} (w0 w : World) (t ty : TypeId) (i : TypeInfo) (z : Value) (ht : P.underlying t = some (.slice 36)) (hi : P.info? 36 = some i) (hz : i.zero = some z)
    (hsize : i.size = 1) (hby : i.bytes = 24) (hzs : z.cells.size = 1) (base : Nat) (A0 : Option Addr) (n c0 : Nat) (zss : List Txt) (hown : OwnTxs w base A0 n c0 zss)
    (Ai : Option Addr) (ni ci : Nat) (zs : Txt) (hb : ∀ z ∈ zs, isByte z) (hoi : OwnTxt w base Ai ni ci zs)
    (h63 : n + 1 ≤ maxLen) (hbytes : (n + 1) * 24 ≤ 140737488355328) (hbel : Below base w0 w) (hw0 : base ≤ w0.heap.size) :
    ∃ A' c' w', (Builtin.append_ #[t, t] ty #[.slice A0 n c0, .slice (some ⟨w.heap.size, 0, none⟩) 1 1]).run P (w.alloc (.cells #[.slice Ai ni ci] 36)) = .ok (.slice A' (n + 1) c') w' ∧ OwnTxs w' base A' (n + 1) c' (zss ++ [zs]) ∧ Below base w0 w' := by
  obtain ⟨vs, hv, hl, hby2, hin⟩ := hown
  have hbase : base ≤ w.heap.size := Nat.le_trans hw0 hbel.size
  have hseq : Seq (w.alloc (.cells #[.slice Ai ni ci] 36)) (w.heap.size + 1) (some ⟨w.heap.size, 0, none⟩) [.slice Ai ni ci] := by
    have h := (Blk.new w 36 [.slice Ai ni ci]).seq 0 1
    exact h
  obtain ⟨v', w', hrun, hown', hg, _⟩ := run_app (P := P) (w.alloc (.cells #[.slice Ai ni ci] 36)) base t ty 36 i z 24 ht hi hz hsize hby hzs _ n vs (hv.allocated _) _ _ 1 1 [.slice Ai ni ci] rfl hseq (by simp [Value.oneCell']) h63 hbytes (by simp; omega)
  obtain ⟨A', c', rfl⟩ := owns_slice hown'
  have hfin : OwnTxs w' base A' (n + 1) c' (zss ++ [zs]) := OwnTxs.snoc (hv.allocated _) hl hby2 (fun i hi => by
    obtain ⟨Aj, nj, cj, e, hj⟩ := hin i hi
    exact ⟨Aj, nj, cj, e, hj.allocated _⟩) hb (hoi.allocated _) hg hown'
  exact ⟨A', c', w', hrun, hfin, (hbel.alloc hbase _).grown hg (by simp; omega) (fun g e => (hv.lt g e).1)⟩
/-- append(out, t), guarded or not. -/
theorem wpList_txs {P : Program} (w0 w : World) {ops : Array Oper} {rest : List Oper} {o : Oper} {a : Act} {Q : Exit → Act → World → Prop} (hw : Region.wanted o (yielded ops a.tmps) = true) (s x : Operand) (t : TypeId)
    (ho : o.op = .call { callee := .builtin .append, args := #[s, x], argTypes := #[t, t] }) (i : TypeInfo) (z : Value) (ht : P.underlying t = some (.slice 36)) (hi : P.info? 36 = some i) (hz : i.zero = some z)
    (hsize : i.size = 1) (hby : i.bytes = 24) (hzs : z.cells.size = 1) (base : Nat) (A0 : Option Addr) (n c0 : Nat) (zss : List Txt) (hs : a.eval s = .slice A0 n c0) (hown : OwnTxs w base A0 n c0 zss)
    (Ai : Option Addr) (ni ci : Nat) (zs : Txt) (hb : ∀ z ∈ zs, isByte z) (hoi : OwnTxt w base Ai ni ci zs) (hx : a.eval x = .slice (some ⟨w.heap.size, 0, none⟩) 1 1)
    (h63 : n + 1 ≤ maxLen) (hbytes : (n + 1) * 24 ≤ 140737488355328) (hbel : Below base w0 w) (hw0 : base ≤ w0.heap.size)
    (h : ∀ A' c' w', OwnTxs w' base A' (n + 1) c' (zss ++ [zs]) → Below base w0 w' → wpList P ops Q rest (a.put o.dst (.slice A' (n + 1) c')) w') : wpList P ops Q (o :: rest) a (w.alloc (.cells #[.slice Ai ni ci] 36)) := by
  refine wpList_want hw fun K hK => ?_
  obtain ⟨A', c', w', hrun, h2, h3⟩ := run_txs (P := P) w0 w t o.type i z ht hi hz hsize hby hzs base A0 n c0 zss hown Ai ni ci zs hb hoi h63 hbytes hbel hw0
  unfold Oper.wp execOp
  simp only [ho, resolve, invoke, builtin, Sem.run_bind, Sem.run_pure, Result.andThen_ok, List.map_toArray, List.map_cons, List.map_nil, hs, hx, hrun]
  exact hK _ _ (h A' c' w' h2 h3)

theorem list_same4 {a b : List Txt} {n : Nat} (ha : a.length = n) (hb : b.length = n) (h : ∀ y, y < n → a.getD y [] = b.getD y []) : a = b := by
  refine List.ext_getElem (ha.trans hb.symm) fun i h1 h2 => ?_
  have := h i (by omega)
  simpa [List.getD_eq_getElem?_getD, h1, h2] using this

theorem sam4_len (A : Option Addr) (n c : Nat) (A' : Option Addr) (n' c' : Nat) (w : World) (hne : n ≠ n') :
    Calls Try.prog 18 #[.slice A n c, .slice A' n' c'] w fun e w' => e = .returned (.bool false) ∧ ∃ q, w' = w.drewN q := by
  have h2 : ¬ (n : Int) = (n' : Int) := by omega
  go_enter Try.func18, Try.ntmps18
  go_wp2
  go_ret
  exact ⟨rfl, 0, rfl⟩
set_option maxRecDepth 100000 in
set_option maxHeartbeats 1600000 in
theorem sam4_any (A : Option Addr) (n c : Nat) (a : List Txt) (A' : Option Addr) (n' c' : Nat) (b : List Txt) (w : World) (ha : Texts w A n c a) (hb : Texts w A' n' c' b) :
    Calls Try.prog 18 #[.slice A n c, .slice A' n' c'] w fun e w' => e = .returned (.bool (decide (a = b))) ∧ ∃ q, w' = w.drewN q := by
  by_cases hn : n = n'
  · subst hn
    have HA := Lib.hid ha
    have HB := Lib.hid hb
    have hcm := Nat.le_trans ha.cap ha.max
    unfold maxLen at hcm
    have YES := Lib.hid fun h => (show decide (a = b) = true from decide_eq_true (list_same4 ha.len hb.len h))
    have NO := Lib.hid fun k (h : a.getD k [] ≠ b.getD k []) => (show decide (a = b) = false from decide_eq_false fun e => h (by rw [e]))
    obtain ⟨R, hR⟩ : ∃ R, R = decide (a = b) := ⟨_, rfl⟩
    rw [← hR] at YES NO ⊢
    clear ha hb hR
    go_enter Try.func18, Try.ntmps18
    go_wp2
    go_loopw [5] (fun i wr => ∃ k : Nat, k ≤ n ∧ i = .int .i64 k ∧ (∀ y, y < k → a.getD y [] = b.getD y []) ∧ ∃ q, wr = w.drewN q) (fun i _ => n - (intOf i).toNat)
    case atStart => exact ⟨0, Nat.zero_le _, rfl, fun y hy => by omega, 0, rfl⟩
    case round =>
      obtain ⟨k, hk, rfl, hall, q, rfl⟩ := hrel
      have ALL := Lib.hid hall
      clear hall
      by_cases hkn : k < n
      · obtain ⟨b1, o1, A1, n1, c1, rfl, hlt1, hc1, ha1⟩ := HA.out.at_ k hkn
        obtain ⟨b2, o2, A2, n2, c2, rfl, hlt2, hc2, ha2⟩ := HB.out.at_ k hkn
        have hst1 := fun q => run_str (P := Try.prog) (w.drewN q) 36 9 5 Try.underlying36 Try.underlying5 Try.underlying9 (c := c1) (ha1.seq.keep (w' := w.drewN q) fun _ _ => rfl) ha1.len
        have hst2 := fun q => run_str (P := Try.prog) (w.drewN q) 36 9 5 Try.underlying36 Try.underlying5 Try.underlying9 (c := c2) (ha2.seq.keep (w' := w.drewN q) fun _ _ => rfl) ha2.len
        have hse := strs_eq (HA.out.byte_at k) (HB.out.byte_at k)
        have NOK := Lib.hid (NO.out k)
        obtain ⟨x, hx⟩ : ∃ x, x = a.getD k [] := ⟨_, rfl⟩
        obtain ⟨y, hy⟩ : ∃ y, y = b.getD k [] := ⟨_, rfl⟩
        rw [← hx] at hst1 hse NOK
        rw [← hy] at hst2 hse NOK
        have HX := Lib.hid hx
        have HY := Lib.hid hy
        clear hx hy ha1 ha2
        by_cases hxy : x = y
        · have hse2 : ((strOfNums x).toList == (strOfNums y).toList) = true := hse.trans (decide_eq_true hxy)
          have HXY := Lib.hid hxy
          clear hxy hse
          go_wp2
          go_quiet (fail)
          go_wp2
          go_roundw
          case rel =>
            refine ⟨k + 1, by omega, by go_num, fun y' hy' => ?_, _, rfl⟩
            rcases Nat.lt_or_ge y' k with h' | h'
            · exact ALL.out y' h'
            · obtain rfl : y' = k := by omega
              rw [← HX.out, ← HY.out]
              exact HXY.out
          case measure => simp [intOf]; omega
        · have hse2 : ((strOfNums x).toList == (strOfNums y).toList) = false := hse.trans (decide_eq_false hxy)
          have HN := Lib.hid (NOK.out hxy)
          clear hxy hse
          go_wp2
          go_quiet (fail)
          go_wp2
          go_ret
          rw [HN.out]
          exact ⟨rfl, _, by rw [World.drewN_drewN]⟩
      · obtain rfl : k = n := by omega
        have HY := Lib.hid (YES.out ALL.out)
        go_wp2
        go_ret
        rw [HY.out]
        exact ⟨rfl, q, rfl⟩
  · rw [show decide (a = b) = false from decide_eq_false fun e => hn (by rw [← ha.len, ← hb.len, e])]
    exact sam4_len A n c A' n' c' w hn


end Go.Proofs.Yteapaoefgcnicaa
