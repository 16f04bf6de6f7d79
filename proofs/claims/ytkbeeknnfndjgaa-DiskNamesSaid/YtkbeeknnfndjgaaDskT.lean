/- Layer 5, package disk: rows cloned, their texts moved into a store. -/
import Derived.Test.YtkbeeknnfndjgaaDskK
import Derived.Test.YtkbeeknnfndjgaaDiskQ
namespace Go.Proofs.Ytkbeeknnfndjgaa
open Go.RowKit Go.OpenShut Go.ChangeShapes Go.WideShapes Go.Deep Go.Joins
set_option linter.unusedVariables false

theorem sec_pair {w : World} {A : Option Addr} {n c : Nat} {ss : List Sec} (h : Secs w A n c ss) : ∃ news : List Value, news.length = n * 2 ∧ (∀ j u, news[j]? = some u → ∃ b o, A = some ⟨b, o, none⟩ ∧ w.cell? ⟨b, o + j, none⟩ = some u) ∧ (∀ u ∈ news, u.oneCell' = true) ∧
    ∀ i, i < n → ∃ Ai ni ci, news[i * 2]? = some (.slice Ai ni ci) ∧ news[i * 2 + 1]? = some (.bool (ss.getD i (false, [])).1) ∧ Arg w .u8 Ai ni ci (ss.getD i (false, [])).2 := by
  have each : ∀ j, j < n * 2 → ∃ u, (∃ b o, A = some ⟨b, o, none⟩ ∧ w.cell? ⟨b, o + j, none⟩ = some u) ∧ u.oneCell' = true ∧ (∀ i, j = i * 2 → ∃ Ai ni ci, u = .slice Ai ni ci ∧ Arg w .u8 Ai ni ci (ss.getD i (false, [])).2) ∧ ∀ i, j = i * 2 + 1 → u = .bool (ss.getD i (false, [])).1 := fun j hj => by
    obtain ⟨b, o, Ai, ni, ci, e, hlt, hc, hx, ha⟩ := h.at_ (j / 2) (by omega)
    rcases Nat.mod_two_eq_zero_or_one j with h2 | h2
    · have ej : o + j = o + j / 2 * 2 := by omega
      exact ⟨.slice Ai ni ci, ⟨b, o, e, by rw [ej]; exact hc⟩, rfl, fun i hi => ⟨Ai, ni, ci, rfl, by rw [show i = j / 2 by omega]; exact ha⟩, fun i hi => by omega⟩
    · have ej : o + j = o + j / 2 * 2 + 1 := by omega
      exact ⟨.bool (ss.getD (j / 2) (false, [])).1, ⟨b, o, e, by rw [ej]; exact hx⟩, rfl, fun i hi => by omega, fun i hi => by rw [show i = j / 2 by omega]⟩
  obtain ⟨f, hf⟩ := choose_lt each
  refine ⟨(List.range (n * 2)).map f, by simp, fun j u hu => ?_, fun u hu => ?_, fun i hi => ?_⟩
  · have hj : j < n * 2 := by
      have := (List.getElem?_eq_some_iff.1 hu).1
      simpa using this
    have e : u = f j := by simpa [hj] using hu.symm
    rw [e]
    exact (hf j hj).1
  · obtain ⟨j, hj, rfl⟩ := List.mem_map.1 hu
    exact (hf j (List.mem_range.1 hj)).2.1
  · obtain ⟨Ai, ni, ci, e, ha⟩ := (hf (i * 2) (by omega)).2.2.1 i rfl
    have e2 := (hf (i * 2 + 1) (by omega)).2.2.2 i rfl
    refine ⟨Ai, ni, ci, ?_, ?_, ha⟩
    · rw [← e]
      simp [show i * 2 < n * 2 by omega]
    · rw [← e2]
      simp [show i * 2 + 1 < n * 2 by omega]

/-- What a row and its clone have in common. -/
def Secs_cells (w : World) (n : Nat) (ss : List Sec) (vs : List Value) : Prop :=
  ∀ i, i < n → ∃ Ai ni ci, vs[i * 2]? = some (.slice Ai ni ci) ∧ vs[i * 2 + 1]? = some (.bool (ss.getD i (false, [])).1) ∧ Arg w .u8 Ai ni ci (ss.getD i (false, [])).2

set_option maxRecDepth 100000 in
set_option maxHeartbeats 800000 in
theorem cloneSecs_any (A : Option Addr) (n c : Nat) (ss : List Sec) (w0 w : World) (h : Secs w0 A n c ss) (hw0 : Below w0.heap.size w0 w) (hn : n ≤ 100000) :
    Calls Try.prog 65 #[.slice A n c] w fun e w' => ∃ B d vs, e = .returned (.slice B n d) ∧ w'.ownsRow w.heap.size 39 2 (.slice B n d) n vs ∧ Secs_cells w0 n ss vs ∧ Below w.heap.size w w' := by
  obtain ⟨i0, hi0, hz0, hz1, hz2⟩ := info_parts sec_info
  have hml : (100000 : Nat) ≤ maxLen := by decide
  have hnil := Lib.run_eql_slice_nil (P := Try.prog) w 22 39 A n c 0 0 Try.underlying22
  obtain ⟨news, hl, hcell, h1, hcs⟩ := sec_pair h
  cases A with
  | none =>
    have hn0 : n = 0 := by
      rcases Nat.eq_zero_or_pos n with h0 | h0
      · exact h0
      · obtain ⟨_, _, _, _, _, e, _⟩ := h.at_ 0 h0
        cases e
    subst hn0
    clear h hw0 hcell h1 hcs
    go_enter Try.func65, Try.ntmps65
    go_wp2
    go_ret
    exact ⟨none, 0, [], rfl, World.ownsRow_nil _ _ _ _, fun i hi => by omega, Below.refl _ _⟩
  | some a =>
    have hlit : (w.alloc (.cells #[] 39)).ownsRow w.heap.size 39 2 (.slice (some ⟨w.heap.size, 0, none⟩) 0 0) 0 [] := World.ownsRow_lit w #[] 0 (Nat.le_refl _) (by decide) rfl
    obtain ⟨v', w', hrun, hown, hg, _, _⟩ := run_append_own_at (P := Try.prog) (w := w.alloc (.cells #[] 39)) w.heap.size 22 22 39 i0 _ 2 32 Try.underlying22 hi0 hz0 hz1 hz2 rfl (by decide) _ 0 [] hlit a n c news hl (fun j u hu => by
      obtain ⟨b, o, e, hc⟩ := hcell j u hu
      cases e
      have e2 : (⟨b, o, none⟩ : Addr).add j = ⟨b, o + j, none⟩ := by unfold Addr.add; split <;> simp_all
      have hlt := World.block_lt_of_cell? w0 _ hc
      have hlt : b < w0.heap.size := hlt
      rw [e2, World.cell?_alloc_lt _ _ _ (show b < w.heap.size from Nat.lt_of_lt_of_le hlt hw0.size)]
      exact (hw0.cell (p := ⟨b, _, none⟩) hlt).trans hc) h1 (by omega) (by omega) (by simp)
    rw [Nat.zero_add, List.nil_append] at hown
    have hB : Below w.heap.size w w' := ((Below.refl _ _).alloc (Nat.le_refl _) _).grown hg (by simp) (fun g e => by have e : some w.heap.size = some g := e; injection e with e; omega)
    have hv : ∃ B d, v' = .slice B n d := by
      rcases hown.2 with ⟨rfl, rfl⟩ | ⟨g, cap, cur, rfl, _⟩
      · exact ⟨none, 0, rfl⟩
      · exact ⟨_, _, rfl⟩
    obtain ⟨B, d, rfl⟩ := hv
    have HRUN := Lib.hid hrun
    have RES := Lib.hid (show ∃ B' d' vs, (Ending.returned (.slice B n d)) = .returned (.slice B' n d') ∧ w'.ownsRow w.heap.size 39 2 (.slice B' n d') n vs ∧ Secs_cells w0 n ss vs ∧ Below w.heap.size w w' from ⟨B, d, news, rfl, hown, hcs, hB⟩)
    clear hrun hown hB hcs hlit hg h hw0 hcell h1
    go_enter Try.func65, Try.ntmps65
    go_wp2_with (at_builtin; refine wpList_app_eq rfl (.tmp 5) (.tmp 6) 22 22 rfl rfl rfl HRUN.out ?_)
    go_ret
    exact RES.out

/-- A cloned row, the texts of whose first k lie in a store; the others are the elder ones. -/
def SecsTo (w0 w : World) (base M m : Nat) (A : Option Addr) (n c : Nat) (ss : List Sec) (k : Nat) : Prop :=
  ∃ vs : List Value, w.ownsRow base 39 2 (.slice A n c) n vs ∧ ∀ i, i < n → ∃ Ai ni ci, vs[i * 2]? = some (.slice Ai ni ci) ∧ vs[i * 2 + 1]? = some (.bool (ss.getD i (false, [])).1) ∧ (if i < k then TxtIn w base M m Ai ni ci (ss.getD i (false, [])).2 else Arg w0 .u8 Ai ni ci (ss.getD i (false, [])).2)
theorem SecsTo.start {w0 w : World} {base b0 : Nat} (M m : Nat) {A : Option Addr} {n c : Nat} {ss : List Sec} {vs : List Value} (h : w.ownsRow b0 39 2 (.slice A n c) n vs) (hb : base ≤ b0) (hc : Secs_cells w0 n ss vs) : SecsTo w0 w base M m A n c ss 0 :=
  ⟨vs, owns_base h hb, fun i hi => by
    obtain ⟨Ai, ni, ci, h1, h2, h3⟩ := hc i hi
    exact ⟨Ai, ni, ci, h1, h2, by rw [if_neg (by omega)]; exact h3⟩⟩
section
variable {w0 w w' : World} {base M m : Nat} {A : Option Addr} {n c : Nat} {ss : List Sec} {k : Nat}
theorem SecsTo.keep (h : SecsTo w0 w base M m A n c ss k) (hk : ∀ (g : Nat) (e : TypeId) (cs : Array Value), (e = 39 ∨ e = 5) → base ≤ g → w.heap[g]? = some (.cells cs e (0, 0)) → w'.heap[g]? = w.heap[g]?) : SecsTo w0 w' base M m A n c ss k := by
  obtain ⟨vs, hown, hin⟩ := h
  refine ⟨vs, owns_keep hown fun g cs hg hc => hk g _ cs (.inl rfl) hg hc, fun i hi => ?_⟩
  obtain ⟨Ai, ni, ci, hv, hx, ho⟩ := hin i hi
  refine ⟨Ai, ni, ci, hv, hx, ?_⟩
  split at ho
  · rename_i hik
    rw [if_pos hik]
    exact ho.keep fun g hg hu => by
      obtain ⟨cs, hc⟩ := hu
      exact hk g _ cs (.inr rfl) hg hc
  · rename_i hik
    rw [if_neg hik]
    exact ho
theorem SecsTo.below (h : SecsTo w0 w base M m A n c ss k) (hb : Below w.heap.size w w') : SecsTo w0 w' base M m A n c ss k :=
  h.keep fun g _ _ _ _ hc => hb.block g (Array.getElem?_eq_some_iff.1 hc).1
theorem SecsTo.box (h : SecsTo w0 w base M m A n c ss k) {g : Nat} {t : TypeId} {cs : List Value} (hb : Blk w g t cs) (h1 : t ≠ 39) (h2 : t ≠ 5) (i : Nat) (u : Value) : SecsTo w0 (w.setCell ⟨g, i, none⟩ u) base M m A n c ss k :=
  h.keep fun g' e cs' he _ hc => by
    refine Below.heap_setCell w _ u g' (fun e2 => ?_)
    subst e2
    unfold Blk at hb
    rw [hb] at hc
    simp at hc
    rcases he with rfl | rfl
    · exact h1 hc.2
    · exact h2 hc.2
/-- A call of keep moves no text away. -/
theorem SecsTo.kept {Bm : Nat} {mem b : List Int} {kk : Nat} {A2 : Option Addr} {M' cm' : Nat} {c0 : List Value} (h : SecsTo w0 w base M m A n c ss k) (hk : Kept w base Bm M m mem kk b A2 M' cm' w') (hb : Blk w Bm 98 c0) (hu : U8 w M) : SecsTo w0 w' base M' (m + kk) A n c ss k := by
  obtain ⟨vs, hown, hin⟩ := h
  refine ⟨vs, owns_keep hown fun g cs _ hc => hk.same g (Array.getElem?_eq_some_iff.1 hc).1 (fun e => ?_) (fun e => ?_), fun i hi => ?_⟩
  · subst e
    unfold Blk at hb
    rw [hb] at hc
    simp at hc
  · subst e
    obtain ⟨cs', hc'⟩ := hu
    rw [hc'] at hc
    simp at hc
  · obtain ⟨Ai, ni, ci, hv, hx, ho⟩ := hin i hi
    refine ⟨Ai, ni, ci, hv, hx, ?_⟩
    split at ho
    · rename_i hik
      rw [if_pos hik]
      exact hk.stay _ _ _ _ ho
    · rename_i hik
      rw [if_neg hik]
      exact ho
theorem SecsTo.get (h : SecsTo w0 w base M m A n c ss k) (hkn : k < n) : ∃ g Ai ni ci, A = some ⟨g, 0, none⟩ ∧ base ≤ g ∧ w.cell? ⟨g, k * 2, none⟩ = some (.slice Ai ni ci) ∧ w.frozen? ⟨g, k * 2, none⟩ = false ∧ Arg w0 .u8 Ai ni ci (ss.getD k (false, [])).2 ∧ (∃ cs, w.heap[g]? = some (.cells cs 39 (0, 0))) := by
  obtain ⟨vs, hown, hin⟩ := h
  obtain ⟨Ai, ni, ci, hv, hx, ho⟩ := hin k hkn
  rw [if_neg (by omega)] at ho
  obtain ⟨g, u, e, hbg, _⟩ := owns_at2 hown (show k * 2 < n * 2 by omega)
  obtain ⟨b, e', hlt, hc⟩ := owns_cell hown hv
  rw [e] at e'
  cases e'
  refine ⟨g, Ai, ni, ci, e, hbg, hc, ?_, ho, ?_⟩
  · subst e
    exact hown.frozenAt _
  · rcases hown.2 with ⟨e2, _⟩ | ⟨g2, cap, cur, e2, _, hg2, _⟩
    · rw [e] at e2; cases e2
    · rw [e] at e2
      cases e2
      exact ⟨cur, hg2⟩
theorem SecsTo.put {g : Nat} (h : SecsTo w0 w base M m (some ⟨g, 0, none⟩) n c ss k) (hkn : k < n) {A2 : Option Addr} {n2 c2 : Nat} (ht : TxtIn w base M m A2 n2 c2 (ss.getD k (false, [])).2) : SecsTo w0 (w.setCell ⟨g, k * 2, none⟩ (.slice A2 n2 c2)) base M m (some ⟨g, 0, none⟩) n c ss (k + 1) := by
  obtain ⟨vs, hown, hin⟩ := h
  have hvl : vs.length = n * 2 := hown.1
  obtain ⟨g', u, e, hbg, hc, hf, hset⟩ := owns_at2 hown (show k * 2 < n * 2 by omega)
  cases e
  have hu8 : ∀ {A' : Option Addr} {n' c' : Nat} {zs : List Int}, TxtIn w base M m A' n' c' zs → TxtIn (w.setCell ⟨g, k * 2, none⟩ (.slice A2 n2 c2)) base M m A' n' c' zs := fun hx =>
    hx.keep fun g' _ hu => Below.heap_setCell w _ _ g' (fun e => by subst e; exact u8_row (by decide) hu hown rfl)
  refine ⟨_, hset _, fun i hi => ?_⟩
  by_cases e : k = i
  · subst e
    obtain ⟨Aj, nj, cj, hv, hx, hoj⟩ := hin k hi
    refine ⟨A2, n2, c2, by rw [List.getElem?_set_self (by omega)], by rw [List.getElem?_set_ne (by omega)]; exact hx, ?_⟩
    rw [if_pos (by omega)]
    exact hu8 ht
  · obtain ⟨Aj, nj, cj, hv, hx, hoj⟩ := hin i hi
    refine ⟨Aj, nj, cj, by rw [List.getElem?_set_ne (by omega)]; exact hv, by rw [List.getElem?_set_ne (by omega)]; exact hx, ?_⟩
    split at hoj
    · rename_i hik
      rw [if_pos (by omega)]
      exact hu8 hoj
    · rename_i hik
      rw [if_neg (by omega)]
      exact hoj
theorem SecsTo.done (h : SecsTo w0 w base M m A n c ss k) (hk : n ≤ k) (hl : ss.length = n) (hb : ∀ s ∈ ss, ∀ z ∈ s.2, isByte z) : OwnSecs w base A n c ss := by
  obtain ⟨vs, hown, hin⟩ := h
  refine ⟨vs, hown, hl, hb, fun i hi => ?_⟩
  obtain ⟨Ai, ni, ci, hv, hx, ho⟩ := hin i hi
  rw [if_pos (by omega)] at ho
  exact ⟨Ai, ni, ci, hv, hx, ho.1⟩
end

theorem pnd_pair {w : World} {A : Option Addr} {n c : Nat} {ss : List Pnd} (h : Pnds w A n c ss) : ∃ news : List Value, news.length = n * 2 ∧ (∀ j u, news[j]? = some u → ∃ b o, A = some ⟨b, o, none⟩ ∧ w.cell? ⟨b, o + j, none⟩ = some u) ∧ (∀ u ∈ news, u.oneCell' = true) ∧
    ∀ i, i < n → ∃ Ai ni ci, news[i * 2 + 1]? = some (.slice Ai ni ci) ∧ news[i * 2]? = some (.int .i64 (ss.getD i (0, [])).1) ∧ Arg w .u8 Ai ni ci (ss.getD i (0, [])).2 := by
  have each : ∀ j, j < n * 2 → ∃ u, (∃ b o, A = some ⟨b, o, none⟩ ∧ w.cell? ⟨b, o + j, none⟩ = some u) ∧ u.oneCell' = true ∧ (∀ i, j = i * 2 + 1 → ∃ Ai ni ci, u = .slice Ai ni ci ∧ Arg w .u8 Ai ni ci (ss.getD i (0, [])).2) ∧ ∀ i, j = i * 2 → u = .int .i64 (ss.getD i (0, [])).1 := fun j hj => by
    obtain ⟨b, o, Ai, ni, ci, e, hlt, hc, hx, ha⟩ := h.at_ (j / 2) (by omega)
    rcases Nat.mod_two_eq_zero_or_one j with h2 | h2
    · have ej : o + j = o + j / 2 * 2 := by omega
      exact ⟨.int .i64 (ss.getD (j / 2) (0, [])).1, ⟨b, o, e, by rw [ej]; exact hx⟩, rfl, fun i hi => by omega, fun i hi => by rw [show i = j / 2 by omega]⟩
    · have ej : o + j = o + j / 2 * 2 + 1 := by omega
      exact ⟨.slice Ai ni ci, ⟨b, o, e, by rw [ej]; exact hc⟩, rfl, fun i hi => ⟨Ai, ni, ci, rfl, by rw [show i = j / 2 by omega]; exact ha⟩, fun i hi => by omega⟩
  obtain ⟨f, hf⟩ := choose_lt each
  refine ⟨(List.range (n * 2)).map f, by simp, fun j u hu => ?_, fun u hu => ?_, fun i hi => ?_⟩
  · have hj : j < n * 2 := by
      have := (List.getElem?_eq_some_iff.1 hu).1
      simpa using this
    have e : u = f j := by simpa [hj] using hu.symm
    rw [e]
    exact (hf j hj).1
  · obtain ⟨j, hj, rfl⟩ := List.mem_map.1 hu
    exact (hf j (List.mem_range.1 hj)).2.1
  · obtain ⟨Ai, ni, ci, e, ha⟩ := (hf (i * 2 + 1) (by omega)).2.2.1 i rfl
    have e2 := (hf (i * 2) (by omega)).2.2.2 i rfl
    refine ⟨Ai, ni, ci, ?_, ?_, ha⟩
    · rw [← e]
      simp [show i * 2 + 1 < n * 2 by omega]
    · rw [← e2]
      simp [show i * 2 < n * 2 by omega]

/-- What a row and its clone have in common. -/
def Pnds_cells (w : World) (n : Nat) (ss : List Pnd) (vs : List Value) : Prop :=
  ∀ i, i < n → ∃ Ai ni ci, vs[i * 2 + 1]? = some (.slice Ai ni ci) ∧ vs[i * 2]? = some (.int .i64 (ss.getD i (0, [])).1) ∧ Arg w .u8 Ai ni ci (ss.getD i (0, [])).2

set_option maxRecDepth 100000 in
set_option maxHeartbeats 800000 in
theorem clonePnds_any (A : Option Addr) (n c : Nat) (ss : List Pnd) (w0 w : World) (h : Pnds w0 A n c ss) (hw0 : Below w0.heap.size w0 w) (hn : n ≤ 100000) :
    Calls Try.prog 66 #[.slice A n c] w fun e w' => ∃ B d vs, e = .returned (.slice B n d) ∧ w'.ownsRow w.heap.size 63 2 (.slice B n d) n vs ∧ Pnds_cells w0 n ss vs ∧ Below w.heap.size w w' := by
  obtain ⟨i0, hi0, hz0, hz1, hz2⟩ := info_parts pnd_info
  have hml : (100000 : Nat) ≤ maxLen := by decide
  have hnil := Lib.run_eql_slice_nil (P := Try.prog) w 23 63 A n c 0 0 Try.underlying23
  obtain ⟨news, hl, hcell, h1, hcs⟩ := pnd_pair h
  cases A with
  | none =>
    have hn0 : n = 0 := by
      rcases Nat.eq_zero_or_pos n with h0 | h0
      · exact h0
      · obtain ⟨_, _, _, _, _, e, _⟩ := h.at_ 0 h0
        cases e
    subst hn0
    clear h hw0 hcell h1 hcs
    go_enter Try.func66, Try.ntmps66
    go_wp2
    go_ret
    exact ⟨none, 0, [], rfl, World.ownsRow_nil _ _ _ _, fun i hi => by omega, Below.refl _ _⟩
  | some a =>
    have hlit : (w.alloc (.cells #[] 63)).ownsRow w.heap.size 63 2 (.slice (some ⟨w.heap.size, 0, none⟩) 0 0) 0 [] := World.ownsRow_lit w #[] 0 (Nat.le_refl _) (by decide) rfl
    obtain ⟨v', w', hrun, hown, hg, _, _⟩ := run_append_own_at (P := Try.prog) (w := w.alloc (.cells #[] 63)) w.heap.size 23 23 63 i0 _ 2 32 Try.underlying23 hi0 hz0 hz1 hz2 rfl (by decide) _ 0 [] hlit a n c news hl (fun j u hu => by
      obtain ⟨b, o, e, hc⟩ := hcell j u hu
      cases e
      have e2 : (⟨b, o, none⟩ : Addr).add j = ⟨b, o + j, none⟩ := by unfold Addr.add; split <;> simp_all
      have hlt := World.block_lt_of_cell? w0 _ hc
      have hlt : b < w0.heap.size := hlt
      rw [e2, World.cell?_alloc_lt _ _ _ (show b < w.heap.size from Nat.lt_of_lt_of_le hlt hw0.size)]
      exact (hw0.cell (p := ⟨b, _, none⟩) hlt).trans hc) h1 (by omega) (by omega) (by simp)
    rw [Nat.zero_add, List.nil_append] at hown
    have hB : Below w.heap.size w w' := ((Below.refl _ _).alloc (Nat.le_refl _) _).grown hg (by simp) (fun g e => by have e : some w.heap.size = some g := e; injection e with e; omega)
    have hv : ∃ B d, v' = .slice B n d := by
      rcases hown.2 with ⟨rfl, rfl⟩ | ⟨g, cap, cur, rfl, _⟩
      · exact ⟨none, 0, rfl⟩
      · exact ⟨_, _, rfl⟩
    obtain ⟨B, d, rfl⟩ := hv
    have HRUN := Lib.hid hrun
    have RES := Lib.hid (show ∃ B' d' vs, (Ending.returned (.slice B n d)) = .returned (.slice B' n d') ∧ w'.ownsRow w.heap.size 63 2 (.slice B' n d') n vs ∧ Pnds_cells w0 n ss vs ∧ Below w.heap.size w w' from ⟨B, d, news, rfl, hown, hcs, hB⟩)
    clear hrun hown hB hcs hlit hg h hw0 hcell h1
    go_enter Try.func66, Try.ntmps66
    go_wp2_with (at_builtin; refine wpList_app_eq rfl (.tmp 5) (.tmp 6) 23 23 rfl rfl rfl HRUN.out ?_)
    go_ret
    exact RES.out

/-- A cloned row, the texts of whose first k lie in a store; the others are the elder ones. -/
def PndsTo (w0 w : World) (base M m : Nat) (A : Option Addr) (n c : Nat) (ss : List Pnd) (k : Nat) : Prop :=
  ∃ vs : List Value, w.ownsRow base 63 2 (.slice A n c) n vs ∧ ∀ i, i < n → ∃ Ai ni ci, vs[i * 2 + 1]? = some (.slice Ai ni ci) ∧ vs[i * 2]? = some (.int .i64 (ss.getD i (0, [])).1) ∧ (if i < k then TxtIn w base M m Ai ni ci (ss.getD i (0, [])).2 else Arg w0 .u8 Ai ni ci (ss.getD i (0, [])).2)
theorem PndsTo.start {w0 w : World} {base b0 : Nat} (M m : Nat) {A : Option Addr} {n c : Nat} {ss : List Pnd} {vs : List Value} (h : w.ownsRow b0 63 2 (.slice A n c) n vs) (hb : base ≤ b0) (hc : Pnds_cells w0 n ss vs) : PndsTo w0 w base M m A n c ss 0 :=
  ⟨vs, owns_base h hb, fun i hi => by
    obtain ⟨Ai, ni, ci, h1, h2, h3⟩ := hc i hi
    exact ⟨Ai, ni, ci, h1, h2, by rw [if_neg (by omega)]; exact h3⟩⟩
section
variable {w0 w w' : World} {base M m : Nat} {A : Option Addr} {n c : Nat} {ss : List Pnd} {k : Nat}
theorem PndsTo.keep (h : PndsTo w0 w base M m A n c ss k) (hk : ∀ (g : Nat) (e : TypeId) (cs : Array Value), (e = 63 ∨ e = 5) → base ≤ g → w.heap[g]? = some (.cells cs e (0, 0)) → w'.heap[g]? = w.heap[g]?) : PndsTo w0 w' base M m A n c ss k := by
  obtain ⟨vs, hown, hin⟩ := h
  refine ⟨vs, owns_keep hown fun g cs hg hc => hk g _ cs (.inl rfl) hg hc, fun i hi => ?_⟩
  obtain ⟨Ai, ni, ci, hv, hx, ho⟩ := hin i hi
  refine ⟨Ai, ni, ci, hv, hx, ?_⟩
  split at ho
  · rename_i hik
    rw [if_pos hik]
    exact ho.keep fun g hg hu => by
      obtain ⟨cs, hc⟩ := hu
      exact hk g _ cs (.inr rfl) hg hc
  · rename_i hik
    rw [if_neg hik]
    exact ho
theorem PndsTo.below (h : PndsTo w0 w base M m A n c ss k) (hb : Below w.heap.size w w') : PndsTo w0 w' base M m A n c ss k :=
  h.keep fun g _ _ _ _ hc => hb.block g (Array.getElem?_eq_some_iff.1 hc).1
theorem PndsTo.box (h : PndsTo w0 w base M m A n c ss k) {g : Nat} {t : TypeId} {cs : List Value} (hb : Blk w g t cs) (h1 : t ≠ 63) (h2 : t ≠ 5) (i : Nat) (u : Value) : PndsTo w0 (w.setCell ⟨g, i, none⟩ u) base M m A n c ss k :=
  h.keep fun g' e cs' he _ hc => by
    refine Below.heap_setCell w _ u g' (fun e2 => ?_)
    subst e2
    unfold Blk at hb
    rw [hb] at hc
    simp at hc
    rcases he with rfl | rfl
    · exact h1 hc.2
    · exact h2 hc.2
/-- A call of keep moves no text away. -/
theorem PndsTo.kept {Bm : Nat} {mem b : List Int} {kk : Nat} {A2 : Option Addr} {M' cm' : Nat} {c0 : List Value} (h : PndsTo w0 w base M m A n c ss k) (hk : Kept w base Bm M m mem kk b A2 M' cm' w') (hb : Blk w Bm 98 c0) (hu : U8 w M) : PndsTo w0 w' base M' (m + kk) A n c ss k := by
  obtain ⟨vs, hown, hin⟩ := h
  refine ⟨vs, owns_keep hown fun g cs _ hc => hk.same g (Array.getElem?_eq_some_iff.1 hc).1 (fun e => ?_) (fun e => ?_), fun i hi => ?_⟩
  · subst e
    unfold Blk at hb
    rw [hb] at hc
    simp at hc
  · subst e
    obtain ⟨cs', hc'⟩ := hu
    rw [hc'] at hc
    simp at hc
  · obtain ⟨Ai, ni, ci, hv, hx, ho⟩ := hin i hi
    refine ⟨Ai, ni, ci, hv, hx, ?_⟩
    split at ho
    · rename_i hik
      rw [if_pos hik]
      exact hk.stay _ _ _ _ ho
    · rename_i hik
      rw [if_neg hik]
      exact ho
theorem PndsTo.get (h : PndsTo w0 w base M m A n c ss k) (hkn : k < n) : ∃ g Ai ni ci, A = some ⟨g, 0, none⟩ ∧ base ≤ g ∧ w.cell? ⟨g, k * 2 + 1, none⟩ = some (.slice Ai ni ci) ∧ w.frozen? ⟨g, k * 2 + 1, none⟩ = false ∧ Arg w0 .u8 Ai ni ci (ss.getD k (0, [])).2 ∧ (∃ cs, w.heap[g]? = some (.cells cs 63 (0, 0))) := by
  obtain ⟨vs, hown, hin⟩ := h
  obtain ⟨Ai, ni, ci, hv, hx, ho⟩ := hin k hkn
  rw [if_neg (by omega)] at ho
  obtain ⟨g, u, e, hbg, _⟩ := owns_at2 hown (show k * 2 < n * 2 by omega)
  obtain ⟨b, e', hlt, hc⟩ := owns_cell hown hv
  rw [e] at e'
  cases e'
  refine ⟨g, Ai, ni, ci, e, hbg, hc, ?_, ho, ?_⟩
  · subst e
    exact hown.frozenAt _
  · rcases hown.2 with ⟨e2, _⟩ | ⟨g2, cap, cur, e2, _, hg2, _⟩
    · rw [e] at e2; cases e2
    · rw [e] at e2
      cases e2
      exact ⟨cur, hg2⟩
theorem PndsTo.put {g : Nat} (h : PndsTo w0 w base M m (some ⟨g, 0, none⟩) n c ss k) (hkn : k < n) {A2 : Option Addr} {n2 c2 : Nat} (ht : TxtIn w base M m A2 n2 c2 (ss.getD k (0, [])).2) : PndsTo w0 (w.setCell ⟨g, k * 2 + 1, none⟩ (.slice A2 n2 c2)) base M m (some ⟨g, 0, none⟩) n c ss (k + 1) := by
  obtain ⟨vs, hown, hin⟩ := h
  have hvl : vs.length = n * 2 := hown.1
  obtain ⟨g', u, e, hbg, hc, hf, hset⟩ := owns_at2 hown (show k * 2 + 1 < n * 2 by omega)
  cases e
  have hu8 : ∀ {A' : Option Addr} {n' c' : Nat} {zs : List Int}, TxtIn w base M m A' n' c' zs → TxtIn (w.setCell ⟨g, k * 2 + 1, none⟩ (.slice A2 n2 c2)) base M m A' n' c' zs := fun hx =>
    hx.keep fun g' _ hu => Below.heap_setCell w _ _ g' (fun e => by subst e; exact u8_row (by decide) hu hown rfl)
  refine ⟨_, hset _, fun i hi => ?_⟩
  by_cases e : k = i
  · subst e
    obtain ⟨Aj, nj, cj, hv, hx, hoj⟩ := hin k hi
    refine ⟨A2, n2, c2, by rw [List.getElem?_set_self (by omega)], by rw [List.getElem?_set_ne (by omega)]; exact hx, ?_⟩
    rw [if_pos (by omega)]
    exact hu8 ht
  · obtain ⟨Aj, nj, cj, hv, hx, hoj⟩ := hin i hi
    refine ⟨Aj, nj, cj, by rw [List.getElem?_set_ne (by omega)]; exact hv, by rw [List.getElem?_set_ne (by omega)]; exact hx, ?_⟩
    split at hoj
    · rename_i hik
      rw [if_pos (by omega)]
      exact hu8 hoj
    · rename_i hik
      rw [if_neg (by omega)]
      exact hoj
theorem PndsTo.done (h : PndsTo w0 w base M m A n c ss k) (hk : n ≤ k) (hl : ss.length = n) (hb : ∀ s ∈ ss, ∀ z ∈ s.2, isByte z) : OwnPnds w base A n c ss := by
  obtain ⟨vs, hown, hin⟩ := h
  refine ⟨vs, hown, hl, hb, fun i hi => ?_⟩
  obtain ⟨Ai, ni, ci, hv, hx, ho⟩ := hin i hi
  rw [if_pos (by omega)] at ho
  exact ⟨Ai, ni, ci, hv, hx, ho.1⟩
end

end Go.Proofs.Ytkbeeknnfndjgaa
