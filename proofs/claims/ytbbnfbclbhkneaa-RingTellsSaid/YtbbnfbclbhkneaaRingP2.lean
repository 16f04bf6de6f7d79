/- Layer 4, package ring: rows of texts in new memory, new queues, twins, whether two are the same. -/
import Derived.Test.YtbbnfbclbhkneaaRingP
namespace Go.Proofs.Ytbbnfbclbhkneaa
open Go.RowKit Go.OpenShut Go.ChangeShapes Go.WideShapes Go.Deep Go.Joins
set_option linter.unusedVariables false

/-- The texts of a row, as values. -/
theorem Texts.vals {w : World} {A : Option Addr} {n c : Nat} {q : List Text} (h : Texts w A n c q) :
    ∃ s : Nat → Option Addr × Nat × Nat, Seq w w.heap.size A ((List.range n).map fun i => Value.slice (s i).1 (s i).2.1 (s i).2.2) ∧ ∀ i, i < n → Arg w .u8 (s i).1 (s i).2.1 (s i).2.2 (q.getD i []) := by
  have each : ∀ i, i < n → ∃ s : Option Addr × Nat × Nat, (∃ b o, A = some ⟨b, o, none⟩ ∧ b < w.heap.size ∧ w.cell? ⟨b, o + i, none⟩ = some (.slice s.1 s.2.1 s.2.2)) ∧ Arg w .u8 s.1 s.2.1 s.2.2 (q.getD i []) := fun i hi => by
    obtain ⟨b, o, Ai, ni, ci, e, hlt, hc, ha⟩ := h.at_ i hi
    exact ⟨(Ai, ni, ci), ⟨b, o, e, hlt, hc⟩, ha⟩
  obtain ⟨s, hs⟩ := choose_lt each
  refine ⟨s, fun j v hv => ?_, fun i hi => (hs i hi).2⟩
  have hj : j < n := by
    have := (List.getElem?_eq_some_iff.1 hv).1
    simpa using this
  have e : v = .slice (s j).1 (s j).2.1 (s j).2.2 := by
    simp [hj] at hv
    exact hv.symm
  subst e
  exact (hs j hj).1
theorem rows_one (n : Nat) (s : Nat → Option Addr × Nat × Nat) : ∀ v ∈ (List.range n).map fun i => Value.slice (s i).1 (s i).2.1 (s i).2.2, v.oneCell' = true := fun v hv => by
  obtain ⟨i, _, rfl⟩ := List.mem_map.1 hv
  rfl
theorem texts_size : (Try.prog.info? 28).map (·.size) = some 1 := by kernel_rfl
theorem make_rows (n : Nat) (hn : n ≤ 100) (w : World) :
    (Instr.makeSlice 22 (.int .i64 (n : Int)) (.int .i64 (n : Int))).run Try.prog w = .ok (.slice (some ⟨w.heap.size, 0, none⟩) n n) (w.alloc (.cells (List.replicate n (.slice none 0 0)).toArray 28)) := by
  obtain ⟨i1, hi1, hy0, hy1, hy2⟩ := info_parts texts_info
  have hml : (100 : Nat) ≤ maxLen := by decide
  exact run_make1 (P := Try.prog) 22 28 i1 _ Try.underlying22 hi1 hy0 hy1 rfl n (by rw [hy2]; omega) (by omega) w

/-- A row in new memory; its elements are as they were. -/
theorem twinT_any (A : Option Addr) (n c : Nat) (vs : List Value) (w : World) (hseq : Seq w w.heap.size A vs) (hl : vs.length = n) (hv : ∀ v ∈ vs, v.oneCell' = true) (hn : n ≤ 100) (hc : c ≤ maxLen) (hnc : n ≤ c) :
    Calls Try.prog 32 #[.slice A n c] w fun e w' => ∃ A' c', e = .returned (.slice A' n c') ∧ w'.ownsRow w.heap.size 28 1 (.slice A' n c') n vs ∧ Below w.heap.size w w' := by
  have hml : (100 : Nat) ≤ maxLen := by decide
  by_cases h0 : n = 0
  · subst h0
    obtain rfl : vs = [] := List.eq_nil_of_length_eq_zero hl
    clear hseq hl hv
    go_enter Try.func32, Try.ntmps32
    go_wp2
    go_ret
    exact ⟨none, 0, rfl, World.ownsRow_nil _ _ _ _, Below.refl _ _⟩
  · have hmk := make_rows n hn w
    have hb : Blk (w.alloc (.cells (List.replicate n (.slice none 0 0)).toArray 28)) w.heap.size 28 (List.replicate n (.slice none 0 0)) := Blk.new w 28 _
    have hbel : Below w.heap.size w (w.alloc (.cells (List.replicate n (.slice none 0 0)).toArray 28)) := (Below.refl _ _).alloc (Nat.le_refl _) _
    have hseq := hseq.below hbel
    obtain ⟨w1, hw1⟩ : ∃ w1, w1 = w.alloc (.cells (List.replicate n (.slice none 0 0)).toArray 28) := ⟨_, rfl⟩
    rw [← hw1] at hmk hb hbel hseq
    have HB := Lib.hid hb
    have HBEL := Lib.hid hbel
    have HSEQ := Lib.hid hseq
    have HLEN := Lib.hid (show vs.length = Nat.min n n by rw [hl]; exact (Nat.min_self n).symm)
    have HFIT := Lib.hid (show 0 + vs.length ≤ (List.replicate n (Value.slice none 0 0)).length by simp [hl])
    have HL := Lib.hid hl
    have HV := Lib.hid hv
    clear hw1 hb hbel hseq hl hv
    go_enter Try.func32, Try.ntmps32
    go_wp2_with (with_reducible refine wpList_copy_seq (o := ⟨some 12, _, _, _, _, _⟩) rfl (.tmp 10) (.tmp 11) _ _ rfl 28 Try.underlying22 texts_size A w.heap.size 0 n n n c rfl rfl (List.replicate n (.slice none 0 0)) 28 HB.out vs HLEN.out _ HSEQ.out HFIT.out HV.out w.heap.size w HBEL.out (Nat.le_refl _) ?_; intro w2 HG2 hB2)
    have hg2 := HG2.out
    rw [splice_whole (by rw [HL.out, List.length_replicate])] at hg2
    have G2 := Lib.hid hg2
    have B2 := Lib.hid hB2
    clear hg2 hB2
    go_wp2
    go_ret
    exact ⟨_, n, rfl, G2.out.owns (Nat.le_refl _) HL.out (by omega), B2.out⟩

/-- A row of the call's own whose first k texts are the call's own; the others are as they came in. -/
def HalfTexts (w : World) (base : Nat) (A : Option Addr) (n c : Nat) (q : List Text) (vs : List Value) (k : Nat) : Prop :=
  ∃ us : List Value, w.ownsRow base 28 1 (.slice A n c) n us ∧ (∀ i, i < k → ∃ Ai ni ci, us[i]? = some (.slice Ai ni ci) ∧ w.ownsRow base 5 1 (.slice Ai ni ci) ni (ints .u8 (q.getD i []))) ∧ ∀ i, k ≤ i → us[i]? = vs[i]?
section
variable {w w' : World} {base : Nat} {A : Option Addr} {n c k : Nat} {q : List Text} {vs : List Value}
theorem HalfTexts.zero (h : w.ownsRow base 28 1 (.slice A n c) n vs) : HalfTexts w base A n c q vs 0 := ⟨vs, h, fun i hi => by omega, fun i hi => rfl⟩
theorem HalfTexts.below (h : HalfTexts w base A n c q vs k) (hb : Below w.heap.size w w') : HalfTexts w' base A n c q vs k := by
  obtain ⟨us, hown, hin, hr⟩ := h
  refine ⟨us, owns_below hown hb, fun i hi => ?_, hr⟩
  obtain ⟨Ai, ni, ci, hv, ho⟩ := hin i hi
  exact ⟨Ai, ni, ci, hv, owns_below ho hb⟩
theorem HalfTexts.box (h : HalfTexts w base A n c q vs k) {g : Nat} {t : TypeId} {cs : List Value} (hb : Blk w g t cs) (h1 : t ≠ 28) (h2 : t ≠ 5) (i : Nat) (u : Value) : HalfTexts (w.setCell ⟨g, i, none⟩ u) base A n c q vs k := by
  obtain ⟨us, hown, hin, hr⟩ := h
  refine ⟨us, owns_box hown hb h1, fun i hi => ?_, hr⟩
  obtain ⟨Ai, ni, ci, hv, ho⟩ := hin i hi
  exact ⟨Ai, ni, ci, hv, owns_box ho hb h2⟩
theorem HalfTexts.head (h : HalfTexts w base A n c q vs k) (hk : k < n) : ∃ g, A = some ⟨g, 0, none⟩ ∧ base ≤ g ∧ g < w.heap.size ∧ w.cell? ⟨g, k, none⟩ = vs[k]? := by
  obtain ⟨us, hown, hin, hr⟩ := h
  obtain ⟨g, v, rfl, hbg, hc, _, _⟩ := owns_at hown hk
  obtain ⟨b, o, e, hlt, hcc⟩ := Seq.own hown k v (by
    have := hown.cellAt k (by have := hown.1; omega)
    rw [← hc]; exact this.symm)
  cases e
  refine ⟨g, rfl, hbg, hlt, ?_⟩
  rw [hown.cellAt k (by have := hown.1; omega)]
  exact hr k (Nat.le_refl _)
theorem HalfTexts.step (h : HalfTexts w base A n c q vs k) (hk : k < n) {Ai : Option Addr} {ni ci : Nat} (ho : w.ownsRow base 5 1 (.slice Ai ni ci) ni (ints .u8 (q.getD k []))) :
    ∃ g v, A = some ⟨g, 0, none⟩ ∧ base ≤ g ∧ w.cell? ⟨g, k, none⟩ = some v ∧ w.frozen? ⟨g, k, none⟩ = false ∧ HalfTexts (w.setCell ⟨g, k, none⟩ (.slice Ai ni ci)) base A n c q vs (k + 1) := by
  obtain ⟨us, hown, hin, hr⟩ := h
  obtain ⟨g, v, rfl, hbg, hc, hf, hset⟩ := owns_at hown hk
  have hvl : us.length = n := by have := hown.1; omega
  have hkeep : ∀ {A' : Option Addr} {n' c' : Nat} {xs : List Value}, w.ownsRow base 5 1 (.slice A' n' c') n' xs → (w.setCell ⟨g, k, none⟩ (.slice Ai ni ci)).ownsRow base 5 1 (.slice A' n' c') n' xs := fun hx =>
    hx.kept (grownBy_set w g k _) (by
      have := owns_other (by decide) hx hown
      simpa [Value.ownBlock] using this)
  refine ⟨g, v, rfl, hbg, hc, hf, us.set k (.slice Ai ni ci), hset _, fun j hj => ?_, fun j hj => ?_⟩
  · by_cases e : k = j
    · subst e
      exact ⟨Ai, ni, ci, by rw [List.getElem?_set_self (by omega)], hkeep ho⟩
    · obtain ⟨Aj, nj, cj, hv, hoj⟩ := hin j (by omega)
      exact ⟨Aj, nj, cj, by rw [List.getElem?_set_ne e]; exact hv, hkeep hoj⟩
  · rw [List.getElem?_set_ne (by omega)]
    exact hr j (by omega)
theorem HalfTexts.whole (h : HalfTexts w base A n c q vs n) (hl : q.length = n) (hb : ∀ zs ∈ q, ∀ z ∈ zs, isByte z) : OwnTexts w base A n c q := by
  obtain ⟨us, hown, hin, _⟩ := h
  exact ⟨us, hown, hl, hb, hin⟩
end

set_option maxHeartbeats 800000 in
theorem new_any (r : Int) (w : World) : Calls Try.prog 7 #[.int .i64 r] w (QueueOut w (newI r) 0 0 (newE r)) := by
  have hbel : Below w.heap.size w (w.alloc (.cells #[.slice none 0 0, .int .i64 0, .int .i64 0] 24)) := (Below.refl _ _).alloc (Nat.le_refl _) _
  have x := Blk.new w 24 [.slice none 0 0, .int .i64 0, .int .i64 0]
  have R := isRoom_any r (w.alloc (.cells #[.slice none 0 0, .int .i64 0, .int .i64 0] 24))
  by_cases h1 : 1 ≤ r ∧ r ≤ 64
  · rw [decide_eq_true h1] at R
    have R := Lib.hid R
    have hE : newE r = 0 := by unfold newE; rw [if_pos h1]
    obtain ⟨n, rfl⟩ : ∃ n : Nat, r = n := ⟨r.toNat, by omega⟩
    have hI : newI (n : Int) = List.replicate n [] := by unfold newI; rw [if_pos hE, Int.toNat_natCast]
    rw [hE, hI]
    have hn64 : n ≤ 64 := by omega
    have hn1 : 1 ≤ n := by omega
    have hmk := make_texts n hn64 (w.alloc (.cells #[.slice none 0 0, .int .i64 0, .int .i64 0] 24))
    have hO := own_texts n hn64 (w.alloc (.cells #[.slice none 0 0, .int .i64 0, .int .i64 0] 24))
    rw [World.size_alloc] at hmk hO
    have x2 := x.grown (World.grownBy_alloc (w.alloc (.cells #[.slice none 0 0, .int .i64 0, .int .i64 0] 24)) (.cells (List.replicate n (.slice none 0 0)).toArray 28) none) (by simp)
    have b2 := hbel.alloc hbel.size (.cells (List.replicate n (.slice none 0 0)).toArray 28)
    obtain ⟨w2, hw2⟩ : ∃ w2, w2 = (w.alloc (.cells #[.slice none 0 0, .int .i64 0, .int .i64 0] 24)).alloc (.cells (List.replicate n (.slice none 0 0)).toArray 28) := ⟨_, rfl⟩
    have hmk2 : (Instr.makeSlice 22 (.int .i64 (n : Int)) (.int .i64 (n : Int))).run Try.prog (w.alloc (.cells #[.slice none 0 0, .int .i64 0, .int .i64 0] 24)) = .ok (.slice (some ⟨w.heap.size + 1, 0, none⟩) n n) w2 := by rw [hw2]; exact hmk
    rw [← hw2] at hO x2 b2
    have e0 := x2.cell 0
    have e1 := x2.cell 1
    have e2 := x2.cell 2
    have g0 := x2.free 0
    have g1 := x2.free 1
    have g2 := x2.free 2
    simp only [List.getElem?_cons_zero, List.getElem?_cons_succ] at e0 e1 e2
    have X2 := Lib.hid x2
    have O2 := Lib.hid hO
    have B2 := Lib.hid b2
    clear hw2 hmk hO x2 b2 hbel x hE hI h1
    go_enter Try.func7, Try.ntmps7
    go_wp2_with fail
    refine R.out.mono ?_
    rintro e w' ⟨rfl, rfl⟩
    go_wp2
    have z := X2.out.three (.slice (some ⟨w.heap.size + 1, 0, none⟩) n n) (.int .i64 0) (.int .i64 0)
    have z0 := z.cell 0
    have z1 := z.cell 1
    have z2 := z.cell 2
    simp only [List.getElem?_cons_zero, List.getElem?_cons_succ] at z0 z1 z2
    have O3 := O2.out.three X2.out q_types.1 q_types.2 (.slice (some ⟨w.heap.size + 1, 0, none⟩) n n) (.int .i64 0) (.int .i64 0)
    have B3 := below_three B2.out (Nat.le_refl _) (.slice (some ⟨w.heap.size + 1, 0, none⟩) n n) (.int .i64 0) (.int .i64 0)
    have hl : (List.replicate n ([] : List Int)).length = n := List.length_replicate
    refine bodyPost_ret (v := .tuple #[queueV (some ⟨w.heap.size + 1, 0, none⟩) n n 0 0, .int .i64 0]) ?_ rfl ⟨_, n, by rw [hl], by rw [hl]; exact O3.lower (Nat.le_succ _), B3⟩
    clear e0 e1 e2 g0 g1 g2
    simp [results, Try.f7, go_sem, z0, z1, z2]
  · rw [decide_eq_false h1] at R
    have R := Lib.hid R
    have hE : newE r = 2 := by unfold newE; rw [if_neg h1]
    have hI : newI r = [] := by unfold newI; rw [if_neg (by rw [hE]; decide)]
    rw [hE, hI]
    have e0 := x.cell 0
    have e1 := x.cell 1
    have e2 := x.cell 2
    have g0 := x.free 0
    have g1 := x.free 1
    have g2 := x.free 2
    simp only [List.getElem?_cons_zero, List.getElem?_cons_succ] at e0 e1 e2
    have BEL := Lib.hid hbel
    have X2 := Lib.hid x
    clear hbel x hE hI h1
    go_enter Try.func7, Try.ntmps7
    go_wp2_with fail
    refine R.out.mono ?_
    rintro e w' ⟨rfl, rfl⟩
    go_wp2
    have z0 := X2.out.cell 0
    have z1 := X2.out.cell 1
    have z2 := X2.out.cell 2
    simp only [List.getElem?_cons_zero, List.getElem?_cons_succ] at z0 z1 z2
    refine bodyPost_ret (v := .tuple #[queueV none 0 0 0 0, .int .i64 2]) ?_ rfl ⟨none, 0, rfl, OwnTexts.nil _ _, BEL.out⟩
    clear e0 e1 e2 g0 g1 g2
    simp [results, Try.f7, go_sem, z0, z1, z2]

end Go.Proofs.Ytbbnfbclbhkneaa
