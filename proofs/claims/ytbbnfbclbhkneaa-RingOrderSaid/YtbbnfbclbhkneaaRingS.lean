/- Layer 4: texts written over (the statements' own helper): nothing older turns. -/
import Derived.Test.YtbbnfbclbhkneaaRingR6
namespace Go.Proofs.Ytbbnfbclbhkneaa
open Go.RowKit
set_option linter.unusedVariables false

/-- One byte of texts of the call's own: it is there, may be written, and they stay texts of the same lengths. -/
theorem OwnTexts.spot {w : World} {base : Nat} {A : Option Addr} {n c : Nat} {q : List Text} (h : OwnTexts w base A n c q) {i k : Nat} (hi : i < n) (hk : k < (q.getD i []).length) :
    ∃ gA g ci, A = some ⟨gA, 0, none⟩ ∧ w.cell? ⟨gA, i, none⟩ = some (.slice (some ⟨g, 0, none⟩) (q.getD i []).length ci) ∧ (q.getD i []).length ≤ ci ∧ ci ≤ maxLen ∧ base ≤ g ∧ w.cell? ⟨g, k, none⟩ = some (.int .u8 ((q.getD i []).getD k 0)) ∧ w.frozen? ⟨g, k, none⟩ = false ∧
      ∀ z, isByte z → ∃ q', OwnTexts (w.setCell ⟨g, k, none⟩ (.int .u8 z)) base A n c q' ∧ q'.length = n ∧ ∀ j, (q'.getD j []).length = (q.getD j []).length := by
  obtain ⟨vs, hown, hl, hby, hin⟩ := h
  obtain ⟨Ai, ni, ci, hv, ho⟩ := hin i hi
  have hni : (q.getD i []).length = ni := by have := ho.1; rw [ints_length] at this; omega
  obtain ⟨gA, v0, rfl, _, hc, _, _⟩ := owns_at hown hi
  have hcA : w.cell? ⟨gA, i, none⟩ = some (.slice Ai ni ci) := by
    obtain ⟨b, o, e, _, hcc⟩ := Seq.own hown i _ hv
    cases e
    rwa [Nat.zero_add] at hcc
  obtain ⟨g, rfl, hbg, hcg, hfg, hset⟩ := owns_int_at ho (show k < ni by omega)
  have harg := Arg.own ho
  refine ⟨gA, g, ci, rfl, by rw [hni]; exact hcA, by rw [hni]; exact harg.cap, harg.max, hbg, hcg, hfg, fun z hz => ?_⟩
  refine ⟨(List.range n).map fun j => if (vs.getD j undef).ownBlock = some g then (q.getD j []).set k z else q.getD j [], ?_, by simp, fun j => ?_⟩
  · refine ⟨vs, ?_, by simp, ?_, fun j hj => ?_⟩
    · refine hown.kept (grownBy_set w g k _) (.inr fun e => ?_)
      have := owns_other (by decide) ho hown
      rcases this with h1 | h1
      · simp [Value.ownBlock] at h1
      · exact h1 (by simpa [Value.ownBlock] using e.symm)
    · intro zs hzs y hy
      obtain ⟨j, hj, rfl⟩ := List.mem_map.1 hzs
      have hjn := List.mem_range.1 hj
      have hb : ∀ y ∈ q.getD j [], isByte y := fun y hy => hby (q.getD j []) (by
        rw [List.getD_eq_getElem?_getD, List.getElem?_eq_getElem (by omega)]
        exact List.getElem_mem _) y hy
      split at hy
      · rcases List.mem_or_eq_of_mem_set hy with hy | rfl
        · exact hb y hy
        · exact hz
      · exact hb y hy
    · obtain ⟨Aj, nj, cj, hvj, hoj⟩ := hin j hj
      refine ⟨Aj, nj, cj, hvj, ?_⟩
      have e1 : ((List.range n).map fun j => if (vs.getD j undef).ownBlock = some g then (q.getD j []).set k z else q.getD j []).getD j [] = if (vs.getD j undef).ownBlock = some g then (q.getD j []).set k z else q.getD j [] := by
        simp [List.getD_eq_getElem?_getD, hj]
      have e2 : vs.getD j undef = .slice Aj nj cj := by rw [List.getD_eq_getElem?_getD, hvj]; rfl
      rw [e1, e2]
      split
      · rename_i hb
        rw [← set_ints]
        rcases hoj.2 with ⟨e, _⟩ | ⟨g', cap', cur', e, _⟩
        · rw [e] at hb; simp [Value.ownBlock] at hb
        · cases e
          have e3 : g' = g := by simpa [Value.ownBlock] using hb
          subst e3
          exact (hoj.stored k _).1
      · rename_i hb
        refine hoj.kept (grownBy_set w g k _) ?_
        rcases hy : (Value.slice Aj nj cj).ownBlock with _ | gc
        · exact .inl rfl
        · exact .inr (fun e => hb (by rw [hy, e]))
  · rcases Nat.lt_or_ge j n with hj | hj
    · have e1 : ((List.range n).map fun j => if (vs.getD j undef).ownBlock = some g then (q.getD j []).set k z else q.getD j []).getD j [] = if (vs.getD j undef).ownBlock = some g then (q.getD j []).set k z else q.getD j [] := by
        simp [List.getD_eq_getElem?_getD, hj]
      rw [e1]
      split
      · rw [List.length_set]
      · rfl
    · have e1 : ((List.range n).map fun j => if (vs.getD j undef).ownBlock = some g then (q.getD j []).set k z else q.getD j []).getD j [] = [] := by
        simp [List.getD_eq_getElem?_getD, hj]
      have e2 : q.getD j [] = [] := by simp [List.getD_eq_getElem?_getD, hl, hj]
      rw [e1, e2]

theorem getD_mem (l : List Int) (k : Nat) (h : k < l.length) : l.getD k 0 ∈ l := by
  rw [List.getD_eq_getElem?_getD, List.getElem?_eq_getElem h]
  exact List.getElem_mem h

set_option maxRecDepth 100000 in
set_option maxHeartbeats 3200000 in
theorem spoil_any (A : Option Addr) (n c base : Nat) (q : List Text) (w : World) (hq : OwnTexts w base A n c q) (hb : base ≤ w.heap.size) (hn : n ≤ 100) (hs : ∀ j, (q.getD j []).length ≤ 200) :
    Calls Try.prog 21 #[.slice A n c] w fun e w' => e = .returned (.tuple #[]) ∧ Below base w w' := by
  have HS := Lib.hid hs
  have HQ := Lib.hid hq
  clear hq hs
  go_enter Try.func21, Try.ntmps21
  go_wp2
  go_loopw [2] (fun x wr => ∃ i : Nat, i ≤ n ∧ x = .int .i64 i ∧ (∃ q', OwnTexts wr base A n c q' ∧ ∀ j, (q'.getD j []).length = (q.getD j []).length) ∧ Below base w wr) (fun x _ => n - (intOf x).toNat)
  case atStart => exact ⟨0, Nat.zero_le _, rfl, ⟨q, HQ.out, fun _ => rfl⟩, Below.refl _ _⟩
  case round =>
    obtain ⟨i, hi, rfl, ⟨q1, ho1, hl1⟩, hb1⟩ := hrel
    by_cases hin : i < n
    · have O1 := Lib.hid ho1
      have L1 := Lib.hid hl1
      have B1 := Lib.hid hb1
      have hsi := HS.out i
      obtain ⟨L, hL⟩ : ∃ L, L = (q.getD i []).length := ⟨_, rfl⟩
      rw [← hL] at hsi
      have HL := Lib.hid hL
      clear ho1 hl1 hb1 hL
      go_wp2
      go_loopw [3] (fun x wx => ∃ k : Nat, k ≤ L ∧ x = .int .i64 k ∧ (∃ q', OwnTexts wx base A n c q' ∧ ∀ j, (q'.getD j []).length = (q.getD j []).length) ∧ Below base w wx) (fun x _ => L - (intOf x).toNat)
      case atStart => exact ⟨0, Nat.zero_le _, rfl, ⟨q1, O1.out, L1.out⟩, B1.out⟩
      case round =>
        obtain ⟨k, hk, rfl, ⟨q2, ho2, hl2⟩, hb2⟩ := hrel
        have hli : (q2.getD i []).length = L := by rw [hl2 i, ← HL.out]
        by_cases hkL : k < L
        · obtain ⟨gA, g, ci, rfl, hcA, hci, hcm, hbg, hcg, hfg, hset⟩ := ho2.spot hin (k := k) (by rw [hli]; exact hkL)
          rw [hli] at hcA hci
          have hk2 : k < (q2.getD i []).length := by rw [hli]; exact hkL
          have hbyte : isByte ((q2.getD i []).getD k 0) := (Texts.of_own ho2).byte_at i _ (getD_mem _ k hk2)
          obtain ⟨x, hx⟩ : ∃ x, x = (q2.getD i []).getD k 0 := ⟨_, rfl⟩
          rw [← hx] at hcg hbyte
          have hx0 : 0 ≤ x := hbyte.1
          have hx1 : x < 256 := hbyte.2
          have SET := Lib.hid (hset ((x + 1) % 256) ⟨by omega, by omega⟩)
          have L2 := Lib.hid hl2
          have B2 := Lib.hid hb2
          have hw1 : IntKind.i64.wrap (i : Int) = (i : Int) := Lib.wrap_i64_small i (by omega)
          have hw2 : IntKind.i64.wrap (k : Int) = (k : Int) := Lib.wrap_i64_small k (by omega)
          have hi1 : (i : Int) < (n : Int) := by omega
          have hk1 : (k : Int) < (L : Int) := by omega
          clear hx hbyte hset hl2 hb2 ho2 hli hk2
          go_wp2
          refine wp_region_still_tail 14 (by kernel_rfl) (by kernel_rfl) ?_
          simp only [List.take_succ_cons, List.take_zero, List.drop_succ_cons, List.drop_zero]
          repeat still_step
          try refine wpStill_nil ?_
          change wpList _ _ _ _ _ wr.drew
          go_wp2
          go_roundw
          case rel =>
            obtain ⟨q3, ho3, _, hl3⟩ := SET.out
            refine ⟨k + 1, by omega, by go_num, ⟨q3, ?_, fun j => (hl3 j).trans (L2.out j)⟩, ?_⟩
            · exact (show OwnTexts (wr.setCell ⟨g, k, none⟩ (.int .u8 ((x + 1) % 256))).drew base (some ⟨gA, 0, none⟩) n c q3 from ho3.below (below_drewN (Below.refl _ _) 1))
            · exact (show Below base w (wr.setCell ⟨g, k, none⟩ (.int .u8 ((x + 1) % 256))).drew from below_drewN (B2.out.setCell (p := ⟨g, k, none⟩) hbg _) 1)
          case measure => simp [intOf]; omega
        · obtain rfl : k = L := by omega
          obtain ⟨b, o, Ai, ni, ci, hA, hlt, hc, ha⟩ := (Texts.of_own ho2).at_ i hin
          have hni : ni = k := by rw [← ha.len, hli]
          subst hni
          subst hA
          have O2 := Lib.hid ho2
          have L2 := Lib.hid hl2
          have B2 := Lib.hid hb2
          clear ho2 hl2 hb2 hli ha
          go_wp2
          go_roundw
          case rel => exact ⟨i + 1, by omega, by go_num, ⟨q2, O2.out, L2.out⟩, B2.out⟩
          case measure => simp [intOf]; omega
    · obtain rfl : i = n := by omega
      have B1 := Lib.hid hb1
      clear ho1 hl1 hb1
      go_wp2
      go_end0
      exact ⟨rfl, B1.out⟩

end Go.Proofs.Ytbbnfbclbhkneaa
