/- Layer 4: texts written over: every row of bytes, and all texts, keep their places and their lengths. -/
import Derived.Test.YtbbnfbclbhkneaaRingS
namespace Go.Proofs.Ytbbnfbclbhkneaa
open Go.RowKit
set_option linter.unusedVariables false

/-- Bytes written over: every row of bytes, and all texts, keep their places and their lengths. -/
structure Spoils (w w' : World) : Prop where
  row : ∀ (base : Nat) (A : Option Addr) (n c : Nat) (zs : List Int), (∀ z ∈ zs, isByte z) → w.ownsRow base 5 1 (.slice A n c) n (ints .u8 zs) → ∃ zs', (∀ z ∈ zs', isByte z) ∧ zs'.length = zs.length ∧ w'.ownsRow base 5 1 (.slice A n c) n (ints .u8 zs')
  txt : ∀ (base : Nat) (A : Option Addr) (n c : Nat) (q : List Text), OwnTexts w base A n c q → ∃ q', OwnTexts w' base A n c q' ∧ ∀ j, (q'.getD j []).length = (q.getD j []).length
  blk : ∀ (g : Nat) (t : TypeId) (cs : List Value), t ≠ 5 → Blk w g t cs → Blk w' g t cs
theorem Spoils.of_below {w w' : World} (h : Below w.heap.size w w') : Spoils w w' := ⟨fun _ _ _ _ zs hz ho => ⟨zs, hz, rfl, owns_below ho h⟩, fun _ _ _ _ q hq => ⟨q, hq.below h, fun _ => rfl⟩, fun _ _ _ _ hx => hx.below h hx.lt⟩
theorem Spoils.refl (w : World) : Spoils w w := Spoils.of_below (Below.refl _ _)
theorem Spoils.trans {a b c : World} (h : Spoils a b) (k : Spoils b c) : Spoils a c := by
  refine ⟨fun base A n cc zs hz ho => ?_, fun base A n cc q hq => ?_, fun g t cs ht hx => k.blk g t cs ht (h.blk g t cs ht hx)⟩
  · obtain ⟨z1, h1, h2, h3⟩ := h.row base A n cc zs hz ho
    obtain ⟨z2, k1, k2, k3⟩ := k.row base A n cc z1 h1 h3
    exact ⟨z2, k1, k2.trans h2, k3⟩
  · obtain ⟨q1, h1, h2⟩ := h.txt base A n cc q hq
    obtain ⟨q2, k1, k2⟩ := k.txt base A n cc q1 h1
    exact ⟨q2, k1, fun j => (k2 j).trans (h2 j)⟩

theorem row_spot {w : World} {b0 n0 c0 g : Nat} {xs0 : List Value} (k : Nat) (z : Int) {base : Nat} {A : Option Addr} {n c : Nat} {zs : List Int}
    (ho : w.ownsRow base 5 1 (.slice A n c) n (ints .u8 zs)) : (w.setCell ⟨g, k, none⟩ (.int .u8 z)).ownsRow base 5 1 (.slice A n c) n (ints .u8 (if (Value.slice A n c).ownBlock = some g then zs.set k z else zs)) := by
  split
  · rename_i hb
    rw [← set_ints]
    rcases ho.2 with ⟨e, _⟩ | ⟨g', cap', cur', e, _⟩
    · rw [e] at hb; simp [Value.ownBlock] at hb
    · cases e
      have e3 : g' = g := by simpa [Value.ownBlock] using hb
      subst e3
      exact (ho.stored k _).1
  · rename_i hb
    refine ho.kept (grownBy_set w g k _) ?_
    rcases hy : (Value.slice A n c).ownBlock with _ | gc
    · exact .inl rfl
    · exact .inr (fun e => hb (by rw [hy, e]))
theorem bytes_if {p : Prop} [Decidable p] {zs : List Int} (h : ∀ z ∈ zs, isByte z) (k : Nat) {z : Int} (hz : isByte z) : ∀ y ∈ (if p then zs.set k z else zs), isByte y := by
  intro y hy
  split at hy
  · rcases List.mem_or_eq_of_mem_set hy with hy | rfl
    · exact h y hy
    · exact hz
  · exact h y hy
theorem length_if {p : Prop} [Decidable p] (zs : List Int) (k : Nat) (z : Int) : (if p then zs.set k z else zs).length = zs.length := by split <;> simp

theorem Spoils.step {w : World} {b0 n0 c0 g : Nat} {xs0 : List Value} (h0 : w.ownsRow b0 5 1 (.slice (some ⟨g, 0, none⟩) n0 c0) n0 xs0) (k : Nat) {z : Int} (hz : isByte z) : Spoils w (w.setCell ⟨g, k, none⟩ (.int .u8 z)) := by
  refine ⟨fun base A n c zs hb ho => ⟨_, bytes_if hb k hz, length_if zs k z, row_spot (b0 := 0) (n0 := 0) (c0 := 0) (xs0 := []) k z ho⟩, fun base A n c q hq => ?_, fun g' t cs ht hx => hx.away (fun e => ?_) k _⟩
  rotate_left
  · subst e
    rcases h0.2 with ⟨e, _⟩ | ⟨g2, cap, cur, e, _, hg, _⟩
    · cases e
    · cases e
      unfold Blk at hx
      rw [hx] at hg
      simp at hg
      exact ht hg.2
  have HQ := hq
  obtain ⟨vs, hown, hl, hby, hin⟩ := hq
  refine ⟨(List.range n).map fun j => if (vs.getD j undef).ownBlock = some g then (q.getD j []).set k z else q.getD j [], ⟨vs, ?_, by simp, ?_, fun j hj => ?_⟩, fun j => ?_⟩
  · refine hown.kept (grownBy_set w g k _) (.inr fun e => ?_)
    have := owns_other (by decide) h0 hown
    rcases this with h1 | h1
    · simp [Value.ownBlock] at h1
    · exact h1 (by simpa [Value.ownBlock] using e.symm)
  · intro zs hzs
    obtain ⟨j, hj, rfl⟩ := List.mem_map.1 hzs
    exact bytes_if ((Texts.of_own HQ).byte_at j) k hz
  · obtain ⟨Aj, nj, cj, hvj, hoj⟩ := hin j hj
    refine ⟨Aj, nj, cj, hvj, ?_⟩
    have e1 : ((List.range n).map fun j => if (vs.getD j undef).ownBlock = some g then (q.getD j []).set k z else q.getD j []).getD j [] = if (vs.getD j undef).ownBlock = some g then (q.getD j []).set k z else q.getD j [] := by
      simp [List.getD_eq_getElem?_getD, hj]
    have e2 : vs.getD j undef = .slice Aj nj cj := by rw [List.getD_eq_getElem?_getD, hvj]; rfl
    rw [e1, e2]
    exact row_spot (b0 := 0) (n0 := 0) (c0 := 0) (xs0 := []) k z hoj
  · rcases Nat.lt_or_ge j n with hj | hj
    · have e1 : ((List.range n).map fun j => if (vs.getD j undef).ownBlock = some g then (q.getD j []).set k z else q.getD j []).getD j [] = if (vs.getD j undef).ownBlock = some g then (q.getD j []).set k z else q.getD j [] := by
        simp [List.getD_eq_getElem?_getD, hj]
      rw [e1]
      exact length_if _ k z
    · have e1 : ((List.range n).map fun j => if (vs.getD j undef).ownBlock = some g then (q.getD j []).set k z else q.getD j []).getD j [] = [] := by
        simp [List.getD_eq_getElem?_getD, hj]
      have e2 : q.getD j [] = [] := by simp [List.getD_eq_getElem?_getD, hl, hj]
      rw [e1, e2]

/-- One byte of texts of the call's own, and that all rows keep their places where it is written. -/
theorem OwnTexts.spot2 {w : World} {base : Nat} {A : Option Addr} {n c : Nat} {q : List Text} (h : OwnTexts w base A n c q) {i k : Nat} (hi : i < n) (hk : k < (q.getD i []).length) :
    ∃ gA g ci, A = some ⟨gA, 0, none⟩ ∧ w.cell? ⟨gA, i, none⟩ = some (.slice (some ⟨g, 0, none⟩) (q.getD i []).length ci) ∧ (q.getD i []).length ≤ ci ∧ ci ≤ maxLen ∧ base ≤ g ∧ w.cell? ⟨g, k, none⟩ = some (.int .u8 ((q.getD i []).getD k 0)) ∧ w.frozen? ⟨g, k, none⟩ = false ∧
      ∀ z, isByte z → Spoils w (w.setCell ⟨g, k, none⟩ (.int .u8 z)) := by
  obtain ⟨gA, g, ci, e, hc, h1, h2, h3, h4, h5, _⟩ := h.spot hi hk
  obtain ⟨vs, hown, hl, hby, hin⟩ := h
  obtain ⟨Ai, ni, ci', hv, ho⟩ := hin i hi
  subst e
  have hcA : w.cell? ⟨gA, i, none⟩ = some (.slice Ai ni ci') := by
    obtain ⟨b, o, e, _, hcc⟩ := Seq.own hown i _ hv
    cases e
    rwa [Nat.zero_add] at hcc
  rw [hcA] at hc
  injection hc with hc
  injection hc with e1 e2 e3
  subst e1
  exact ⟨gA, g, ci, rfl, by rw [hcA, e2, e3], h1, h2, h3, h4, h5, fun z hz => Spoils.step ho k hz⟩

set_option maxRecDepth 100000 in
set_option maxHeartbeats 3200000 in
theorem spoil_all (A : Option Addr) (n c base : Nat) (q : List Text) (w : World) (hq : OwnTexts w base A n c q) (hb : base ≤ w.heap.size) (hn : n ≤ 100) (hs : ∀ j, (q.getD j []).length ≤ 200) :
    Calls Try.prog 21 #[.slice A n c] w fun e w' => e = .returned (.tuple #[]) ∧ Below base w w' ∧ Spoils w w' := by
  have HS := Lib.hid hs
  have HQ := Lib.hid hq
  clear hq hs
  go_enter Try.func21, Try.ntmps21
  go_wp2
  go_loopw [2] (fun x wr => ∃ i : Nat, i ≤ n ∧ x = .int .i64 i ∧ Spoils w wr ∧ Below base w wr) (fun x _ => n - (intOf x).toNat)
  case atStart => exact ⟨0, Nat.zero_le _, rfl, Spoils.refl _, Below.refl _ _⟩
  case round =>
    obtain ⟨i, hi, rfl, hs1, hb1⟩ := hrel
    by_cases hin : i < n
    · have S1 := Lib.hid hs1
      have B1 := Lib.hid hb1
      have hsi := HS.out i
      obtain ⟨L, hL⟩ : ∃ L, L = (q.getD i []).length := ⟨_, rfl⟩
      rw [← hL] at hsi
      have HL := Lib.hid hL
      clear hs1 hb1 hL
      go_wp2
      go_loopw [3] (fun x wx => ∃ k : Nat, k ≤ L ∧ x = .int .i64 k ∧ Spoils w wx ∧ Below base w wx) (fun x _ => L - (intOf x).toNat)
      case atStart => exact ⟨0, Nat.zero_le _, rfl, S1.out, B1.out⟩
      case round =>
        obtain ⟨k, hk, rfl, hs2, hb2⟩ := hrel
        obtain ⟨q2, ho2, hl2⟩ := hs2.txt _ _ _ _ _ HQ.out
        have hli : (q2.getD i []).length = L := by rw [hl2 i, ← HL.out]
        by_cases hkL : k < L
        · obtain ⟨gA, g, ci, rfl, hcA, hci, hcm, hbg, hcg, hfg, hset⟩ := ho2.spot2 hin (k := k) (by rw [hli]; exact hkL)
          rw [hli] at hcA hci
          have hk2 : k < (q2.getD i []).length := by rw [hli]; exact hkL
          have hbyte : isByte ((q2.getD i []).getD k 0) := (Texts.of_own ho2).byte_at i _ (getD_mem _ k hk2)
          obtain ⟨x, hx⟩ : ∃ x, x = (q2.getD i []).getD k 0 := ⟨_, rfl⟩
          rw [← hx] at hcg hbyte
          have hx0 : 0 ≤ x := hbyte.1
          have hx1 : x < 256 := hbyte.2
          have SET := Lib.hid (hset ((x + 1) % 256) ⟨by omega, by omega⟩)
          have S2 := Lib.hid hs2
          have B2 := Lib.hid hb2
          have hw1 : IntKind.i64.wrap (i : Int) = (i : Int) := Lib.wrap_i64_small i (by omega)
          have hw2 : IntKind.i64.wrap (k : Int) = (k : Int) := Lib.wrap_i64_small k (by omega)
          have hi1 : (i : Int) < (n : Int) := by omega
          have hk1 : (k : Int) < (L : Int) := by omega
          clear hx hbyte hset hl2 hs2 hb2 ho2 hli hk2
          go_wp2
          refine wp_region_still_tail 14 (by kernel_rfl) (by kernel_rfl) ?_
          simp only [List.take_succ_cons, List.take_zero, List.drop_succ_cons, List.drop_zero]
          repeat still_step
          try refine wpStill_nil ?_
          change wpList _ _ _ _ _ wr.drew
          go_wp2
          go_roundw
          case rel =>
            refine ⟨k + 1, by omega, by go_num, ?_, ?_⟩
            · exact (show Spoils w (wr.setCell ⟨g, k, none⟩ (.int .u8 ((x + 1) % 256))).drew from (S2.out.trans SET.out).trans (Spoils.of_below (below_drewN (Below.refl _ _) 1)))
            · exact (show Below base w (wr.setCell ⟨g, k, none⟩ (.int .u8 ((x + 1) % 256))).drew from below_drewN (B2.out.setCell (p := ⟨g, k, none⟩) hbg _) 1)
          case measure => simp [intOf]; omega
        · obtain rfl : k = L := by omega
          obtain ⟨b, o, Ai, ni, ci, hA, hlt, hc, ha⟩ := (Texts.of_own ho2).at_ i hin
          have hni : ni = k := by rw [← ha.len, hli]
          subst hni
          subst hA
          have S2 := Lib.hid hs2
          have B2 := Lib.hid hb2
          clear ho2 hl2 hs2 hb2 hli ha
          go_wp2
          go_roundw
          case rel => exact ⟨i + 1, by omega, by go_num, S2.out, B2.out⟩
          case measure => simp [intOf]; omega
    · obtain rfl : i = n := by omega
      have B1 := Lib.hid hb1
      have S1 := Lib.hid hs1
      clear hs1 hb1
      go_wp2
      go_end0
      exact ⟨rfl, B1.out, S1.out⟩

end Go.Proofs.Ytbbnfbclbhkneaa
