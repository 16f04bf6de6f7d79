/- Layer 5: the document's own: a disk in new memory. -/
import Derived.Test.YtkbeeknnfndjgaaDiskR3
import Derived.Test.YtkbeeknnfndjgaaStepDup
import Derived.Test.YtkbeeknnfndjgaaHeldTo
namespace Go.Proofs.Ytkbeeknnfndjgaa
open Go.RowKit
set_option linter.unusedVariables false

theorem take_next {α : Type} {z : α} {l : List α} {n k : Nat} (hl : l.length = n) (hk : k < n) : l.take (k + 1) = l.take k ++ [l.getD k z] := by
  rw [List.take_succ_eq_append_getElem (by rw [hl]; exact hk)]
  simp [List.getD_eq_getElem?_getD, show k < l.length by rw [hl]; exact hk]

set_option maxRecDepth 100000 in
set_option maxHeartbeats 6400000 in
theorem twin_any (A : Option Addr) (n c : Nat) (A' : Option Addr) (n' c' : Nat) (S : List Sec) (C : List Pnd) (w : World) (hq : Dsk w A n c A' n' c' S C) (hs : SmallD S C) :
    Calls Try.prog 23 #[diskV A n c A' n' c'] w fun e w' => ∃ B d B' d', e = .returned (diskV B n d B' n' d') ∧ OwnDsk w' w.heap.size B n d B' n' d' S C ∧ Below w.heap.size w w' := by
  obtain ⟨i0, hi0, hz0, hz1, hz2⟩ := info_parts byte_info
  have hml : (1000 : Nat) ≤ maxLen := by decide
  obtain ⟨x1, x2, hbel⟩ := boxes2 w A n c A' n' c' none 0 0 none 0 0
  have hz : ((w.alloc (.cells #[.slice A n c, .slice A' n' c'] 25)).alloc (.cells #[.slice none 0 0, .slice none 0 0] 25)).heap.size = w.heap.size + 2 := by simp
  have y1 := x1.grown (World.grownBy_alloc _ (.cells #[.slice none 0 0, .slice none 0 0] 25) none) (by simp)
  have y2 := x2.grown (World.grownBy_alloc _ (.cells #[.slice none 0 0, .slice none 0 0] 25) none) (by simp)
  have y3 := Blk.new ((w.alloc (.cells #[.slice A n c, .slice A' n' c'] 25)).alloc (.cells #[.slice none 0 0, .slice none 0 0] 25)) 25 [.slice none 0 0, .slice none 0 0]
  have hb3 := hbel.alloc hbel.size (.cells #[.slice none 0 0, .slice none 0 0] 25)
  rw [hz, show w.heap.size + 2 = w.heap.size + 1 + 1 from rfl] at y3
  have hn := hs.secs
  have hn' := hs.pnds
  rw [hq.secs.len] at hn
  rw [hq.pnds.len] at hn'
  have HQ := Lib.hid hq
  have SM1 := Lib.hid fun k (hk : k < n) => (show (S.getD k (false, [])).2.length ≤ 100 from by
    have hk' : k < S.length := by rw [hq.secs.len]; exact hk
    rw [List.getD_eq_getElem?_getD, List.getElem?_eq_getElem hk', Option.getD_some]
    exact hs.long _ (List.getElem_mem hk'))
  have SM2 := Lib.hid fun k (hk : k < n') => (show (C.getD k (0, [])).2.length ≤ 100 from by
    have hk' : k < C.length := by rw [hq.pnds.len]; exact hk
    rw [List.getD_eq_getElem?_getD, List.getElem?_eq_getElem hk', Option.getD_some]
    exact hs.wide _ (List.getElem_mem hk'))
  have TF1 := Lib.hid (show S.take n = S by rw [← hq.secs.len, List.take_length])
  have TF2 := Lib.hid (show C.take n' = C by rw [← hq.pnds.len, List.take_length])
  have TS1 := Lib.hid fun k (hk : k < n) => take_next (z := ((false, []) : Sec)) hq.secs.len hk
  have TS2 := Lib.hid fun k (hk : k < n') => take_next (z := ((0, []) : Pnd)) hq.pnds.len hk
  obtain ⟨w1, hw1⟩ : ∃ w1, w1 = ((w.alloc (.cells #[.slice A n c, .slice A' n' c'] 25)).alloc (.cells #[.slice none 0 0, .slice none 0 0] 25)).alloc (.cells #[.slice none 0 0, .slice none 0 0] 25) := ⟨_, rfl⟩
  have Y1 := Lib.hid y1
  have Y2 := Lib.hid y2
  have Y3 := Lib.hid y3
  have B1 := Lib.hid hb3
  clear x1 x2 hbel hz y1 y2 y3 hb3 hq hs
  go_enter Try.func23, Try.ntmps23
  go_wp2
  rw [← hw1] at Y1 Y2 Y3 B1 ⊢
  clear hw1
  -- gen_twin5
  -- gen_twin5
  -- gen_twin5
  -- gen_twin5
  -- gen_twin5
  -- gen_twin5
  -- gen_twin5
  -- gen_twin5
  go_loopw [4] (fun i wr => ∃ k : Nat, k ≤ n ∧ i = .int .i64 k ∧ ∃ A1 c1, OwnSecs wr (w.heap.size + 3) A1 k c1 (S.take k) ∧ Blk wr w.heap.size 25 [.slice A n c, .slice A' n' c'] ∧ Blk wr (w.heap.size + 1) 25 [.slice none 0 0, .slice none 0 0] ∧ Blk wr (w.heap.size + 1 + 1) 25 [.slice A1 k c1, .slice none 0 0] ∧ Below w.heap.size w wr) (fun i _ => n - (intOf i).toNat)
  case atStart => exact ⟨0, Nat.zero_le _, rfl, none, 0, OwnSecs.nil _ _, Y1.out, Y2.out, Y3.out, B1.out⟩
  case round =>
    obtain ⟨k, hk, rfl, A1, c1, hO, hx1, hx2, hx3, hB⟩ := hrel
    have q0 := hx1.cell 0
    simp only [List.getElem?_cons_zero] at q0
    by_cases hkn : k < n
    · have hki : (k : Int) < (n : Int) := by omega
      obtain ⟨b, o, Ai, ni, ci, rfl, hlt, hc, hx, ha⟩ := HQ.out.secs.at_ k hkn
      have hby := HQ.out.secs.byte_at k
      have hsm := SM1.out k hkn
      have hst := TS1.out k hkn
      have hlen := ha.len
      obtain ⟨el, hel⟩ : ∃ el, el = S.getD k (false, []) := ⟨_, rfl⟩
      rw [← hel] at hby hsm hst hlen hx ha
      obtain ⟨bad, t⟩ := el
      dsimp only at hby hsm hlen hx ha
      have hni : ni ≤ 100 := by rw [← hlen]; exact hsm
      obtain ⟨Q, hQ⟩ : ∃ Q, Q = S.take k := ⟨_, rfl⟩
      rw [← hQ] at hst hO
      have l0 := hx3.cell 0
      simp only [List.getElem?_cons_zero] at l0
      have hszd : w.heap.size + 3 ≤ wr.drew.heap.size := by have := hx3.lt; show _ ≤ wr.heap.size; omega
      have HST := Lib.hid hst
      have HBY := Lib.hid hby
      have HA := Lib.hid (show Arg wr.drew .u8 Ai ni ci t from (ha.below hB).below (below_drewN (Below.refl _ _) 1))
      have OD := Lib.hid (show OwnSecs wr.drew (w.heap.size + 3) A1 k c1 Q from hO.below (below_drewN (Below.refl _ _) 1))
      have BD := Lib.hid (show Below w.heap.size w wr.drew from below_drewN hB 1)
      have X1 := Lib.hid (show Blk wr.drew w.heap.size 25 [.slice (some ⟨b, o, none⟩) n c, .slice A' n' c'] from hx1)
      have X2 := Lib.hid (show Blk wr.drew (w.heap.size + 1) 25 [.slice none 0 0, .slice none 0 0] from hx2)
      have X3 := Lib.hid (show Blk wr.drew (w.heap.size + 1 + 1) 25 [.slice A1 k c1, .slice none 0 0] from hx3)
      have hcb := (hB.cell (p := ⟨b, o + k * 2, none⟩) hlt).trans hc
      have hxb := (hB.cell (p := ⟨b, o + k * 2 + 1, none⟩) hlt).trans hx
      have keepS : ∀ wx, Below (w.heap.size + 3) wr.drew wx → wx.cell? ⟨w.heap.size, 0, none⟩ = some (.slice (some ⟨b, o, none⟩) n c) ∧ wx.cell? ⟨b, o + k * 2, none⟩ = some (.slice Ai ni ci) ∧ wx.cell? ⟨b, o + k * 2 + 1, none⟩ = some (.bool bad) ∧ wx.cell? ⟨w.heap.size + 1 + 1, 0, none⟩ = some (.slice A1 k c1) := fun wx hx =>
        ⟨(hx.cell (p := ⟨w.heap.size, 0, none⟩) (by show w.heap.size < _; omega)).trans q0, (hx.cell (p := ⟨b, o + k * 2, none⟩) (by show b < _; omega)).trans hcb, (hx.cell (p := ⟨b, o + k * 2 + 1, none⟩) (by show b < _; omega)).trans hxb, (hx.cell (p := ⟨w.heap.size + 1 + 1, 0, none⟩) (by show w.heap.size + 1 + 1 < _; omega)).trans l0⟩
      have hHeld := keepS wr.drew (Below.refl _ _)
      clear hel hQ hst hby hsm hlen hx ha hO hx1 hx2 hx3 hB hc hcb hxb
      go_wp2_with fail
      refine wp_region_to 20 (fun w' => w'.cell? ⟨w.heap.size, 0, none⟩ = some (.slice (some ⟨b, o, none⟩) n c) ∧ w'.cell? ⟨b, o + k * 2, none⟩ = some (.slice Ai ni ci) ∧ w'.cell? ⟨b, o + k * 2 + 1, none⟩ = some (.bool bad) ∧ w'.cell? ⟨w.heap.size + 1 + 1, 0, none⟩ = some (.slice A1 k c1)) (by kernel_rfl) ?_
      refine wpAnyG_take (i := 0) (v := ?_) rfl (by kernel_rfl) (by kernel_rfl) (by kernel_rfl) (by kernel_rfl) (by kernel_rfl) rfl (fun _ _ _ h => h) (Or.inl ⟨by rfl, ?_⟩) hHeld ?_
      rotate_left
      · (intro w' hSw; (try dsimp only at hSw); go_simp; (try with_reducible rfl))
      simp only [Act.put, List.setIfInBounds_toArray]
      refine wpAnyG_take (i := 1) (v := ?_) rfl (by kernel_rfl) (by kernel_rfl) (by kernel_rfl) (by kernel_rfl) (by kernel_rfl) rfl (fun _ _ _ h => h) (Or.inl ⟨by rfl, ?_⟩) hHeld ?_
      rotate_left
      · (intro w' hSw; (try dsimp only at hSw); go_simp; (try with_reducible rfl))
      simp only [Act.put]
      refine wpAnyG_take (i := 3) (v := ?_) rfl (by kernel_rfl) (by kernel_rfl) (by kernel_rfl) (by kernel_rfl) (by kernel_rfl) rfl (fun _ _ _ h => h) (Or.inl ⟨by rfl, ?_⟩) hHeld ?_
      rotate_left
      · (intro w' hSw; (try dsimp only at hSw); go_simp; (try with_reducible rfl))
      simp only [Act.put]
      refine wpAnyG_take (i := 4) (v := ?_) rfl (by kernel_rfl) (by kernel_rfl) (by kernel_rfl) (by kernel_rfl) (by kernel_rfl) rfl (fun _ _ _ h => h) (Or.inl ⟨by rfl, ?_⟩) hHeld ?_
      rotate_left
      · (intro w' hSw; (try dsimp only at hSw); go_simp; (try with_reducible rfl))
      simp only [Act.put]
      refine wpAnyG_take (i := 5) (v := ?_) rfl (by kernel_rfl) (by kernel_rfl) (by kernel_rfl) (by kernel_rfl) (by kernel_rfl) rfl (fun _ _ _ h => h) (Or.inl ⟨by rfl, ?_⟩) hHeld ?_
      rotate_left
      · (intro w' hSw; (try dsimp only at hSw); go_simp; (try with_reducible rfl))
      simp only [Act.put]
      refine wpAnyG_take (i := 6) (v := ?_) rfl (by kernel_rfl) (by kernel_rfl) (by kernel_rfl) (by kernel_rfl) (by kernel_rfl) rfl (fun _ _ _ h => h) (Or.inl ⟨by rfl, ?_⟩) hHeld ?_
      rotate_left
      · (intro w' hSw; (try dsimp only at hSw); go_simp; (try with_reducible rfl))
      simp only [Act.put]
      refine wpAnyG_take (i := 7) (v := ?_) rfl (by kernel_rfl) (by kernel_rfl) (by kernel_rfl) (by kernel_rfl) (by kernel_rfl) rfl (fun _ _ _ h => h) (Or.inl ⟨by rfl, ?_⟩) hHeld ?_
      rotate_left
      · (intro w' hSw; (try dsimp only at hSw); go_simp; (try with_reducible rfl))
      simp only [Act.put]
      refine wpAnyG_take (i := 8) (v := ?_) rfl (by kernel_rfl) (by kernel_rfl) (by kernel_rfl) (by kernel_rfl) (by kernel_rfl) rfl (fun _ _ _ h => h) (Or.inl ⟨by rfl, ?_⟩) hHeld ?_
      rotate_left
      · (intro w' hSw; (try dsimp only at hSw); go_simp; (try with_reducible rfl))
      simp only [Act.put]
      refine wpAnyG_take (i := 10) (v := ?_) rfl (by kernel_rfl) (by kernel_rfl) (by kernel_rfl) (by kernel_rfl) (by kernel_rfl) rfl (fun _ _ _ h => h) (Or.inl ⟨by rfl, ?_⟩) hHeld ?_
      rotate_left
      · (intro w' hSw; (try dsimp only at hSw); go_simp; (try with_reducible rfl))
      simp only [Act.put]
      refine wpAnyG_take (i := 11) (v := ?_) rfl (by kernel_rfl) (by kernel_rfl) (by kernel_rfl) (by kernel_rfl) (by kernel_rfl) rfl (fun _ _ _ h => h) (Or.inl ⟨by rfl, ?_⟩) hHeld ?_
      rotate_left
      · (intro w' hSw; (try dsimp only at hSw); go_simp; (try with_reducible rfl))
      simp only [Act.put]
      refine wpAnyG_take (i := 12) (v := ?_) rfl (by kernel_rfl) (by kernel_rfl) (by kernel_rfl) (by kernel_rfl) (by kernel_rfl) rfl (fun _ _ _ h => h) (Or.inl ⟨by rfl, ?_⟩) hHeld ?_
      rotate_left
      · (intro w' hSw; (try dsimp only at hSw); go_simp; (try with_reducible rfl))
      simp only [Act.put]
      refine wpAnyG_take (i := 13) (v := ?_) rfl (by kernel_rfl) (by kernel_rfl) (by kernel_rfl) (by kernel_rfl) (by kernel_rfl) rfl (fun _ _ _ h => h) (Or.inl ⟨by rfl, ?_⟩) hHeld ?_
      rotate_left
      · (intro w' hSw; (try dsimp only at hSw); go_simp; (try with_reducible rfl))
      simp only [Act.put]
      refine wpAnyG_take (i := 14) (v := ?_) rfl (by kernel_rfl) (by kernel_rfl) (by kernel_rfl) (by kernel_rfl) (by kernel_rfl) rfl (fun _ _ _ h => h) (Or.inl ⟨by rfl, ?_⟩) hHeld ?_
      rotate_left
      · (intro w' hSw; (try dsimp only at hSw); go_simp; (try with_reducible rfl))
      simp only [Act.put]
      refine wpAnyG_take (i := 15) (v := ?_) rfl (by kernel_rfl) (by kernel_rfl) (by kernel_rfl) (by kernel_rfl) (by kernel_rfl) rfl (fun _ _ _ h => h) (Or.inl ⟨by rfl, ?_⟩) hHeld ?_
      rotate_left
      · (intro w' hSw; (try dsimp only at hSw); go_simp; (try with_reducible rfl))
      simp only [Act.put]
      refine wpAnyG_one (i := 2) (by kernel_rfl) rfl (fun K hK => ?_)
      go_simp
      refine hK.out _ _ (fun _ => keepS _ ((Below.refl _ _).alloc hszd _)) (fun hHeld => ?_)
      have hHeld := hHeld (by decide)
      clear hK K
      try simp only [Act.put, List.setIfInBounds_toArray, List.set_cons_zero, List.set_cons_succ]
      refine wpAnyG_one (i := 9) (by kernel_rfl) rfl (fun K hK => ?_)
      refine step_dup_g wr.drew (by rfl) (.tmp 15) (.tmp 21) _ (by rfl) 5 i0 _ 1 Try.underlying31 hi0 hz0 hz1 hz2 rfl (by rfl) Ai ni ci (ints .u8 t) (by rfl) (by rw [ints_length, HA.out.len]) HA.out.seq (ints_one _ _) (by omega) (by omega) ?_
      intro A2 c2 w2 hown2 hbX
      have hbY := hbX.mono hszd
      have hz2' := hbX.size
      refine hK.out _ _ (fun _ => keepS _ hbY) (fun hHeld => ?_)
      have hHeld := hHeld (by decide)
      clear hK K
      try simp only [Act.put, List.setIfInBounds_toArray]
      refine wpAnyG_take (i := 16) (v := ?_) rfl (by kernel_rfl) (by kernel_rfl) (by kernel_rfl) (by kernel_rfl) (by kernel_rfl) rfl (fun _ _ _ h => h) (Or.inl ⟨by rfl, ?_⟩) hHeld ?_
      rotate_left
      · (intro w' hSw; (try dsimp only at hSw); go_simp; (try with_reducible rfl))
      simp only [Act.put]
      refine wpAnyG_one (i := 17) (by kernel_rfl) rfl (fun K hK => ?_)
      go_simp
      refine hK.out _ _ (fun _ => keepS _ (hbY.alloc (Nat.le_trans hszd hz2') _)) (fun hHeld => ?_)
      have hHeld := hHeld (by decide)
      clear hK K
      try simp only [Act.put, List.setIfInBounds_toArray, List.set_cons_zero, List.set_cons_succ]
      refine wpAnyG_one (i := 18) (by kernel_rfl) rfl (fun K hK => ?_)
      refine step_sec wr.drew w2 (by rfl) (.tmp 14) (.tmp 30) (by rfl) (w.heap.size + 3) A1 k c1 Q (by rfl) (OD.out.below hbX) A2 ni c2 bad t HBY.out (owns_base hown2 hszd) (by rfl) (by omega) hbY hszd ?_
      intro g4 c4 w4 hO4 hb4 hg4
      have x3 := X3.out.below hb4 (by omega)
      have l4 := x3.cell 0
      have f4 := x3.free 0
      simp only [List.getElem?_cons_zero] at l4
      refine hK.out _ _ (fun _ => keepS _ hb4) (fun hHeld => ?_)
      have hHeld := hHeld (by decide)
      clear hK K
      try simp only [Act.put, List.setIfInBounds_toArray]
      refine wpAnyG_take (i := 19) (v := ?_) rfl (by kernel_rfl) (by kernel_rfl) (by kernel_rfl) (by kernel_rfl) (by kernel_rfl) rfl (fun _ _ _ h => h) (Or.inl ⟨by rfl, ?_⟩) hHeld ?_
      rotate_left
      · (intro w' hSw; (try dsimp only at hSw); go_simp; (try with_reducible rfl))
      simp only [Act.put]
      refine wpAnyG_one (i := 20) (by kernel_rfl) rfl (fun K hK => ?_)
      go_simp
      refine hK.out _ _ (fun h => absurd rfl h) (fun _ => ?_)
      clear hK K
      refine wpAnyG_done (by kernel_rfl) ?_ _
      have E4 := Lib.hid (hO4.box x3 (by decide) (by decide) 0 (.slice (some ⟨g4, 0, none⟩) (k + 1) c4))
      have Z1 := Lib.hid ((X1.out.below hb4 (by omega)).away (g' := w.heap.size + 1 + 1) (by omega) 0 (.slice (some ⟨g4, 0, none⟩) (k + 1) c4))
      have Z2 := Lib.hid ((X2.out.below hb4 (by omega)).away (g' := w.heap.size + 1 + 1) (by omega) 0 (.slice (some ⟨g4, 0, none⟩) (k + 1) c4))
      have Z3 := Lib.hid (x3.set 0 (.slice (some ⟨g4, 0, none⟩) (k + 1) c4))
      have B4 := Lib.hid (((BD.out.trans ((below_base hb4 (show w.heap.size ≤ w.heap.size + 3 by omega))))).setCell (p := ⟨w.heap.size + 1 + 1, 0, none⟩) (show w.heap.size ≤ w.heap.size + 1 + 1 by omega) (.slice (some ⟨g4, 0, none⟩) (k + 1) c4))
      clear keepS hHeld hO4 hb4 hg4 x3 l4 f4 hown2 hbX hbY hz2'
      go_wp2
      go_roundw
      case rel => exact ⟨k + 1, by omega, by go_num, _, _, by rw [HST.out]; exact E4.out, Z1.out, Z2.out, Z3.out, B4.out⟩
      case measure => simp [intOf]; omega
    · have hkn' : n = k := by omega
      subst hkn'
      rw [TF1.out] at hO
      have OS := Lib.hid hO
      have Y1 := Lib.hid hx1
      have Y2 := Lib.hid hx2
      have Y3 := Lib.hid hx3
      have B1 := Lib.hid hB
      obtain ⟨A0, hA0⟩ : ∃ x, x = A1 := ⟨_, rfl⟩
      obtain ⟨c0, hc0⟩ : ∃ x, x = c1 := ⟨_, rfl⟩
      rw [← hA0, ← hc0] at OS Y3
      clear hO hx1 hx2 hx3 hB hA0 hc0
      go_wp2
      go_loopw [5] (fun i wr => ∃ j : Nat, j ≤ n' ∧ i = .int .i64 j ∧ ∃ A1 c1, OwnPnds wr (w.heap.size + 3) A1 j c1 (C.take j) ∧ OwnSecs wr (w.heap.size + 3) A0 n c0 S ∧ Blk wr w.heap.size 25 [.slice A n c, .slice A' n' c'] ∧ Blk wr (w.heap.size + 1) 25 [.slice none 0 0, .slice none 0 0] ∧ Blk wr (w.heap.size + 1 + 1) 25 [.slice A0 n c0, .slice A1 j c1] ∧ Below w.heap.size w wr) (fun i _ => n' - (intOf i).toNat)
      case atStart => exact ⟨0, Nat.zero_le _, rfl, none, 0, OwnPnds.nil _ _, OS.out, Y1.out, Y2.out, Y3.out, B1.out⟩
      case round =>
        obtain ⟨j, hk, rfl, A1, c1, hO, hOS, hx1, hx2, hx3, hB⟩ := hrel
        have q0 := hx1.cell 1
        simp only [List.getElem?_cons_zero, List.getElem?_cons_succ] at q0
        by_cases hkn : j < n'
        · have hki : (j : Int) < (n' : Int) := by omega
          obtain ⟨b, o, Ai, ni, ci, rfl, hlt, hc, hx, ha⟩ := HQ.out.pnds.at_ j hkn
          have hby := HQ.out.pnds.byte_at j
          have hsm := SM2.out j hkn
          have hst := TS2.out j hkn
          have hlen := ha.len
          obtain ⟨el, hel⟩ : ∃ el, el = C.getD j (0, []) := ⟨_, rfl⟩
          rw [← hel] at hby hsm hst hlen hx ha
          obtain ⟨at_, t⟩ := el
          dsimp only at hby hsm hlen hx ha
          have hni : ni ≤ 100 := by rw [← hlen]; exact hsm
          obtain ⟨Q, hQ⟩ : ∃ Q, Q = C.take j := ⟨_, rfl⟩
          rw [← hQ] at hst hO
          have l0 := hx3.cell 1
          simp only [List.getElem?_cons_zero, List.getElem?_cons_succ] at l0
          have hszd : w.heap.size + 3 ≤ wr.drew.heap.size := by have := hx3.lt; show _ ≤ wr.heap.size; omega
          have HST := Lib.hid hst
          have HBY := Lib.hid hby
          have HA := Lib.hid (show Arg wr.drew .u8 Ai ni ci t from (ha.below hB).below (below_drewN (Below.refl _ _) 1))
          have OD := Lib.hid (show OwnPnds wr.drew (w.heap.size + 3) A1 j c1 Q from hO.below (below_drewN (Below.refl _ _) 1))
          have SD := Lib.hid (show OwnSecs wr.drew (w.heap.size + 3) A0 n c0 S from hOS.below (below_drewN (Below.refl _ _) 1))
          have BD := Lib.hid (show Below w.heap.size w wr.drew from below_drewN hB 1)
          have X1 := Lib.hid (show Blk wr.drew w.heap.size 25 [.slice A n c, .slice (some ⟨b, o, none⟩) n' c'] from hx1)
          have X2 := Lib.hid (show Blk wr.drew (w.heap.size + 1) 25 [.slice none 0 0, .slice none 0 0] from hx2)
          have X3 := Lib.hid (show Blk wr.drew (w.heap.size + 1 + 1) 25 [.slice A0 n c0, .slice A1 j c1] from hx3)
          have hcb := (hB.cell (p := ⟨b, o + j * 2 + 1, none⟩) hlt).trans hc
          have hxb := (hB.cell (p := ⟨b, o + j * 2, none⟩) hlt).trans hx
          have keepS : ∀ wx, Below (w.heap.size + 3) wr.drew wx → wx.cell? ⟨w.heap.size, 1, none⟩ = some (.slice (some ⟨b, o, none⟩) n' c') ∧ wx.cell? ⟨b, o + j * 2 + 1, none⟩ = some (.slice Ai ni ci) ∧ wx.cell? ⟨b, o + j * 2, none⟩ = some (.int .i64 at_) ∧ wx.cell? ⟨w.heap.size + 1 + 1, 1, none⟩ = some (.slice A1 j c1) := fun wx hx =>
            ⟨(hx.cell (p := ⟨w.heap.size, 1, none⟩) (by show w.heap.size < _; omega)).trans q0, (hx.cell (p := ⟨b, o + j * 2 + 1, none⟩) (by show b < _; omega)).trans hcb, (hx.cell (p := ⟨b, o + j * 2, none⟩) (by show b < _; omega)).trans hxb, (hx.cell (p := ⟨w.heap.size + 1 + 1, 1, none⟩) (by show w.heap.size + 1 + 1 < _; omega)).trans l0⟩
          have hHeld := keepS wr.drew (Below.refl _ _)
          clear hel hQ hst hby hsm hlen hx ha hO hx1 hx2 hx3 hB hc hcb hxb hOS
          go_wp2_with fail
          refine wp_region_to 20 (fun w' => w'.cell? ⟨w.heap.size, 1, none⟩ = some (.slice (some ⟨b, o, none⟩) n' c') ∧ w'.cell? ⟨b, o + j * 2 + 1, none⟩ = some (.slice Ai ni ci) ∧ w'.cell? ⟨b, o + j * 2, none⟩ = some (.int .i64 at_) ∧ w'.cell? ⟨w.heap.size + 1 + 1, 1, none⟩ = some (.slice A1 j c1)) (by kernel_rfl) ?_
          refine wpAnyG_take (i := 0) (v := ?_) rfl (by kernel_rfl) (by kernel_rfl) (by kernel_rfl) (by kernel_rfl) (by kernel_rfl) rfl (fun _ _ _ h => h) (Or.inl ⟨by rfl, ?_⟩) hHeld ?_
          rotate_left
          · (intro w' hSw; (try dsimp only at hSw); go_simp; (try with_reducible rfl))
          simp only [Act.put, List.setIfInBounds_toArray]
          refine wpAnyG_take (i := 1) (v := ?_) rfl (by kernel_rfl) (by kernel_rfl) (by kernel_rfl) (by kernel_rfl) (by kernel_rfl) rfl (fun _ _ _ h => h) (Or.inl ⟨by rfl, ?_⟩) hHeld ?_
          rotate_left
          · (intro w' hSw; (try dsimp only at hSw); go_simp; (try with_reducible rfl))
          simp only [Act.put]
          refine wpAnyG_take (i := 2) (v := ?_) rfl (by kernel_rfl) (by kernel_rfl) (by kernel_rfl) (by kernel_rfl) (by kernel_rfl) rfl (fun _ _ _ h => h) (Or.inl ⟨by rfl, ?_⟩) hHeld ?_
          rotate_left
          · (intro w' hSw; (try dsimp only at hSw); go_simp; (try with_reducible rfl))
          simp only [Act.put]
          refine wpAnyG_take (i := 3) (v := ?_) rfl (by kernel_rfl) (by kernel_rfl) (by kernel_rfl) (by kernel_rfl) (by kernel_rfl) rfl (fun _ _ _ h => h) (Or.inl ⟨by rfl, ?_⟩) hHeld ?_
          rotate_left
          · (intro w' hSw; (try dsimp only at hSw); go_simp; (try with_reducible rfl))
          simp only [Act.put]
          refine wpAnyG_take (i := 4) (v := ?_) rfl (by kernel_rfl) (by kernel_rfl) (by kernel_rfl) (by kernel_rfl) (by kernel_rfl) rfl (fun _ _ _ h => h) (Or.inl ⟨by rfl, ?_⟩) hHeld ?_
          rotate_left
          · (intro w' hSw; (try dsimp only at hSw); go_simp; (try with_reducible rfl))
          simp only [Act.put]
          refine wpAnyG_take (i := 5) (v := ?_) rfl (by kernel_rfl) (by kernel_rfl) (by kernel_rfl) (by kernel_rfl) (by kernel_rfl) rfl (fun _ _ _ h => h) (Or.inl ⟨by rfl, ?_⟩) hHeld ?_
          rotate_left
          · (intro w' hSw; (try dsimp only at hSw); go_simp; (try with_reducible rfl))
          simp only [Act.put]
          refine wpAnyG_take (i := 6) (v := ?_) rfl (by kernel_rfl) (by kernel_rfl) (by kernel_rfl) (by kernel_rfl) (by kernel_rfl) rfl (fun _ _ _ h => h) (Or.inl ⟨by rfl, ?_⟩) hHeld ?_
          rotate_left
          · (intro w' hSw; (try dsimp only at hSw); go_simp; (try with_reducible rfl))
          simp only [Act.put]
          refine wpAnyG_take (i := 7) (v := ?_) rfl (by kernel_rfl) (by kernel_rfl) (by kernel_rfl) (by kernel_rfl) (by kernel_rfl) rfl (fun _ _ _ h => h) (Or.inl ⟨by rfl, ?_⟩) hHeld ?_
          rotate_left
          · (intro w' hSw; (try dsimp only at hSw); go_simp; (try with_reducible rfl))
          simp only [Act.put]
          refine wpAnyG_take (i := 9) (v := ?_) rfl (by kernel_rfl) (by kernel_rfl) (by kernel_rfl) (by kernel_rfl) (by kernel_rfl) rfl (fun _ _ _ h => h) (Or.inl ⟨by rfl, ?_⟩) hHeld ?_
          rotate_left
          · (intro w' hSw; (try dsimp only at hSw); go_simp; (try with_reducible rfl))
          simp only [Act.put]
          refine wpAnyG_take (i := 10) (v := ?_) rfl (by kernel_rfl) (by kernel_rfl) (by kernel_rfl) (by kernel_rfl) (by kernel_rfl) rfl (fun _ _ _ h => h) (Or.inl ⟨by rfl, ?_⟩) hHeld ?_
          rotate_left
          · (intro w' hSw; (try dsimp only at hSw); go_simp; (try with_reducible rfl))
          simp only [Act.put]
          refine wpAnyG_take (i := 11) (v := ?_) rfl (by kernel_rfl) (by kernel_rfl) (by kernel_rfl) (by kernel_rfl) (by kernel_rfl) rfl (fun _ _ _ h => h) (Or.inl ⟨by rfl, ?_⟩) hHeld ?_
          rotate_left
          · (intro w' hSw; (try dsimp only at hSw); go_simp; (try with_reducible rfl))
          simp only [Act.put]
          refine wpAnyG_take (i := 12) (v := ?_) rfl (by kernel_rfl) (by kernel_rfl) (by kernel_rfl) (by kernel_rfl) (by kernel_rfl) rfl (fun _ _ _ h => h) (Or.inl ⟨by rfl, ?_⟩) hHeld ?_
          rotate_left
          · (intro w' hSw; (try dsimp only at hSw); go_simp; (try with_reducible rfl))
          simp only [Act.put]
          refine wpAnyG_take (i := 13) (v := ?_) rfl (by kernel_rfl) (by kernel_rfl) (by kernel_rfl) (by kernel_rfl) (by kernel_rfl) rfl (fun _ _ _ h => h) (Or.inl ⟨by rfl, ?_⟩) hHeld ?_
          rotate_left
          · (intro w' hSw; (try dsimp only at hSw); go_simp; (try with_reducible rfl))
          simp only [Act.put]
          refine wpAnyG_take (i := 14) (v := ?_) rfl (by kernel_rfl) (by kernel_rfl) (by kernel_rfl) (by kernel_rfl) (by kernel_rfl) rfl (fun _ _ _ h => h) (Or.inl ⟨by rfl, ?_⟩) hHeld ?_
          rotate_left
          · (intro w' hSw; (try dsimp only at hSw); go_simp; (try with_reducible rfl))
          simp only [Act.put]
          refine wpAnyG_one (i := 8) (by kernel_rfl) rfl (fun K hK => ?_)
          go_simp
          refine hK.out _ _ (fun _ => keepS _ ((Below.refl _ _).alloc hszd _)) (fun hHeld => ?_)
          have hHeld := hHeld (by decide)
          clear hK K
          try simp only [Act.put, List.setIfInBounds_toArray, List.set_cons_zero, List.set_cons_succ]
          refine wpAnyG_one (i := 15) (by kernel_rfl) rfl (fun K hK => ?_)
          refine step_dup_g wr.drew (by rfl) (.tmp 48) (.tmp 54) _ (by rfl) 5 i0 _ 1 Try.underlying31 hi0 hz0 hz1 hz2 rfl (by rfl) Ai ni ci (ints .u8 t) (by rfl) (by rw [ints_length, HA.out.len]) HA.out.seq (ints_one _ _) (by omega) (by omega) ?_
          intro A2 c2 w2 hown2 hbX
          have hbY := hbX.mono hszd
          have hz2' := hbX.size
          refine hK.out _ _ (fun _ => keepS _ hbY) (fun hHeld => ?_)
          have hHeld := hHeld (by decide)
          clear hK K
          try simp only [Act.put, List.setIfInBounds_toArray]
          refine wpAnyG_take (i := 16) (v := ?_) rfl (by kernel_rfl) (by kernel_rfl) (by kernel_rfl) (by kernel_rfl) (by kernel_rfl) rfl (fun _ _ _ h => h) (Or.inl ⟨by rfl, ?_⟩) hHeld ?_
          rotate_left
          · (intro w' hSw; (try dsimp only at hSw); go_simp; (try with_reducible rfl))
          simp only [Act.put]
          refine wpAnyG_one (i := 17) (by kernel_rfl) rfl (fun K hK => ?_)
          go_simp
          refine hK.out _ _ (fun _ => keepS _ (hbY.alloc (Nat.le_trans hszd hz2') _)) (fun hHeld => ?_)
          have hHeld := hHeld (by decide)
          clear hK K
          try simp only [Act.put, List.setIfInBounds_toArray, List.set_cons_zero, List.set_cons_succ]
          refine wpAnyG_one (i := 18) (by kernel_rfl) rfl (fun K hK => ?_)
          refine step_pnd wr.drew w2 (by rfl) (.tmp 41) (.tmp 57) (by rfl) (w.heap.size + 3) A1 j c1 Q (by rfl) (OD.out.below hbX) A2 ni c2 at_ t HBY.out (owns_base hown2 hszd) (by rfl) (by omega) hbY hszd ?_
          intro g4 c4 w4 hO4 hb4 hg4
          have x3 := X3.out.below hb4 (by omega)
          have l4 := x3.cell 1
          have f4 := x3.free 1
          simp only [List.getElem?_cons_zero, List.getElem?_cons_succ] at l4
          refine hK.out _ _ (fun _ => keepS _ hb4) (fun hHeld => ?_)
          have hHeld := hHeld (by decide)
          clear hK K
          try simp only [Act.put, List.setIfInBounds_toArray]
          refine wpAnyG_take (i := 19) (v := ?_) rfl (by kernel_rfl) (by kernel_rfl) (by kernel_rfl) (by kernel_rfl) (by kernel_rfl) rfl (fun _ _ _ h => h) (Or.inl ⟨by rfl, ?_⟩) hHeld ?_
          rotate_left
          · (intro w' hSw; (try dsimp only at hSw); go_simp; (try with_reducible rfl))
          simp only [Act.put]
          refine wpAnyG_one (i := 20) (by kernel_rfl) rfl (fun K hK => ?_)
          go_simp
          refine hK.out _ _ (fun h => absurd rfl h) (fun _ => ?_)
          clear hK K
          refine wpAnyG_done (by kernel_rfl) ?_ _
          have E4 := Lib.hid (hO4.box x3 (by decide) (by decide) 1 (.slice (some ⟨g4, 0, none⟩) (j + 1) c4))
          have Z1 := Lib.hid ((X1.out.below hb4 (by omega)).away (g' := w.heap.size + 1 + 1) (by omega) 1 (.slice (some ⟨g4, 0, none⟩) (j + 1) c4))
          have Z2 := Lib.hid ((X2.out.below hb4 (by omega)).away (g' := w.heap.size + 1 + 1) (by omega) 1 (.slice (some ⟨g4, 0, none⟩) (j + 1) c4))
          have Z3 := Lib.hid (x3.set 1 (.slice (some ⟨g4, 0, none⟩) (j + 1) c4))
          have B4 := Lib.hid (((BD.out.trans ((below_base hb4 (show w.heap.size ≤ w.heap.size + 3 by omega))))).setCell (p := ⟨w.heap.size + 1 + 1, 1, none⟩) (show w.heap.size ≤ w.heap.size + 1 + 1 by omega) (.slice (some ⟨g4, 0, none⟩) (j + 1) c4))
          have S4 := Lib.hid ((((SD.out.below hbX).below ((Below.refl _ _).alloc (Nat.le_refl _) _)).beside (OD.out.below hbX |>.below ((Below.refl _ _).alloc (Nat.le_refl _) _)) hg4).box x3 (by decide) (by decide) 1 (.slice (some ⟨g4, 0, none⟩) (j + 1) c4))
          clear keepS hHeld hO4 hb4 hg4 x3 l4 f4 hown2 hbX hbY hz2'
          go_wp2
          go_roundw
          case rel => exact ⟨j + 1, by omega, by go_num, _, _, by rw [HST.out]; exact E4.out, S4.out, Z1.out, Z2.out, Z3.out, B4.out⟩
          case measure => simp [intOf]; omega
        · obtain rfl : j = n' := by omega
          rw [TF2.out] at hO
          have e0 := hx3.cell 0
          have e1 := hx3.cell 1
          have r0 := hx2.cell 0
          have r1 := hx2.cell 1
          have g0 := hx2.free 0
          have g1 := hx2.free 1
          simp only [List.getElem?_cons_zero, List.getElem?_cons_succ] at e0 e1 r0 r1
          have OD := Lib.hid (show OwnDsk wr (w.heap.size + 3) A0 n c0 A1 j c1 S C from ⟨hOS, hO⟩)
          have R2 := Lib.hid hx2
          have BB := Lib.hid hB
          clear hO hOS hx1 hx2 hx3 hB
          go_wp2
          have z := R2.out.two (.slice A0 n c0) (.slice A1 j c1)
          have z0 := z.cell 0
          have z1 := z.cell 1
          simp only [List.getElem?_cons_zero, List.getElem?_cons_succ] at z0 z1
          have O3 := OD.out.two R2.out (.slice A0 n c0) (.slice A1 j c1)
          have B3 := below_two BB.out (show w.heap.size ≤ w.heap.size + 1 by omega) (.slice A0 n c0) (.slice A1 j c1)
          refine bodyPost_ret (v := diskV A0 n c0 A1 j c1) ?_ rfl ⟨A0, c0, A1, c1, rfl, O3.lower (by omega), B3⟩
          clear e0 e1 r0 r1 g0 g1
          simp [results, Try.f23, go_sem, z0, z1]

end Go.Proofs.Ytkbeeknnfndjgaa
