/- Layer 4, package ring: the iterator over a part of a queue's texts: its contract. -/
import Derived.Test.YtbbnfbclbhkneaaRingP3
import Derived.Test.YtbbnfbclbhkneaaKept
namespace Go.Proofs.Ytbbnfbclbhkneaa
open Go.RowKit Go.Shelf
set_option linter.unusedVariables false
attribute [local go_sem] Oper.semAt_some

/-- A text's value at a place, going round. -/
abbrev txtV (s : Nat → Option Addr × Nat × Nat) (k H x : Nat) : Value := .slice (s ((H + x) % k)).1 (s ((H + x) % k)).2.1 (s ((H + x) % k)).2.2
/-- The numbers from one on, so many. -/
def upN (F j : Nat) : List Nat := (List.range j).map (F + ·)
theorem upN_succ (F j : Nat) : upN F (j + 1) = upN F j ++ [F + j] := by unfold upN; rw [List.range_succ, List.map_append]; rfl
theorem upN_mem {F j x : Nat} : x ∈ upN F j ↔ F ≤ x ∧ x < F + j := by
  unfold upN
  simp only [List.mem_map, List.mem_range]
  constructor
  · rintro ⟨a, h, rfl⟩; omega
  · rintro ⟨h1, h2⟩; exact ⟨x - F, by omega, by omega⟩
theorem upN_length (F j : Nat) : (upN F j).length = j := by simp [upN]
theorem upN_pre (F : Nat) {j t : Nat} (h : j ≤ t) : upN F j <+: upN F t := by
  obtain ⟨d, rfl⟩ : ∃ d, t = j + d := ⟨t - j, by omega⟩
  unfold upN
  rw [List.range_add, List.map_append]
  exact List.prefix_append _ _

/-- What a round tells: go on, or no more. -/
theorem two_ways {e : Ending} {P Q R : Prop} (h : (e = .returned (.bool true) ∧ P ∧ Q) ∨ (e = .returned (.bool false) ∧ R)) : ∃ bb : Bool, e = .returned (.bool bb) ∧ Hid ((bb = true ∧ P ∧ Q) ∨ (bb = false ∧ R)) := by
  rcases h with ⟨rfl, h1, h2⟩ | ⟨rfl, h1⟩
  · exact ⟨true, rfl, Lib.hid (.inl ⟨rfl, h1, h2⟩)⟩
  · exact ⟨false, rfl, Lib.hid (.inr ⟨rfl, h1⟩)⟩

theorem part_any (A : Option Addr) (n c : Nat) (h m f t : Int) (w : World) :
    Calls Try.prog 28 #[queueV A n c h m, .int .i64 f, .int .i64 t] w fun e w' =>
      e = .returned (.func (.func 34) #[] #[.pointer (some ⟨w.heap.size + 1, 0, none⟩), .pointer (some ⟨w.heap.size + 1 + 1, 0, none⟩), .pointer (some ⟨w.heap.size, 0, none⟩)]) ∧
      w' = ((w.alloc (.cells #[.slice A n c, .int .i64 h, .int .i64 m] 24)).alloc (.cells #[.int .i64 f] 3)).alloc (.cells #[.int .i64 t] 3) := by
  go_enter Try.func28, Try.ntmps28
  go_wp2
  go_ret
  exact ⟨rfl, rfl⟩

set_option maxRecDepth 100000 in
set_option maxHeartbeats 4000000 in
theorem part1_in (n l B0 B1 F T : Nat) (A : Option Addr) (k c H : Nat) (m : Int) (s : Nat → Option Addr × Nat × Nat) (J Jx : List Nat → World → Prop) (W : World) (hn : 2 ≤ n) (hB : B0 ≤ B1) (hk1 : 1 ≤ k) (hk : k ≤ 64) (hH : H < k) (hF : F ≤ T) (hT : T ≤ 64)
    (hY : ∀ pre x W, J pre W → pre.length < T - F → YieldAt Fence.wide (n - 1) Try.prog l #[txtV s k H x] W fun e W' =>
      (e = .returned (.bool true) ∧ J (pre ++ [x]) W' ∧ KpT B0 B1 W W') ∨ (e = .returned (.bool false) ∧ Jx (pre ++ [x]) W'))
    (B : Nat) (hJ : AbidesFrom B J)
    (c0 : W.cell? ⟨B1, 0, none⟩ = some (.slice A k c)) (c1 : W.cell? ⟨B1, 1, none⟩ = some (.int .i64 (H : Int))) (c2 : W.cell? ⟨B1, 2, none⟩ = some (.int .i64 m))
    (c3 : W.cell? ⟨B1 + 1, 0, none⟩ = some (.int .i64 (F : Int))) (c4 : W.cell? ⟨B1 + 2, 0, none⟩ = some (.int .i64 (T : Int)))
    (hA : Seq W B0 A ((List.range k).map fun i => Value.slice (s i).1 (s i).2.1 (s i).2.2)) (h0 : J [] W) :
    CallsIn Fence.wide n Try.prog 34 #[.func (.yield l) #[] #[], .pointer (some ⟨B1 + 1, 0, none⟩), .pointer (some ⟨B1 + 2, 0, none⟩), .pointer (some ⟨B1, 0, none⟩)] W fun e W' => (∃ v, e = .returned v) ∧
      ((∃ ys, ys = upN F (T - F) ∧ J ys W') ∨ (∃ pre, pre <+: upN F (T - F) ∧ Jx pre W')) := by
  obtain ⟨b, o, rfl, hbB, hcell⟩ := hA.at_ (by simp; omega)
  have HC := Lib.hid fun i (hi : i < k) => (show W.cell? ⟨b, o + i, none⟩ = some (.slice (s i).1 (s i).2.1 (s i).2.2) from hcell i _ (by simp [hi]))
  have HY := Lib.hid hY
  have HJ := Lib.hid hJ
  clear hY hJ hA hcell
  refine callsIn_of_wp Try.func34 rfl trivial ?_ rfl
  simp only [Try.ntmps34, List.size_toArray, List.length_cons, List.length_nil, Nat.reduceAdd, Nat.reduceSub, Array.replicate_succ, Array.replicate_zero, List.push_toArray, List.append_toArray, List.nil_append, List.cons_append]
  gi_wp2
  gi_loopw [5] (fun i wr => ∃ j : Nat, j ≤ T - F ∧ i = .int .i64 ((F + j : Nat) : Int) ∧ J (upN F j) wr ∧ KpT B0 B1 W wr) (fun i _ => T - (intOf i).toNat)
  case atStart => exact ⟨0, Nat.zero_le _, rfl, h0, KpT.refl _ _ _⟩
  case round =>
    obtain ⟨j, hj, rfl, hJs, hkp⟩ := hrel
    have d4 := (hkp ⟨B1 + 2, 0, none⟩ (.inr ⟨by show B1 ≤ B1 + 2; omega, by show B1 + 2 < _; omega⟩)).trans c4
    obtain ⟨x, hx⟩ : ∃ x, x = F + j := ⟨_, rfl⟩
    rw [← hx]
    by_cases hjt : x < T
    · have d0 := (hkp ⟨B1, 0, none⟩ (.inr ⟨Nat.le_refl _, by show B1 < _; omega⟩)).trans c0
      have d1 := (hkp ⟨B1, 1, none⟩ (.inr ⟨Nat.le_refl _, by show B1 < _; omega⟩)).trans c1
      have d2 := (hkp ⟨B1, 2, none⟩ (.inr ⟨Nat.le_refl _, by show B1 < _; omega⟩)).trans c2
      have hsz : B1 + 3 ≤ wr.heap.size := by
        have := World.block_lt_of_cell? wr _ d4
        show B1 + 2 < _
        exact this
      obtain ⟨p, hp⟩ : ∃ p, p = (H + x) % k := ⟨_, rfl⟩
      have hpk : p < k := by rw [hp]; exact Nat.mod_lt _ (by omega)
      have d5 := (hkp ⟨b, o + p, none⟩ (.inl hbB)).trans (HC.out p hpk)
      have hyx := fun W1 hJ1 => HY.out (upN F j) x W1 hJ1 (by rw [upN_length]; omega)
      have hsucc := upN_succ F j
      rw [← hx] at hsucc
      rw [show txtV s k H x = .slice (s p).1 (s p).2.1 (s p).2.2 by rw [hp]] at hyx
      rw [← hsucc] at hyx
      have BH := Lib.hid fun w2 => behind_any (some ⟨b, o, none⟩) k c H x w2 hk1 (by omega) (by omega) (by omega)
      rw [← hp] at BH
      have hpi : (p : Int) < (k : Int) := by omega
      obtain ⟨a1, ha1⟩ : ∃ a1, a1 = (s p).1 := ⟨_, rfl⟩
      obtain ⟨a2, ha2⟩ : ∃ a2, a2 = (s p).2.1 := ⟨_, rfl⟩
      obtain ⟨a3, ha3⟩ : ∃ a3, a3 = (s p).2.2 := ⟨_, rfl⟩
      rw [← ha1, ← ha2, ← ha3] at d5 hyx
      have HYX := Lib.hid hyx
      have JS := Lib.hid (HJ.out _ _ _ none hJs (grown_of_below (below_drewN (Below.refl _ _) 1)) (by simp))
      have KP := Lib.hid hkp
      have keepX : ∀ wx, Below wr.drew.heap.size wr.drew wx → wx.cell? ⟨B1, 0, none⟩ = some (.slice (some ⟨b, o, none⟩) k c) ∧ wx.cell? ⟨B1, 1, none⟩ = some (.int .i64 (H : Int)) ∧ wx.cell? ⟨B1, 2, none⟩ = some (.int .i64 m) ∧ wx.cell? ⟨b, o + p, none⟩ = some (.slice a1 a2 a3) := fun wx hx =>
        ⟨(hx.cell (p := ⟨B1, 0, none⟩) (by show B1 < wr.heap.size; omega)).trans d0, (hx.cell (p := ⟨B1, 1, none⟩) (by show B1 < wr.heap.size; omega)).trans d1, (hx.cell (p := ⟨B1, 2, none⟩) (by show B1 < wr.heap.size; omega)).trans d2, (hx.cell (p := ⟨b, o + p, none⟩) (by show b < wr.heap.size; omega)).trans d5⟩
      have HX := Lib.hid hx
      clear hkp hJs hyx hp hsucc ha1 ha2 ha3 c0 c1 c2 c3 c4 hx
      gi_wp2_with fail
      gi_region_with (first
        | (refine ⟨trivial, fun _ => (by omega), ?_⟩; gi_at_call 26; refine (callsIn_wide.2 (around_any _ _ _ _ _ _)).mono ?_; rintro e w2 ⟨rfl, hb2⟩; obtain ⟨q0, q1, q2, q5⟩ := keepX w2 hb2; obtain ⟨fn, tmps, assign, body, hy, hR⟩ := HYX.out w2 (HJ.out _ _ _ none JS.out (grown_of_below hb2) (by simp)); have HR := Lib.hid hR; clear hR)
        | (refine ⟨trivial, fun _ => (by omega), ?_⟩; gi_at_call 27; refine (callsIn_wide.2 (BH.out _)).mono ?_; rintro e w3 ⟨rfl, rfl⟩)
        | (refine ⟨fun _ => (by omega), ?_⟩; refine HR.out.mono ?_; rintro e W3 hh; obtain ⟨bb, rfl, HBB⟩ := two_ways hh; clear hh))
      all_goals
        have KK := Lib.hid (show KpT B0 B1 W _ from KP.out.trans ((KpT.drew wr).trans (KpT.below hb2 hB hsz)))
        clear HR hy q0 q1 q2 q5 hb2 keepX d0 d1 d2 d5 d4 JS KP
        have hb3 := HBB.out
        clear HBB
        rcases hb3 with ⟨rfl, hJ3, hk3⟩ | ⟨rfl, hJx3⟩
        · have J3 := Lib.hid hJ3
          have K3 := Lib.hid hk3
          clear hJ3 hk3
          gi_wp2
          go_roundw
          case rel => exact ⟨j + 1, by have := HX.out; omega, by rw [HX.out]; go_num, J3.out, KK.out.trans K3.out⟩
          case measure => simp [intOf]; omega
        · have J3 := Lib.hid hJx3
          clear hJx3
          gi_wp2
          refine bodyPost_ret (results_none rfl _ _ _) rfl ?_
          exact ⟨⟨_, rfl⟩, .inr ⟨upN F (j + 1), upN_pre F (by have := HX.out; omega), J3.out⟩⟩
    · have hjT : j = T - F := by omega
      have JS := Lib.hid hJs
      clear hkp hJs c0 c1 c2 c3 c4 hx
      gi_wp2
      go_end0
      exact ⟨⟨_, rfl⟩, .inl ⟨_, rfl, by rw [← hjT]; exact JS.out⟩⟩

end Go.Proofs.Ytbbnfbclbhkneaa
