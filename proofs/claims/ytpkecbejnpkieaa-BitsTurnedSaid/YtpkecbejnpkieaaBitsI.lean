/- Layer 3, package bits: the iterator over a set's tracks: its contract. -/
import Derived.RangeFuncNested
import Derived.RangeFuncBound
import Derived.RangeFuncCalls
import Derived.RangeFuncLeaves
import Derived.RangeFuncBox
import Derived.Shelf.Abstract
import Derived.Shelf.RegionOpen
import Derived.OwnWalkIn
import Derived.TacticsInMore
import Derived.LoopNIn
import Derived.LoopIn
import Derived.Test.YtpkecbejnpkieaaBitsT
namespace Go.Proofs.Ytpkecbejnpkieaa
open Go.RowKit Go.Shelf
set_option linter.unusedVariables false
attribute [local go_sem] Oper.semAt_some

/-- What a round keeps: what lay before the call, and the iterator's own three boxes. -/
def KpT (B0 B1 : Nat) (W W' : World) : Prop := ∀ p : Addr, (p.block < B0 ∨ (B1 ≤ p.block ∧ p.block < B1 + 3)) → W'.cell? p = W.cell? p
theorem KpT.refl (B0 B1 : Nat) (W : World) : KpT B0 B1 W W := fun _ _ => rfl
theorem KpT.trans {B0 B1 : Nat} {A B C : World} (h : KpT B0 B1 A B) (k : KpT B0 B1 B C) : KpT B0 B1 A C := fun p hp => (k p hp).trans (h p hp)
theorem KpT.grown {B0 B1 : Nat} {W W' : World} {row : Option Nat} (h : W.grownBy W' row) (hB : B0 ≤ B1) (hs : B1 + 3 ≤ W.heap.size) (hr : ∀ g, row = some g → B0 ≤ g ∧ (g < B1 ∨ B1 + 3 ≤ g)) : KpT B0 B1 W W' := fun p hp =>
  World.cell?_of_block (h.block p.block (by omega) (fun e => by have := hr _ e.symm; omega))
theorem KpT.putObj {B0 B1 : Nat} {W0 : World} (hB : B0 ≤ B1) (hs : B1 + 3 ≤ W0.heap.size) (W : World) (l : Nat) (o o' : Obj) (hl : W0.heap.size ≤ l) (h : W.heap[l]? = some o) (_ : o.isCells = false) (_ : o.isWalk = false) : KpT B0 B1 W (W.putObj l o') := fun p hp =>
  World.cell?_of_block (World.putObj_heap_other (by omega))

/-- The tracks among the first k looked at. -/
def trTo (m : Nat) (s : List Int) (f k : Nat) : List Nat := ((List.range k).map (fun i => (f + i) % m)).filter (hasT s)
theorem trTo_succ (m : Nat) (s : List Int) (f k : Nat) : trTo m s f (k + 1) = trTo m s f k ++ (if hasT s ((f + k) % m) then [(f + k) % m] else []) := by
  unfold trTo
  rw [List.range_succ, List.map_append, List.filter_append]
  simp only [List.map_cons, List.map_nil]
  congr 1
  split <;> simp_all
theorem trTo_pre (m : Nat) (s : List Int) (f k : Nat) (hk : k ≤ m) : trTo m s f k <+: trN m s f := by
  obtain ⟨d, rfl⟩ : ∃ d, m = k + d := ⟨m - k, by omega⟩
  unfold trTo trN
  rw [List.range_add, List.map_append, List.filter_append]
  exact List.prefix_append _ _

set_option maxRecDepth 100000 in
set_option maxHeartbeats 1000000 in
theorem tracks1_in (n l B0 B1 m f : Nat) (A : Option Addr) (k c : Nat) (s : List Int) (J Jx : List Nat → World → Prop) (W : World) (hn : 2 ≤ n) (hm1 : 1 ≤ m) (hm2 : m ≤ 16) (hf : f < m)
    (hY : ∀ pre x W, J pre W → pre.length < (trN m s f).length → YieldAt Fence.wide (n - 1) Try.prog l #[.int .i64 ((x : Nat) : Int)] W fun e W' =>
      (e = .returned (.bool true) ∧ J (pre ++ [x]) W' ∧ KpT B0 B1 W W') ∨ (e = .returned (.bool false) ∧ Jx (pre ++ [x]) W'))
    (B : Nat) (hJ : AbidesFrom B J)
    (c1 : W.cell? ⟨B1, 0, none⟩ = some (.int .i64 (m : Int))) (c2 : W.cell? ⟨B1 + 1, 0, none⟩ = some (.slice A k c)) (c3 : W.cell? ⟨B1 + 2, 0, none⟩ = some (.int .i64 (f : Int)))
    (hA : Seq W B0 A (ints .u8 s)) (hl : s.length = k) (hb : ∀ z ∈ s, isByte z) (hk : k = pgs m) (h0 : J [] W) :
    CallsIn Fence.wide n Try.prog 53 #[.func (.yield l) #[] #[], .pointer (some ⟨B1, 0, none⟩), .pointer (some ⟨B1 + 2, 0, none⟩), .pointer (some ⟨B1 + 1, 0, none⟩)] W fun e W' => (∃ v, e = .returned v) ∧
      ((∃ ys, ys = trN m s f ∧ J ys W') ∨ (∃ pre, pre <+: trN m s f ∧ Jx pre W')) := by
  have HB := Lib.hid hb
  have HY := Lib.hid hY
  have HJ := Lib.hid hJ
  have HA := Lib.hid hA
  have HK := Lib.hid hk
  clear hb hY hJ hA hk
  refine callsIn_of_wp Try.func53 rfl trivial ?_ rfl
  simp only [Try.ntmps53, List.size_toArray, List.length_cons, List.length_nil, Nat.reduceAdd, Nat.reduceSub, Array.replicate_succ, Array.replicate_zero, List.push_toArray, List.append_toArray, List.nil_append, List.cons_append]
  gi_wp2
  gi_loopw [8] (fun i wr => ∃ k' : Nat, k' ≤ m ∧ i = .int .i64 k' ∧ J (trTo m s f k') wr ∧ KpT B0 B1 W wr) (fun i _ => m - (intOf i).toNat)
  case atStart => exact ⟨0, Nat.zero_le _, rfl, h0, KpT.refl _ _ _⟩
  case round =>
    obtain ⟨j, hj, rfl, hJs, hkp⟩ := hrel
    by_cases hjm : j < m
    · have d1 := (hkp ⟨B1, 0, none⟩ (.inr ⟨Nat.le_refl _, by show B1 < _; omega⟩)).trans c1
      have d2 := (hkp ⟨B1 + 1, 0, none⟩ (.inr ⟨by show B1 ≤ B1 + 1; omega, by show B1 + 1 < _; omega⟩)).trans c2
      have d3 := (hkp ⟨B1 + 2, 0, none⟩ (.inr ⟨by show B1 ≤ B1 + 2; omega, by show B1 + 2 < _; omega⟩)).trans c3
      have hsq : Seq wr B0 A (ints .u8 s) := HA.out.keep fun p hp => hkp p (.inl hp)
      have hsucc := trTo_succ m s f j
      have hpre := trTo_pre m s f (j + 1) (by omega)
      obtain ⟨t, ht⟩ : ∃ t, t = (f + j) % m := ⟨_, rfl⟩
      rw [← ht] at hsucc
      have htm : t < m := by rw [ht]; exact Nat.mod_lt _ (by omega)
      have H := has_any A k c s t wr B0 hsq hl HB.out (by omega) (by rw [HK.out]; exact pgs_le htm)
      have hti : ((f : Int) + (j : Int)) % (m : Int) = (t : Int) := by rw [ht]; simp
      have hti2 : ((f : Int) + (j : Int)).tmod (m : Int) = (t : Int) := by rw [Int.tmod_eq_emod_of_nonneg (by omega)]; exact hti
      have hm0 : ¬ (m : Int) = 0 := by omega
      obtain ⟨r, hr⟩ : ∃ r, r = hasT s t := ⟨_, rfl⟩
      rw [← hr] at H hsucc
      have H := Lib.hid H
      have HS := Lib.hid hsucc
      have HP := Lib.hid hpre
      have KP := Lib.hid hkp
      have JS := Lib.hid hJs
      clear hkp hsucc hsq ht hr hpre hJs c1 c2 c3
      cases r with
      | true =>
        have hlen : (trTo m s f j).length < (trN m s f).length := by
          have := HP.out.length_le
          rw [HS.out] at this
          simp at this
          omega
        have HL := Lib.hid hlen
        clear hlen
        gi_wp2_with (refine ⟨trivial, fun _ => (by omega), ?_⟩; gi_at_call 45; refine (callsIn_wide.2 H.out).mono ?_; rintro e w2 ⟨rfl, q, rfl⟩; obtain ⟨fn, tmps, assign, body, hy, hR⟩ := HY.out (trTo m s f j) t (wr.drewN q) (HJ.out _ _ _ none JS.out (grown_of_below (below_drewN (Below.refl _ _) q)) (by simp)) HL.out; have HR := Lib.hid hR; clear hR)
        refine ⟨fun _ => (by omega), ?_⟩
        refine HR.out.mono ?_
        rintro e W3 (⟨rfl, hJ3, hk3⟩ | ⟨rfl, hJx3⟩)
        · have J3 := Lib.hid hJ3
          have K3 := Lib.hid hk3
          clear hJ3 hk3
          gi_wp2
          go_roundw
          case rel => exact ⟨j + 1, by omega, by go_num, by rw [HS.out]; exact J3.out, KP.out.trans (fun p hp => (K3.out p hp).trans rfl)⟩
          case measure => simp [intOf]; omega
        · have J3 := Lib.hid hJx3
          clear hJx3
          gi_wp2
          refine bodyPost_ret (results_none rfl _ _ _) rfl ?_
          exact ⟨⟨_, rfl⟩, .inr ⟨trTo m s f j ++ [t], by have := HP.out; rw [HS.out] at this; exact this, J3.out⟩⟩
      | false =>
        gi_wp2_with (refine ⟨trivial, fun _ => (by omega), ?_⟩; gi_at_call 45; refine (callsIn_wide.2 H.out).mono ?_; rintro e w2 ⟨rfl, q, rfl⟩)
        refine ⟨fun _ h => (by cases h), ?_⟩
        gi_wp2
        go_roundw
        case rel => exact ⟨j + 1, by omega, by go_num, by rw [HS.out]; simpa using HJ.out _ _ _ none JS.out (grown_of_below (below_drewN (Below.refl _ _) q)) (by simp), KP.out.trans (fun p hp => rfl)⟩
        case measure => simp [intOf]; omega
    · obtain rfl : j = m := by omega
      have JS := Lib.hid hJs
      clear hkp hJs c1 c2 c3
      gi_wp2
      go_end0
      exact ⟨⟨_, rfl⟩, .inl ⟨_, rfl, JS.out⟩⟩

end Go.Proofs.Ytpkecbejnpkieaa
