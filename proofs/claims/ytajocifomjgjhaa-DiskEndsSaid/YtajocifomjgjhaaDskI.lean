/- Layer 5, package disk: the writes of a sector, the last one first. -/
import Derived.Test.YtajocifomjgjhaaFirst
import Derived.Test.YtajocifomjgjhaaDskX
namespace Go.Proofs.Ytajocifomjgjhaa
open Go.RowKit Go.Shelf
set_option linter.unusedVariables false
attribute [local go_sem] Oper.semAt_some

/-- A row of writes as a range over it hands them: of each its number and its text's value. -/
structure Hands (w : World) (B : Nat) (A : Option Addr) (k : Nat) (at_ : Nat → Int) (tx : Nat → Option Addr × Nat × Nat) : Prop where
  cell : ∀ i, i < k → ∃ b o, A = some ⟨b, o, none⟩ ∧ b < B ∧ w.cell? ⟨b, o + i * 2, none⟩ = some (.int .i64 (at_ i)) ∧ w.cell? ⟨b, o + i * 2 + 1, none⟩ = some (.slice (tx i).1 (tx i).2.1 (tx i).2.2)
theorem Hands.below {w w' : World} {B : Nat} {A : Option Addr} {k : Nat} {at_ : Nat → Int} {tx : Nat → Option Addr × Nat × Nat} (h : Hands w B A k at_ tx) (hb : Below B w w') : Hands w' B A k at_ tx :=
  ⟨fun i hi => by
    obtain ⟨b, o, e, hlt, h1, h2⟩ := h.cell i hi
    exact ⟨b, o, e, hlt, (hb.cell (p := ⟨b, _, none⟩) hlt).trans h1, (hb.cell (p := ⟨b, _, none⟩) hlt).trans h2⟩⟩
theorem Hands.of {w : World} {A : Option Addr} {n c : Nat} {C : List Pnd} (h : Pnds w A n c C) : ∃ tx : Nat → Option Addr × Nat × Nat, Hands w w.heap.size A n (fun i => (C.getD i (0, [])).1) tx ∧ ∀ i, i < n → Arg w .u8 (tx i).1 (tx i).2.1 (tx i).2.2 (C.getD i (0, [])).2 := by
  have each : ∀ i, i < n → ∃ v : Option Addr × Nat × Nat, (∃ b o, A = some ⟨b, o, none⟩ ∧ b < w.heap.size ∧ w.cell? ⟨b, o + i * 2, none⟩ = some (.int .i64 (C.getD i (0, [])).1) ∧ w.cell? ⟨b, o + i * 2 + 1, none⟩ = some (.slice v.1 v.2.1 v.2.2)) ∧ Arg w .u8 v.1 v.2.1 v.2.2 (C.getD i (0, [])).2 := fun i hi => by
    obtain ⟨b, o, Ai, ni, ci, e, hlt, hc, hx, ha⟩ := h.at_ i hi
    exact ⟨(Ai, ni, ci), ⟨b, o, e, hlt, hx, hc⟩, ha⟩
  have : ∃ f : Nat → Option Addr × Nat × Nat, ∀ i, i < n → (∃ b o, A = some ⟨b, o, none⟩ ∧ b < w.heap.size ∧ w.cell? ⟨b, o + i * 2, none⟩ = some (.int .i64 (C.getD i (0, [])).1) ∧ w.cell? ⟨b, o + i * 2 + 1, none⟩ = some (.slice (f i).1 (f i).2.1 (f i).2.2)) ∧ Arg w .u8 (f i).1 (f i).2.1 (f i).2.2 (C.getD i (0, [])).2 :=
    ⟨fun i => if hi : i < n then (each i hi).choose else (none, 0, 0), fun i hi => by
      simp only [dif_pos hi]
      exact (each i hi).choose_spec⟩
  obtain ⟨tx, htx⟩ := this
  exact ⟨tx, ⟨fun i hi => (htx i hi).1⟩, fun i hi => (htx i hi).2⟩

/-- The last r of k, the last one first. -/
def downR (k r : Nat) : List (Fin k) := ((List.finRange k).reverse).take r
theorem downR_zero (k : Nat) : downR k 0 = [] := rfl
theorem downR_succ {k m : Nat} (h : m < k) : downR k (k - m) = downR k (k - 1 - m) ++ [⟨m, h⟩] := by
  unfold downR
  have hl : ((List.finRange k).reverse).length = k := by simp
  rw [show k - m = (k - 1 - m) + 1 by omega, List.take_add_one]
  congr 1
  rw [List.getElem?_eq_getElem (by omega)]
  simp
  omega
theorem downR_all (k : Nat) : downR k k = (List.finRange k).reverse := by
  unfold downR
  rw [List.take_of_length_le (by simp)]
theorem downR_pre (k r : Nat) : downR k r <+: (List.finRange k).reverse := List.take_prefix _ _
theorem downR_len (k r : Nat) (h : r ≤ k) : (downR k r).length = r := by unfold downR; simp [h]

/-- What Backward hands to a round. -/
def encB {k : Nat} (at_ : Nat → Int) (tx : Nat → Option Addr × Nat × Nat) (x : Fin k) : Array Value := #[.int .i64 ((x.val : Nat) : Int), .agg #[.int .i64 (at_ x.val), .slice (tx x.val).1 (tx x.val).2.1 (tx x.val).2.2]]

theorem backward_in (n : Nat) (A : Option Addr) (k c : Nat) (w : World) :
    CallsIn Fence.wide n Try.prog 58 #[.slice A k c] w fun e w' => e = .returned (.func (.func 63) #[] #[.pointer (some ⟨w.heap.size, 0, none⟩)]) ∧ w' = w.alloc (.cells #[.slice A k c] 23) := by
  refine callsIn_of_wp Try.func58 rfl trivial ?_ rfl
  simp only [Try.ntmps58, List.size_toArray, List.length_cons, List.length_nil, Nat.reduceAdd, Nat.reduceSub, Array.replicate_succ, Array.replicate_zero, List.push_toArray, List.append_toArray, List.nil_append, List.cons_append]
  gi_wp2
  go_ret
  exact ⟨rfl, rfl⟩

set_option maxRecDepth 100000 in
set_option maxHeartbeats 2000000 in
theorem back1_in (n l B0 Bs : Nat) (A : Option Addr) (k c : Nat) (at_ : Nat → Int) (tx : Nat → Option Addr × Nat × Nat) (J Jx : List (Fin k) → World → Prop) (W : World) (hn : 1 ≤ n) (hk : k ≤ 100000)
    (hY : ∀ pre x W, J pre W → pre.length < k → YieldAt Fence.wide (n - 1) Try.prog l (encB at_ tx x) W fun e W' =>
      (e = .returned (.bool true) ∧ J (pre ++ [x]) W' ∧ Below B0 W W') ∨ (e = .returned (.bool false) ∧ Jx (pre ++ [x]) W'))
    (hBs : Bs < B0) (c1 : W.cell? ⟨Bs, 0, none⟩ = some (.slice A k c)) (hH : Hands W B0 A k at_ tx) (h0 : J [] W) :
    CallsIn Fence.wide n Try.prog 63 #[.func (.yield l) #[] #[], .pointer (some ⟨Bs, 0, none⟩)] W fun e W' => (∃ v, e = .returned v) ∧
      ((∃ ys, ys = (List.finRange k).reverse ∧ J ys W') ∨ (∃ pre, pre <+: (List.finRange k).reverse ∧ Jx pre W')) := by
  have HY := Lib.hid hY
  have HH := Lib.hid hH
  have C1 := Lib.hid c1
  have H0 := Lib.hid h0
  have hkm : IntKind.i64.wrap ((k : Int) - 1) = (k : Int) - 1 := by simp [IntKind.wrap_i64]; omega
  clear hY hH h0
  refine callsIn_of_wp Try.func63 rfl trivial ?_ rfl
  simp only [Try.ntmps63, List.size_toArray, List.length_cons, List.length_nil, Nat.reduceAdd, Nat.reduceSub, Array.replicate_succ, Array.replicate_zero, List.push_toArray, List.append_toArray, List.nil_append, List.cons_append]
  gi_wp2
  gi_loopw [3] (fun i wr => ((∃ m : Nat, m < k ∧ i = .int .i64 m ∧ J (downR k (k - 1 - m)) wr) ∨ (i = .int .i64 (-1) ∧ J (downR k k) wr)) ∧ Below B0 W wr) (fun i _ => (intOf i + 1).toNat)
  case atStart =>
    refine ⟨?_, Below.refl _ _⟩
    rcases Nat.eq_zero_or_pos k with h0 | hp
    · subst h0
      exact .inr ⟨rfl, H0.out⟩
    · refine .inl ⟨k - 1, by omega, by congr 1; omega, ?_⟩
      rw [show k - 1 - (k - 1) = 0 by omega, downR_zero]
      exact H0.out
  case round =>
    obtain ⟨hj, hkp⟩ := hrel
    have d1 := (hkp.cell (p := ⟨Bs, 0, none⟩) hBs).trans C1.out
    rcases hj with ⟨m, hm, rfl, hJ⟩ | ⟨rfl, hJ⟩
    · have hmi : (m : Int) < (k : Int) := by omega
      have hm0 : (0 : Int) ≤ (m : Int) := by omega
      have hwm : IntKind.i64.wrap ((m : Int) - 1) = (m : Int) - 1 := by simp [IntKind.wrap_i64]; omega
      obtain ⟨b, o, rfl, hlt, hcA, hcT⟩ := (HH.out.below hkp).cell m hm
      obtain ⟨fn, tmps, assign, body, hy, hR⟩ := HY.out (downR k (k - 1 - m)) ⟨m, hm⟩ wr hJ (by rw [downR_len _ _ (by omega)]; omega)
      unfold encB at hy
      dsimp only at hy
      have HR := Lib.hid hR
      have KP := Lib.hid hkp
      have DS := Lib.hid (downR_succ hm)
      clear hR hkp hJ
      gi_wp2
      refine HR.out.mono ?_
      rintro e W3 (⟨rfl, hJ3, hk3⟩ | ⟨rfl, hJx3⟩)
      · have J3 := Lib.hid hJ3
        have K3 := Lib.hid hk3
        clear hJ3 hk3 hy
        gi_wp2
        go_roundw
        case rel =>
          refine ⟨?_, KP.out.trans K3.out⟩
          have hJ4 := J3.out
          rw [← DS.out] at hJ4
          rcases m with _ | m
          · exact .inr ⟨rfl, by simpa using hJ4⟩
          · refine .inl ⟨m, by omega, by congr 1; omega, ?_⟩
            rw [show k - 1 - m = k - (m + 1) by omega]
            exact hJ4
        case measure => simp [intOf]
      · have J3 := Lib.hid hJx3
        clear hJx3 hy
        gi_wp2
        refine bodyPost_ret (results_none rfl _ _ _) rfl ?_
        exact ⟨⟨_, rfl⟩, .inr ⟨_, downR_pre k (k - m), by rw [DS.out]; exact J3.out⟩⟩
    · have J3 := Lib.hid hJ
      clear hJ hkp
      gi_wp2
      go_end0
      exact ⟨⟨_, rfl⟩, .inl ⟨_, rfl, by rw [← downR_all]; exact J3.out⟩⟩

end Go.Proofs.Ytajocifomjgjhaa
