/- Layer 3, package bits: All and Of: what they make. -/
import Derived.Test.YtiibmlbenamgcaaBitsP
namespace Go.Proofs.Ytiibmlbenamgcaa
open Go.RowKit
set_option linter.unusedVariables false
set_option maxRecDepth 100000

/-- The first k of a list, marked. -/
def ofTo (m : Nat) (l : List Int) : Nat → List Int
  | 0 => none0 m
  | k + 1 => markL (ofTo m l k) (l.getD k 0).toNat
theorem ofTo_length (m : Nat) (l : List Int) (k : Nat) : (ofTo m l k).length = pgs m := by
  induction k with
  | zero => simp [ofTo, none0]
  | succ k ih => simp [ofTo, markL_length, ih]
theorem ofTo_byte (m : Nat) (l : List Int) (k : Nat) : ∀ z ∈ ofTo m l k, isByte z := by
  induction k with
  | zero => exact none0_byte m
  | succ k ih => exact markL_byte ih _
theorem hasT_ofTo (m : Nat) (l : List Int) (k : Nat) (hk : k ≤ l.length) (h : ∀ z ∈ l, 0 ≤ z ∧ z < m) (t : Nat) : hasT (ofTo m l k) t = (l.take k).contains (t : Int) := by
  induction k with
  | zero => simp [ofTo, hasT_none0]
  | succ k ih =>
    have hkl : k < l.length := by omega
    have hz := h l[k] (List.getElem_mem hkl)
    have hg : l.getD k 0 = l[k] := by simp [List.getD_eq_getElem?_getD, hkl]
    have e : (t = (l.getD k 0).toNat) ↔ ((t : Int) = l[k]) := by rw [hg]; omega
    unfold ofTo
    rw [hasT_mark _ _ _ (by rw [ofTo_length, hg]; exact pgs_le (by omega)), ih (by omega), List.take_succ_eq_append_getElem hkl]
    have e1 : (l.take k ++ [l[k]]).contains (t : Int) = ((l.take k).contains (t : Int) || ((t : Int) == l[k])) := by
      simp only [List.contains_append, List.contains_cons, List.contains_nil, Bool.or_false]
    rw [e1]
    congr 1
    rw [Bool.eq_iff_iff, decide_eq_true_iff, beq_iff_eq]
    exact e
theorem ofTo_all {m : Nat} {l : List Int} (h : ∀ z ∈ l, 0 ≤ z ∧ z < m) : ofTo m l l.length = made m (fun t => l.contains (t : Int)) := by
  refine (made_eq ⟨ofTo_length _ _ _, ofTo_byte _ _ _, fun t ht => ?_⟩ _ fun t _ => ?_).symm
  · rw [hasT_ofTo m l _ (Nat.le_refl _) h, List.take_length]
    rw [List.contains_eq_mem, decide_eq_false_iff_not]
    intro hm
    have := h _ hm
    omega
  · rw [hasT_ofTo m l _ (Nat.le_refl _) h, List.take_length]

/-- A new set without a track. -/
theorem make_none (m : Nat) (h2 : m ≤ 16) (w : World) :
    (Instr.makeSlice 22 (.int .i64 (pgs m : Nat)) (.int .i64 (pgs m : Nat))).run Try.prog w = .ok (.slice (some ⟨w.heap.size, 0, none⟩) (pgs m) (pgs m)) (w.alloc (.cells (ints .u8 (none0 m)).toArray 5)) := by
  obtain ⟨i0, hi0, hz0, hz1, hz2⟩ := info_parts byte_info
  have hp : pgs m ≤ 2 := by unfold pgs; omega
  have hmk := run_make1 (P := Try.prog) 22 5 i0 _ Try.underlying22 hi0 hz0 hz1 rfl (pgs m) (by rw [hz2]; omega) (by simp only [maxLen]; omega) w
  have hrep : rep (pgs m) (.int .u8 0) = (ints .u8 (none0 m)).toArray := by simp [rep, ints, none0]
  rwa [hrep] at hmk
theorem own_none (m : Nat) (h2 : m ≤ 16) (w : World) :
    (w.alloc (.cells (ints .u8 (none0 m)).toArray 5)).ownsRow w.heap.size 5 1 (.slice (some ⟨w.heap.size, 0, none⟩) (pgs m) (pgs m)) (pgs m) (ints .u8 (none0 m)) :=
  (Blk.new w 5 (ints .u8 (none0 m))).owns (Nat.le_refl _) (by simp [ints, none0]) (Nat.le_trans (show pgs m ≤ 2 by unfold pgs; omega) (by decide))
theorem grown_below {w0 w w' : World} {B : Nat} {base : Nat} {t : TypeId} {A : Option Addr} {n c : Nat} {xs : List Value} (hb : Below B w0 w) (hB : B ≤ base) (ho : w.ownsRow base t 1 (.slice A n c) n xs) (hs : B ≤ w.heap.size) (hg : w.grownBy w' (Value.slice A n c).ownBlock) : Below B w0 w' :=
  hb.grown hg hs (fun g e => by have := (ho.lt g e).1; omega)

theorem All_bad (n : Int) (w : World) (h : ¬ (1 ≤ n ∧ n ≤ 16)) :
    Calls Try.prog 23 #[.int .i64 n] w fun e w' => e = .returned (.tuple #[.slice none 0 0, .int .i64 2]) ∧ w = w' := by
  have M := Lib.hid (many_no n w h)
  clear h
  go_enter Try.func23, Try.ntmps23
  go_wp2_with fail
  refine M.out.mono ?_
  rintro e w' ⟨rfl, rfl⟩
  go_wp2
  go_ret2
  exact ⟨rfl, rfl⟩
set_option maxHeartbeats 800000 in
theorem All_ok (m : Nat) (w : World) (h1 : 1 ≤ m) (h2 : m ≤ 16) :
    Calls Try.prog 23 #[.int .i64 (m : Int)] w (RowOut .u8 5 w (made m (fun _ => true)) 0) := by
  have M := Lib.hid (many_yes m w (by omega) (by omega))
  have P := pages_any m w h1 h2
  have hmk := make_none m h2 w
  have hown := own_none m h2 w
  have hbel : Below w.heap.size w (w.alloc (.cells (ints .u8 (none0 m)).toArray 5)) := (Below.refl _ _).alloc (Nat.le_refl _) _
  have hpl : ∀ t, t < m → t / 8 < pgs m := fun t ht => pgs_le ht
  have hlen : (made m (fun _ => true)).length = pgs m := (made_isSet m _).len
  obtain ⟨w1, hw1⟩ : ∃ w1, w1 = w.alloc (.cells (ints .u8 (none0 m)).toArray 5) := ⟨_, rfl⟩
  rw [← hw1] at hmk hown hbel
  obtain ⟨p, hp⟩ : ∃ p, p = pgs m := ⟨_, rfl⟩
  rw [← hp] at P hmk hown hpl hlen
  have P := Lib.hid P
  have HL := Lib.hid hlen
  have HPL := Lib.hid hpl
  have OWN := Lib.hid hown
  have BEL := Lib.hid hbel
  clear hw1 hp hlen hpl hown hbel
  go_enter Try.func23, Try.ntmps23
  go_wp2_with fail
  refine M.out.mono ?_
  rintro e w' ⟨rfl, rfl⟩
  go_wp2_with fail
  refine P.out.mono ?_
  rintro e w' ⟨rfl, rfl⟩
  go_wp2_with fail
  go_loopw [13] (fun i wr => ∃ k : Nat, k ≤ m ∧ i = .int .i64 k ∧ wr.ownsRow w.heap.size 5 1 (.slice (some ⟨w.heap.size, 0, none⟩) p p) p (ints .u8 (madeTo m (fun _ => true) k)) ∧ Below w.heap.size w wr) (fun i _ => m - (intOf i).toNat)
  case atStart => exact ⟨0, Nat.zero_le _, rfl, OWN.out, BEL.out⟩
  case round =>
    obtain ⟨k, hk, rfl, hown, hbel⟩ := hrel
    by_cases hkm : k < m
    · have K := mark_any w.heap.size _ p p _ k wr hown (madeTo_byte _ _ _) (by omega) (HPL.out k hkm)
      have K := Lib.hid K
      have O := Lib.hid hown
      have B := Lib.hid hbel
      clear hown hbel
      go_wp2_with fail
      refine K.out.mono ?_
      rintro e w2 ⟨rfl, hown2, hgr2⟩
      have O2 := Lib.hid hown2
      have B2 := Lib.hid (grown_below B.out (Nat.le_refl _) O.out B.out.size hgr2)
      clear hown2 hgr2
      go_wp2
      go_roundw
      case rel => exact ⟨k + 1, by omega, by go_num, O2.out, B2.out⟩
      case measure => simp [intOf]; omega
    · obtain rfl : k = m := by omega
      have O := Lib.hid hown
      have B := Lib.hid hbel
      clear hown hbel
      go_wp2
      go_ret2
      refine ⟨some ⟨w.heap.size, 0, none⟩, p, by rw [HL.out]; rfl, ?_, B.out⟩
      rw [HL.out]
      exact O.out
/-- All, at all arguments. -/
theorem All_any (n : Int) (w : World) : Calls Try.prog 23 #[.int .i64 n] w (RowOut .u8 5 w (allB n) (manyE n)) := by
  unfold allB manyE
  by_cases h : 1 ≤ n ∧ n ≤ 16
  · rw [if_pos h, if_pos rfl]
    obtain ⟨m, rfl⟩ : ∃ m : Nat, n = m := ⟨n.toNat, by omega⟩
    rw [Int.toNat_natCast]
    exact All_ok m w (by omega) (by omega)
  · rw [if_neg h, if_neg (by decide)]
    refine (All_bad n w h).mono ?_
    rintro e w' ⟨rfl, rfl⟩
    exact RowOut.nil _ _ _ _

end Go.Proofs.Ytiibmlbenamgcaa
