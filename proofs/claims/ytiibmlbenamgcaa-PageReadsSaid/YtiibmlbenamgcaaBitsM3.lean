/- Layer 3: the document's own All, Of, Put, Or, Minus: what they answer. -/
import Derived.Test.YtiibmlbenamgcaaBitsM2
namespace Go.Proofs.Ytiibmlbenamgcaa
open Go.RowKit
set_option linter.unusedVariables false
set_option maxRecDepth 100000

theorem make_bools (m : Nat) (h2 : m ≤ 16) (w : World) :
    (Instr.makeSlice 105 (.int .i64 (m : Int)) (.int .i64 (m : Int))).run Try.prog w = .ok (.slice (some ⟨w.heap.size, 0, none⟩) m m) (w.alloc (.cells (bools (List.replicate m false)).toArray 4)) := by
  obtain ⟨i0, hi0, hz0, hz1, hz2⟩ := info_parts bool_info
  have hmk := run_make1 (P := Try.prog) 105 4 i0 _ Try.underlying105 hi0 hz0 hz1 rfl m (by rw [hz2]; omega) (by simp only [maxLen]; omega) w
  have hrep : rep m (.bool false) = (bools (List.replicate m false)).toArray := by simp [rep, bools]
  rwa [hrep] at hmk
theorem own_bools (m : Nat) (h2 : m ≤ 16) (w : World) :
    (w.alloc (.cells (bools (List.replicate m false)).toArray 4)).ownsRow w.heap.size 4 1 (.slice (some ⟨w.heap.size, 0, none⟩) m m) m (bools (List.replicate m false)) :=
  (Blk.new w 4 (bools (List.replicate m false))).owns (Nat.le_refl _) (by simp [bools]) (Nat.le_trans h2 (by decide))
theorem rep_getD (m u : Nat) : (List.replicate m false).getD u false = false := by
  rw [List.getD_eq_getElem?_getD, List.getElem?_replicate]; split <;> rfl
theorem set_getD (bs : List Bool) (k u : Nat) (x : Bool) (hk : k < bs.length) : (bs.set k x).getD u false = if u = k then x else bs.getD u false := by
  rw [List.getD_eq_getElem?_getD, List.getElem?_set, List.getD_eq_getElem?_getD]
  by_cases h : k = u
  · subst h; simp [hk]
  · rw [if_neg h, if_neg (fun e => h e.symm)]
/-- One truth of a row of the call's own. -/
theorem owns_bool_at {w : World} {base : Nat} {e : TypeId} {A : Option Addr} {n c j : Nat} {bs : List Bool} (h : w.ownsRow base e 1 (.slice A n c) n (bools bs)) (hj : j < n) :
    ∃ g v, A = some ⟨g, 0, none⟩ ∧ base ≤ g ∧ w.cell? ⟨g, j, none⟩ = some v ∧ w.frozen? ⟨g, j, none⟩ = false ∧ ∀ x, (w.setCell ⟨g, j, none⟩ (.bool x)).ownsRow base e 1 (.slice A n c) n (bools (bs.set j x)) := by
  obtain ⟨g, v, rfl, hb, hc, hf, hset⟩ := owns_at h hj
  refine ⟨g, v, rfl, hb, hc, hf, fun x => ?_⟩
  have := hset (.bool x)
  rwa [show (bools bs).set j (.bool x) = bools (bs.set j x) from by simp [bools, List.map_set]] at this

set_option maxHeartbeats 1600000 in
theorem rFull_any (m : Nat) (w : World) (h1 : 1 ≤ m) (h2 : m ≤ 16) :
    Calls Try.prog 40 #[.int .i64 (m : Int)] w (OneRow .u8 5 w (made m (fun _ => true))) := by
  have hmk := make_bools m h2 w
  have hown := own_bools m h2 w
  have hbel : Below w.heap.size w (w.alloc (.cells (bools (List.replicate m false)).toArray 4)) := (Below.refl _ _).alloc (Nat.le_refl _) _
  obtain ⟨w1, hw1⟩ : ∃ w1, w1 = w.alloc (.cells (bools (List.replicate m false)).toArray 4) := ⟨_, rfl⟩
  rw [← hw1] at hmk hown hbel
  have OWN := Lib.hid hown
  have BEL := Lib.hid hbel
  clear hw1 hown hbel
  go_enter Try.func40, Try.ntmps40
  go_wp2
  go_loopw [4] (fun i wr => ∃ k : Nat, k ≤ m ∧ i = .int .i64 k ∧ (∃ bs : List Bool, bs.length = m ∧ (∀ u, u < m → bs.getD u false = decide (u < k)) ∧ wr.ownsRow w.heap.size 4 1 (.slice (some ⟨w.heap.size, 0, none⟩) m m) m (bools bs)) ∧ Below w.heap.size w wr) (fun i _ => m - (intOf i).toNat)
  case atStart => exact ⟨0, Nat.zero_le _, rfl, ⟨_, List.length_replicate, fun u _ => by rw [rep_getD]; simp, OWN.out⟩, BEL.out⟩
  case round =>
    obtain ⟨k, hk, rfl, ⟨bs, hbl, hbs, hown⟩, hbel⟩ := hrel
    have O := Lib.hid hown
    have B := Lib.hid hbel
    have HBS := Lib.hid hbs
    by_cases hkm : k < m
    · obtain ⟨g, v, hg, hbg, hc, hf, hset⟩ := owns_bool_at hown hkm
      cases hg
      have SET := Lib.hid (hset true)
      clear hown hbel hset hbs
      go_wp2
      go_roundw
      case rel =>
        refine ⟨k + 1, by omega, by go_num, ⟨_, ?_, fun u hu => ?_, SET.out⟩, B.out.setCell (p := ⟨w.heap.size, k, none⟩) (Nat.le_refl _) _⟩
        · rw [List.length_set]; exact hbl
        · rw [set_getD _ _ _ _ (by omega), HBS.out u hu]
          by_cases e : u = k
          · subst e; simp
          · rw [if_neg e, decide_eq_decide]; omega
      case measure => simp [intOf]; omega
    · obtain rfl : k = m := by omega
      have e : made k (fun t => bs.getD t false) = made k (fun _ => true) := made_congr fun t ht => by rw [HBS.out t ht]; simp [ht]
      have K := rMade_any k _ k bs wr (Seq.own O.out) hbl h1 h2
      rw [e] at K
      have K := Lib.hid K
      clear hown hbel hbs e
      go_wp2_with fail
      refine K.out.mono ?_
      rintro e w5 ⟨A5, c5, rfl, hown, hbel⟩
      have O5 := Lib.hid hown
      have B5 := Lib.hid (B.out.trans (hbel.mono B.out.size))
      clear hown hbel
      go_wp2
      go_ret
      exact ⟨A5, c5, rfl, owns_base O5.out B.out.size, B5.out⟩
end Go.Proofs.Ytiibmlbenamgcaa
