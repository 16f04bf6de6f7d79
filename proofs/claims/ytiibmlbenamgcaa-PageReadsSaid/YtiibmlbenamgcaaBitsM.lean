/- Layer 3: the document's own sets made: of those that are told, of a list, of all; with a track, or without; two put together. -/
import Derived.Test.YtiibmlbenamgcaaBitsR
import Derived.Test.YtiibmlbenamgcaaCopy
namespace Go.Proofs.Ytiibmlbenamgcaa
open Go.RowKit
set_option linter.unusedVariables false
set_option maxRecDepth 100000

/-- Truths, as cells. -/
def bools (l : List Bool) : List Value := l.map Value.bool
theorem bools_length (l : List Bool) : (bools l).length = l.length := by simp [bools]
theorem bools_getD (l : List Bool) (j : Nat) (h : j < l.length) : (bools l)[j]? = some (.bool (l.getD j false)) := by simp [bools, h]
theorem bools_app (l : List Bool) (x : Bool) : bools (l ++ [x]) = bools l ++ [.bool x] := by simp [bools]
theorem bools_one (l : List Bool) : ∀ u ∈ bools l, u.oneCell' = true := by
  intro u hu
  obtain ⟨z, _, rfl⟩ := List.mem_map.1 hu
  rfl
theorem bool_info : (Try.prog.info? 4).map (fun i => (i.zero, i.size, i.bytes)) = some (some (.bool false), 1, 1) := by kernel_rfl
/-- What a call hands back: a row of its own, and nothing that was there has turned. -/
def OneRow (k : IntKind) (t : TypeId) (w : World) (zs : List Int) (e : Ending) (w' : World) : Prop :=
  ∃ A c, e = .returned (.slice A zs.length c) ∧ w'.ownsRow w.heap.size t 1 (.slice A zs.length c) zs.length (ints k zs) ∧ Below w.heap.size w w'

set_option maxRecDepth 100000 in
set_option maxHeartbeats 1600000 in
theorem rMade_any (m : Nat) (A : Option Addr) (c : Nat) (bs : List Bool) (w : World) (h : Seq w w.heap.size A (bools bs)) (hl : bs.length = m) (h1 : 1 ≤ m) (h2 : m ≤ 16) :
    Calls Try.prog 64 #[.int .i64 (m : Int), .slice A m c] w (OneRow .u8 5 w (made m (fun t => bs.getD t false))) := by
  have hmk := make_none m h2 w
  have hown := own_none m h2 w
  have hbel : Below w.heap.size w (w.alloc (.cells (ints .u8 (none0 m)).toArray 5)) := (Below.refl _ _).alloc (Nat.le_refl _) _
  have hpl : ∀ t, t < m → t / 8 < pgs m := fun t ht => pgs_le ht
  have hlen : (made m (fun t => bs.getD t false)).length = pgs m := (made_isSet m _).len
  have hq : ((m : Int) + 8 - 1) / 8 = (pgs m : Int) := by unfold pgs; omega
  have hp2 : pgs m ≤ 2 := by unfold pgs; omega
  obtain ⟨w1, hw1⟩ : ∃ w1, w1 = w.alloc (.cells (ints .u8 (none0 m)).toArray 5) := ⟨_, rfl⟩
  rw [← hw1] at hmk hown hbel
  obtain ⟨p, hp⟩ : ∃ p, p = pgs m := ⟨_, rfl⟩
  rw [← hp] at hmk hown hpl hlen hq hp2
  obtain ⟨f, hf⟩ : ∃ f : Nat → Bool, f = fun t => bs.getD t false := ⟨_, rfl⟩
  rw [← hf] at hlen ⊢
  have HF := Lib.hid hf
  have HL := Lib.hid hlen
  have HPL := Lib.hid hpl
  have OWN := Lib.hid hown
  have BEL := Lib.hid hbel
  have H := Lib.hid h
  have hml : (p : Int) ≤ 2 := by omega
  clear hw1 hp hlen hpl hown hbel h hf
  go_enter Try.func64, Try.ntmps64
  go_wp2
  clear hq
  go_loopw [6] (fun i wr => ∃ k : Nat, k ≤ m ∧ i = .int .i64 k ∧ wr.ownsRow w.heap.size 5 1 (.slice (some ⟨w.heap.size, 0, none⟩) p p) p (ints .u8 (madeTo m f k)) ∧ Below w.heap.size w wr) (fun i _ => m - (intOf i).toNat)
  case atStart => exact ⟨0, Nat.zero_le _, rfl, OWN.out, BEL.out⟩
  case round =>
    obtain ⟨k, hk, rfl, hown, hbel⟩ := hrel
    have O := Lib.hid hown
    have B := Lib.hid hbel
    by_cases hkm : k < m
    · have hst : madeTo m f (k + 1) = if f k then markL (madeTo m f k) k else madeTo m f k := rfl
      obtain ⟨ba, oa, rfl, hba, hac⟩ := (H.out.below hbel) k _ (bools_getD bs k (by omega))
      rw [show bs.getD k false = f k by rw [HF.out]] at hac
      obtain ⟨r, hr⟩ : ∃ r, r = f k := ⟨_, rfl⟩
      rw [← hr] at hac hst
      have HST := Lib.hid hst
      have MB := Lib.hid (madeTo_byte m f k)
      have MADD := Lib.hid (mark_add (f := f) hkm)
      clear hst hr hown hbel
      cases r with
      | false =>
        go_wp2
        go_roundw
        case rel => exact ⟨k + 1, by omega, by go_num, by rw [HST.out]; exact O.out, B.out⟩
        case measure => simp [intOf]; omega
      | true =>
        have htn := HPL.out k hkm
        obtain ⟨g, hg, hbg, hc, hf, hset⟩ := owns_int_at O.out htn
        cases hg
        rw [pg_cast MB.out] at hc
        have hp := pow_lt k
        have hx := pg_lt MB.out (k / 8)
        have hE : markL (madeTo m f k) k = (madeTo m f k).set (k / 8) ((pg (madeTo m f k) (k / 8) + 2 ^ (k % 8) : Nat) : Int) := by unfold markL; rw [MADD.out]
        have hxy : pg (madeTo m f k) (k / 8) + 2 ^ (k % 8) < 256 := by rw [← MADD.out]; exact or_byteB hx hp
        have T := power_any (k % 8) wr.drew (Nat.mod_lt _ (by decide))
        have hset := hset ((pg (madeTo m f k) (k / 8) + 2 ^ (k % 8) : Nat) : Int)
        rw [← hE] at hset
        obtain ⟨L2, hL2⟩ : ∃ L2, L2 = markL (madeTo m f k) k := ⟨_, rfl⟩
        rw [← hL2] at hset HST
        obtain ⟨x, hxe⟩ : ∃ x, x = pg (madeTo m f k) (k / 8) := ⟨_, rfl⟩
        obtain ⟨y, hye⟩ : ∃ y, y = 2 ^ (k % 8) := ⟨_, rfl⟩
        rw [← hxe, ← hye] at hset hxy
        rw [← hxe] at hc
        rw [← hye] at T
        have hset2 : (wr.drew.setCell ⟨w.heap.size, k / 8, none⟩ (.int .u8 ((x : Int) + (y : Int)))).ownsRow w.heap.size 5 1 (.slice (some ⟨w.heap.size, 0, none⟩) p p) p (ints .u8 L2) := hset
        obtain ⟨d, hd⟩ : ∃ d : Nat, d = k / 8 := ⟨_, rfl⟩
        obtain ⟨j, hj⟩ : ∃ j : Nat, j = k % 8 := ⟨_, rfl⟩
        rw [← hd] at hc htn hf hset2
        rw [← hj] at T
        have hd2 : (k : Int) / 8 = (d : Int) := by omega
        have hj2 : (k : Int) % 8 = (j : Int) := by omega
        have hj3 : (k : Int).tmod 8 = (j : Int) := by rw [Int.tmod_eq_emod_of_nonneg (by omega)]; exact hj2
        have hd3 : (k : Int).tdiv 8 = (d : Int) := by rw [Int.tdiv_eq_ediv_of_nonneg (by omega)]; exact hd2
        have T := Lib.hid (T.mono fun e w'' (h : e = .returned (.int .i64 (y : Int)) ∧ wr.drew = w'') => (⟨h.1, h.2.symm⟩ : e = .returned (.int .i64 (y : Int)) ∧ w'' = wr.drew))
        have SET := Lib.hid hset2
        have hwr : IntKind.i64.wrap (d : Int) = d := Lib.wrap_i64_small d (by omega)
        have hdp : (d : Int) < (p : Int) := by omega
        have hy0 : (y : Int) % 256 = y := by omega
        have hxy2 : ((x : Int) + (y : Int)) % 256 = (x : Int) + (y : Int) := by omega
        clear hset hset2 hE hp hx hxe hye hL2 MADD MB hd hj
        go_wp2
        refine wp_region_still_tail 14 (by kernel_rfl) (by kernel_rfl) ?_
        simp only [List.take_succ_cons, List.take_zero, List.drop_succ_cons, List.drop_zero]
        iterate 10 still_step
        still_call T.out
        iterate 3 still_step
        try refine wpStill_nil ?_
        change wpList _ _ _ _ _ wr.drew
        go_wp2
        go_roundw
        case rel => exact ⟨k + 1, by omega, by go_num, by rw [HST.out]; exact SET.out, (show Below w.heap.size w wr.drew from below_drewN B.out 1).setCell (p := ⟨w.heap.size, d, none⟩) (Nat.le_refl _) _⟩
        case measure => simp [intOf]; omega
    · obtain rfl : k = m := by omega
      clear hown hbel
      go_wp2
      go_ret
      refine ⟨some ⟨w.heap.size, 0, none⟩, p, by rw [HL.out]; rfl, ?_, B.out⟩
      rw [HL.out]
      exact O.out

theorem one_seq (w : World) (t : TypeId) (v : Value) (B b : Nat) (hb : b = w.heap.size) (hB : w.heap.size < B) : Seq (w.alloc (.cells #[v] t)) B (some ⟨b, 0, none⟩) [v] := by
  subst hb
  have h := (Blk.new w t [v]).seq 0 1
  exact Seq.more h hB
theorem range_snoc (f : Nat → Bool) (k : Nat) : bools ((List.range k).map f) ++ [.bool (f k)] = bools ((List.range (k + 1)).map f) := by
  rw [List.range_succ, List.map_append, List.map_singleton, bools_app]
theorem range_getD (f : Nat → Bool) (m t : Nat) (h : t < m) : ((List.range m).map f).getD t false = f t := by
  simp [List.getD_eq_getElem?_getD, h]
/-- What a call hands back: a row of truths of its own. -/
def BoolRow (w : World) (bs : List Bool) (m : Nat) (e : Ending) (w' : World) : Prop :=
  ∃ A c, e = .returned (.slice A m c) ∧ w'.ownsRow w.heap.size 4 1 (.slice A m c) m (bools bs) ∧ Below w.heap.size w w'

end Go.Proofs.Ytiibmlbenamgcaa
