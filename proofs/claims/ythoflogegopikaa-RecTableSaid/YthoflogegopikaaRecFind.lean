/- Layer 11: the document's Great and Find, at all arguments. -/
import Derived.Test.YthoflogegopikaaRecRows
import Derived.Laws.Tables
namespace Go.Proofs.Ythoflogegopikaa
open Go.RowKit
set_option linter.unusedVariables false

def ShortT (l : List Txt) (k : Nat) : Prop := ∀ y, y < k → (l.getD y []).length ≤ 100
def GreatOut (w : World) (l : List Txt) (n : Nat) (e : Ending) (w' : World) : Prop := ∃ b : Bool, e = .returned (.bool b) ∧ (b = false → n ≤ 100 ∧ ShortT l n) ∧ w' = w
theorem wpList_store_row {P : Program} {w : World} {ops : Array Oper} {rest : List Oper} {o : Oper} {a : Act} {Q : Exit → Act → World → Prop} (hw : Region.wanted o (yielded ops a.tmps) = true) (ty : TypeId) (x y : Operand) (ho : o.op = .store ty x y)
    (g : Nat) (cells : Array Value) (hx : a.eval x = .pointer (some ⟨g, 0, none⟩)) (hy : a.eval y = .agg cells) (t : TypeId) (old : Array Value) (hg : w.heap[g]? = some (.cells old t (0, 0))) (hi : (P.info? ty).map (·.size) = some cells.size)
    (hold : old.size = cells.size) (h1 : cells.all (·.oneCell') = true) (h : wpList P ops Q rest (a.put o.dst undef) (w.setRow g cells)) : wpList P ops Q (o :: rest) a w := by
  refine wpList_want hw fun K hK => ?_
  exact wp_store_row ty x y ho g cells hx hy t old hg hi hold h1 (hK _ _ h)
set_option maxRecDepth 100000 in
set_option maxHeartbeats 400000 in
/-- Great says no only where the texts are few and short. -/
theorem rgreat11_any (A : Option Addr) (n c : Nat) (l : List Txt) (w : World) (hl : Texts w A n c l) :
    Calls Try.prog 18 #[.slice A n c] w (GreatOut w l n) := by
  have hcm := Nat.le_trans hl.cap hl.max
  unfold maxLen at hcm
  have HL := Lib.hid hl
  clear hl
  go_enter Try.func18, Try.ntmps18
  go_wp2
  go_loopw [3] (fun i wr => ∃ k : Nat, k ≤ n ∧ k ≤ 100 ∧ i = .int .i64 k ∧ ShortT l k ∧ wr = w) (fun i _ => n - (intOf i).toNat)
  case atStart => exact ⟨0, Nat.zero_le _, Nat.zero_le _, rfl, fun y hy => by omega, rfl⟩
  case round =>
    obtain ⟨k, hk, hk1, rfl, hall, rfl⟩ := hrel
    by_cases hkn : k < n
    · have hki : (k : Int) < (n : Int) := by omega
      by_cases hk2 : k < 100
      · have hki2 : (k : Int) < 100 := by omega
        obtain ⟨b, o, Ai, ni, ci, rfl, hlt, hc, ha⟩ := HL.out.at_ k hkn
        have hni := ha.len
        have HALL := Lib.hid hall
        have HNI := Lib.hid hni
        clear ha hall hni
        by_cases hg : 100 < ni
        · have hgi : (100 : Int) < (ni : Int) := by omega
          go_wp2
          go_ret
          exact ⟨true, rfl, (fun h => by cases h), rfl⟩
        · have hgi : ¬ (100 : Int) < (ni : Int) := by omega
          go_wp2
          go_roundw
          case rel => exact ⟨k + 1, by omega, by omega, by go_num, fun y hy => by rcases Nat.lt_succ_iff_lt_or_eq.1 hy with h | rfl; exact HALL.out y h; rw [HNI.out]; omega, by trivial⟩
          case measure => simp [intOf]; omega
      · obtain rfl : k = 100 := by omega
        have hgi : (100 : Int) < (n : Int) := by omega
        clear hall
        go_wp2
        go_ret
        exact ⟨true, rfl, (fun h => by cases h), rfl⟩
    · obtain rfl : k = n := by omega
      have hgi : ¬ (100 : Int) < (k : Int) := by omega
      have HALL := Lib.hid hall
      clear hall
      go_wp2
      go_ret
      exact ⟨false, rfl, fun _ => ⟨hk1, HALL.out⟩, rfl⟩

def FindOut (w : World) (t : List Rc) (p : Int) (e : Ending) (w' : World) : Prop := e = .returned (.tuple #[recV (fdR t p), .bool (fdB t p)]) ∧ Below w.heap.size w w'
set_option maxRecDepth 100000 in
set_option maxHeartbeats 800000 in
theorem rfind11_any (A : Option Addr) (n c : Nat) (t : List Rc) (p : Int) (w : World) (ht : Recs w A n c t) (hn : n ≤ 100000) :
    Calls Try.prog 26 #[.slice A n c, .int .i64 p] w (FindOut w t p) := by
  unfold FindOut
  obtain ⟨x, hbel⟩ := rec_box w zR
  have hbel : Below w.heap.size w (w.alloc (.cells #[.int .i64 0, .int .u32 0, .int .u32 0, .int .i64 0, .int .u8 0, .int .i64 0, .bool false, .bool false] 24)) := hbel
  change Blk (w.alloc (.cells #[.int .i64 0, .int .u32 0, .int .u32 0, .int .i64 0, .int .u8 0, .int .i64 0, .bool false, .bool false] 24)) _ _ _ at x
  obtain ⟨v1, hv1⟩ : ∃ x, x = w.alloc (.cells #[.int .i64 0, .int .u32 0, .int .u32 0, .int .i64 0, .int .u8 0, .int .i64 0, .bool false, .bool false] 24) := ⟨_, rfl⟩
  rw [← hv1] at x hbel
  have X := Lib.hid x
  have hlt := x.lt
  have B := Lib.hid hbel
  have HT := Lib.hid (ht.below hbel)
  have M := rmayAll_any A n c t v1 HT.out hn
  have hlen := ht.len
  clear x hbel ht
  by_cases hm : mayTab t
  · rw [decide_eq_true hm] at M
    have M := Lib.hid M
    have HF := Lib.hid (show fdO t p = fR t p from if_pos hm)
    have AT := Lib.hid (fun wx (hx : Below v1.heap.size v1 wx) => at_any A n c t p wx (HT.out.below hx))
    clear hm hlen
    go_enter Try.func26, Try.ntmps26
    go_wp2_with fail
    rw [← hv1]
    clear hv1
    refine M.out.mono ?_
    rintro e w1 ⟨rfl, hb⟩
    have B1 := Lib.hid hb
    have X1 := X.out.below hb hlt
    have T1 := Lib.hid (HT.out.below hb)
    go_wp2_with fail
    refine (AT.out _ B1.out).mono ?_
    rintro e w2 ⟨⟨i, hi, hfi, rfl⟩ | ⟨hfi, rfl⟩, rfl⟩
    · obtain ⟨b, o, rfl, hlt2, d0, d1, d2, d3, d4, d5, d6, d7⟩ := T1.out.row hi
      obtain ⟨r, hr⟩ : ∃ r, r = t.getD i zR := ⟨_, rfl⟩
      rw [← hr] at d0 d1 d2 d3 d4 d5 d6 d7 hfi
      have HR := Lib.hid (show fdR t p = r from by unfold fdR; rw [HF.out, hfi]; rfl)
      have HB := Lib.hid (show fdB t p = true from by unfold fdB; rw [HF.out, hfi]; rfl)
      have HFI := Lib.hid hfi
      have HRR := Lib.hid hr
      have hi0 : ¬ (i : Int) < 0 := by omega
      clear hfi hr hb
      go_wp2_with fail
      refine (AT.out _ B1.out).mono ?_
      rintro e w3 ⟨⟨i2, hi2, hf2, rfl⟩ | ⟨hf2, _⟩, rfl⟩
      · obtain ⟨b, o, eA, hlt3, k0, k1, k2, k3, k4, k5, k6, k7⟩ := T1.out.row hi2
        injection eA with eA; injection eA with eA1 eA2 _; subst eA1; subst eA2
        have hs : t.getD i2 zR = r := by rw [HFI.out] at hf2; injection hf2 with hf2; exact hf2.symm
        rw [hs] at k0 k1 k2 k3 k4 k5 k6 k7
        clear hf2 hs d0 d1 d2 d3 d4 d5 d6 d7
        obtain ⟨rp, rb, re, rl, rh, rf, rq, ra⟩ := r
        have hz : Blk (w3.setRow w.heap.size (recL ⟨rp, rb, re, rl, rh, rf, rq, ra⟩).toArray) w.heap.size 24 (recL ⟨rp, rb, re, rl, rh, rf, rq, ra⟩) := setRow_heap w3 w.heap.size _ _ _ _ X1
        have BF := Lib.hid (below_setRow (B.out.trans (B1.out.mono B.out.size)) (Nat.le_refl _) (recL ⟨rp, rb, re, rl, rh, rf, rq, ra⟩).toArray)
        go_wp2_with (refine wpList_store_row (o := ⟨none, .store 24 (.tmp 4) (.tmp 21), _, _, _, _⟩) rfl 24 (.tmp 4) (.tmp 21) rfl w.heap.size (recL ⟨rp, rb, re, rl, rh, rf, rq, ra⟩).toArray rfl rfl 24 _ X1 (by kernel_rfl) rfl (by simp [recL, Value.oneCell']) ?_)
        obtain ⟨w5, hw5⟩ : ∃ x, x = w3.setRow w.heap.size (recL ⟨rp, rb, re, rl, rh, rf, rq, ra⟩).toArray := ⟨_, rfl⟩
        rw [← hw5] at hz BF
        rw [← hw5]
        clear hw5
        obtain ⟨z0, z1, z2, z3, z4, z5, z6, z7⟩ := Blk.rec (r := ⟨rp, rb, re, rl, rh, rf, rq, ra⟩) hz
        refine bodyPost_ret (v := .tuple #[recV ⟨rp, rb, re, rl, rh, rf, rq, ra⟩, .bool true]) ?_ rfl ⟨by rw [HR.out, HB.out], BF.out⟩
        simp [results, Try.f26, go_sem, z0, z1, z2, z3, z4, z5, z6, z7]
      · rw [HFI.out] at hf2; cases hf2
    · have HR := Lib.hid (show fdR t p = zR from by unfold fdR; rw [HF.out, hfi]; rfl)
      have HB := Lib.hid (show fdB t p = false from by unfold fdB; rw [HF.out, hfi]; rfl)
      have hz : Blk (w2.setRow w.heap.size (recL zR).toArray) w.heap.size 24 (recL zR) := setRow_heap w2 w.heap.size _ _ _ _ X1
      have BF := Lib.hid (below_setRow (B.out.trans (B1.out.mono B.out.size)) (Nat.le_refl _) (recL zR).toArray)
      clear hfi hb
      go_wp2_with (refine wpList_store_row (o := ⟨none, .store 24 (.tmp 4) (.tmp 15), _, _, _, _⟩) rfl 24 (.tmp 4) (.tmp 15) rfl w.heap.size (recL zR).toArray rfl rfl 24 _ X1 (by kernel_rfl) rfl (by simp [recL, Value.oneCell']) ?_)
      obtain ⟨w5, hw5⟩ : ∃ x, x = w2.setRow w.heap.size (recL zR).toArray := ⟨_, rfl⟩
      rw [← hw5] at hz BF
      rw [← hw5]
      clear hw5
      obtain ⟨z0, z1, z2, z3, z4, z5, z6, z7⟩ := Blk.rec (r := zR) hz
      unfold zR at z0 z1 z2 z3 z4 z5 z6 z7
      dsimp only at z0 z1 z2 z3 z4 z5 z6 z7
      refine bodyPost_ret (v := .tuple #[recV zR, .bool false]) ?_ rfl ⟨by rw [HR.out, HB.out], BF.out⟩
      simp [results, Try.f26, go_sem, zR, z0, z1, z2, z3, z4, z5, z6, z7]
  · rw [decide_eq_false hm] at M
    have M := Lib.hid M
    have HR := Lib.hid (show fdR t p = zR from by unfold fdR fdO; rw [if_neg hm]; rfl)
    have HB := Lib.hid (show fdB t p = false from by unfold fdB fdO; rw [if_neg hm]; rfl)
    clear hm hlen
    go_enter Try.func26, Try.ntmps26
    go_wp2_with fail
    rw [← hv1]
    clear hv1
    refine M.out.mono ?_
    rintro e w1 ⟨rfl, hb⟩
    have B1 := Lib.hid hb
    have X1 := X.out.below hb hlt
    have hz : Blk (w1.setRow w.heap.size (recL zR).toArray) w.heap.size 24 (recL zR) := setRow_heap w1 w.heap.size _ _ _ _ X1
    have BF := Lib.hid (below_setRow (B.out.trans (B1.out.mono B.out.size)) (Nat.le_refl _) (recL zR).toArray)
    clear hb
    go_wp2_with (refine wpList_store_row (o := ⟨none, .store 24 (.tmp 4) (.tmp 15), _, _, _, _⟩) rfl 24 (.tmp 4) (.tmp 15) rfl w.heap.size (recL zR).toArray rfl rfl 24 _ X1 (by kernel_rfl) rfl (by simp [recL, Value.oneCell']) ?_)
    obtain ⟨w5, hw5⟩ : ∃ x, x = w1.setRow w.heap.size (recL zR).toArray := ⟨_, rfl⟩
    rw [← hw5] at hz BF
    rw [← hw5]
    clear hw5
    obtain ⟨z0, z1, z2, z3, z4, z5, z6, z7⟩ := Blk.rec (r := zR) hz
    unfold zR at z0 z1 z2 z3 z4 z5 z6 z7
    dsimp only at z0 z1 z2 z3 z4 z5 z6 z7
    refine bodyPost_ret (v := .tuple #[recV zR, .bool false]) ?_ rfl ⟨by rw [HR.out, HB.out], BF.out⟩
    simp [results, Try.f26, go_sem, zR, z0, z1, z2, z3, z4, z5, z6, z7]
end Go.Proofs.Ythoflogegopikaa
