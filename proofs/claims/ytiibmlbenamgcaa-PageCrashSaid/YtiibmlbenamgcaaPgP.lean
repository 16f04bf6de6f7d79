/- Layer 13, the program: areNoughts, a page's text. -/
import Derived.Test.YtiibmlbenamgcaaPgMath
import Derived.Test.YtiibmlbenamgcaaDskSm
import Derived.Laws.BitsAllLaws
import Derived.Laws.BitsLemmas
import Derived.Lib.QuoteBits
namespace Go.Proofs.Ytiibmlbenamgcaa
open Go.RowKit
set_option linter.unusedVariables false
set_option maxRecDepth 100000

/-- A page, in its box. -/
abbrev pgL (p n a f : Int) : List Value := [.int .i64 p, .int .i64 n, .int .i64 a, .int .u8 f]
abbrev pgV (p n a f : Int) : Value := .agg #[.int .i64 p, .int .i64 n, .int .i64 a, .int .u8 f]
theorem Blk.pge {w : World} {g : Nat} {t : TypeId} {p n a f : Int} (h : Blk w g t (pgL p n a f)) : w.cell? ⟨g, 0, none⟩ = some (.int .i64 p) ∧ w.cell? ⟨g, 1, none⟩ = some (.int .i64 n) ∧ w.cell? ⟨g, 2, none⟩ = some (.int .i64 a) ∧ w.cell? ⟨g, 3, none⟩ = some (.int .u8 f) := ⟨h.cell 0, h.cell 1, h.cell 2, h.cell 3⟩
theorem Blk.fourP {w : World} {g : Nat} {t : TypeId} {p n a f : Int} (h : Blk w g t (pgL p n a f)) (p' n' a' f' : Int) : Blk ((((w.setCell ⟨g, 0, none⟩ (.int .i64 p')).setCell ⟨g, 1, none⟩ (.int .i64 n')).setCell ⟨g, 2, none⟩ (.int .i64 a')).setCell ⟨g, 3, none⟩ (.int .u8 f')) g t (pgL p' n' a' f') := (((h.set 0 _).set 1 _).set 2 _).set 3 _
/-- The box of a page. -/
theorem box_pge (w : World) (p n a f : Int) : Blk (w.alloc (.cells #[.int .i64 p, .int .i64 n, .int .i64 a, .int .u8 f] 60)) w.heap.size 60 (pgL p n a f) ∧ Below w.heap.size w (w.alloc (.cells #[.int .i64 p, .int .i64 n, .int .i64 a, .int .u8 f] 60)) :=
  ⟨Blk.new w 60 (pgL p n a f), (Below.refl _ _).alloc (Nat.le_refl _) _⟩

theorem all_zero {b : Txt} (h : b.length = 32) : (b.all fun z => decide (z = 0)) = decide (b = noughts) := by
  by_cases hb : b = noughts
  · subst hb; rw [decide_eq_true rfl]; decide
  · rw [decide_eq_false hb, List.all_eq_false]
    refine Classical.byContradiction fun hno => hb ?_
    have hall : ∀ z ∈ b, z = 0 := fun z hz => Classical.byContradiction fun hne => hno ⟨z, hz, by simpa using hne⟩
    rw [List.eq_replicate_iff.2 ⟨h, hall⟩]
    rfl

theorem arenoughts_any (A : Option Addr) (n c : Nat) (b : Txt) (w : World) (h : Arg w .u8 A n c b) :
    Calls Try.prog 53 #[.slice A n c] w fun e w' => e = .returned (.bool (b.all fun z => decide (z = 0))) ∧ w' = w := by
  have hl := h.len
  have hcm := Nat.le_trans h.cap h.max
  unfold maxLen at hcm
  have YES : (∀ y, y < n → b.getD y 0 = 0) → (b.all fun z => decide (z = 0)) = true := fun hall => by
    rw [List.all_eq_true]
    intro z hz
    obtain ⟨k, hk, rfl⟩ := List.getElem_of_mem hz
    have := hall k (by omega)
    rw [List.getD_eq_getElem?_getD, List.getElem?_eq_getElem hk, Option.getD_some] at this
    rw [decide_eq_true_iff]
    exact this
  have NO : ∀ y, y < n → b.getD y 0 ≠ 0 → (b.all fun z => decide (z = 0)) = false := fun y hy hne => by
    rw [List.all_eq_false]
    refine ⟨b[y]'(by omega), List.getElem_mem _, ?_⟩
    rw [List.getD_eq_getElem?_getD, List.getElem?_eq_getElem (by omega), Option.getD_some] at hne
    rw [decide_eq_true_iff]
    exact hne
  have YES := Lib.hid YES
  have NO := Lib.hid NO
  have H := Lib.hid h
  obtain ⟨R, hR⟩ : ∃ R, R = b.all fun z => decide (z = 0) := ⟨_, rfl⟩
  rw [← hR] at YES NO ⊢
  clear h hR
  go_enter Try.func53, Try.ntmps53
  go_wp2
  go_loop [8] (fun i => ∃ k : Nat, k ≤ n ∧ i = .int .i64 k ∧ ∀ y, y < k → b.getD y 0 = 0) (fun i => n - (intOf i).toNat)
  case atStart => exact ⟨0, Nat.zero_le _, rfl, fun y hy => by omega⟩
  case round =>
    obtain ⟨k, hk, rfl, hall⟩ := hrel
    have ALL := Lib.hid hall
    clear hall
    by_cases hkn : k < n
    · have hki : (k : Int) < (n : Int) := by omega
      obtain ⟨bb, o, rfl, _, hc⟩ := H.out.seq.int (j := k) (by omega)
      obtain ⟨z, hz⟩ : ∃ z, z = b.getD k 0 := ⟨_, rfl⟩
      rw [← hz] at hc
      by_cases h0 : z = 0
      · have HZ := Lib.hid (hz.symm.trans h0)
        have hq : (z != 0) = false := by rw [h0]; rfl
        clear hz h0
        go_wp2
        go_round
        case rel =>
          refine ⟨k + 1, by omega, by go_num, fun y hy => ?_⟩
          rcases Nat.lt_or_ge y k with h' | h'
          · exact ALL.out y h'
          · obtain rfl : y = k := by omega
            exact HZ.out
        case measure => simp [intOf]; omega
      · have HR := Lib.hid (NO.out k hkn (by rw [← hz]; exact h0))
        have hq : (z != 0) = true := bne_iff_ne.2 h0
        clear hz h0
        go_wp2
        go_ret
        rw [HR.out]
        exact ⟨rfl, rfl⟩
    · obtain rfl : k = n := by omega
      have HR := Lib.hid (YES.out ALL.out)
      go_wp2
      go_ret
      rw [HR.out]
      exact ⟨rfl, rfl⟩

theorem sub_iff {b f : Int} (hb : isByte b) (hf : isByte f) : subP b f ↔ bits .andNot .u8 b f = 0 := by
  obtain ⟨hb0, hb1⟩ := hb
  obtain ⟨hf0, hf1⟩ := hf
  rw [u8_andNot b f hb0 (by omega) hf0 (by omega)]
  unfold subP
  obtain ⟨x, hx⟩ : ∃ x : Nat, x = b.toNat := ⟨_, rfl⟩
  obtain ⟨y, hy⟩ : ∃ y : Nat, y = f.toNat := ⟨_, rfl⟩
  have hx1 : x < 2 ^ 8 := by omega
  have hy1 : y < 2 ^ 8 := by omega
  rw [← hx, ← hy]
  have key : ∀ i, (x &&& (255 - y)).testBit i = (x.testBit i && !y.testBit i) := fun i => by
    rw [Nat.testBit_and, show 255 - y = 2 ^ 8 - (y + 1) by omega, Nat.testBit_two_pow_sub_succ hy1]
    by_cases hi : i < 8
    · rw [decide_eq_true hi, Bool.true_and]
    · rw [show x.testBit i = false from Nat.testBit_lt_two_pow (Nat.lt_of_lt_of_le hx1 (Nat.pow_le_pow_right (by decide) (by omega)))]
      rfl
  constructor
  · intro h
    have h0 : x &&& (255 - y) = 0 := Nat.eq_of_testBit_eq fun i => by
      rw [key, Nat.zero_testBit]
      have := congrArg (fun v => Nat.testBit v i) h
      simp only [Nat.testBit_and] at this
      cases hX : x.testBit i <;> cases hY : y.testBit i <;> simp_all
    rw [h0]; rfl
  · intro h
    have h0 : x &&& (255 - y) = 0 := by omega
    refine Nat.eq_of_testBit_eq fun i => ?_
    have := key i
    rw [h0, Nat.zero_testBit] at this
    rw [Nat.testBit_and]
    cases hX : x.testBit i <;> cases hY : y.testBit i <;> simp_all

/-- Four bytes written over in a row of noughts. -/
theorem four_row {w : World} {g : Nat} (h : Blk w g 5 (ints .u8 noughts)) (x y z u : Int) :
    Blk ((((w.setCell ⟨g, 0, none⟩ (.int .u8 x)).setCell ⟨g, 1, none⟩ (.int .u8 y)).setCell ⟨g, 2, none⟩ (.int .u8 z)).setCell ⟨g, 3, none⟩ (.int .u8 u)) g 5 (ints .u8 ([x, y, z, u] ++ List.replicate 28 0)) := (((h.set 0 _).set 1 _).set 2 _).set 3 _

theorem wrap_byte {n : Int} (h : isByte n) : IntKind.u8.wrap n = n := by
  obtain ⟨h0, h1⟩ := h
  rw [IntKind.wrap_u8]
  omega
theorem below_fourP {w w' : World} {G : Nat} (h : Below w.heap.size w w') (hg : w.heap.size ≤ G) (x y z u : Value) : Below w.heap.size w ((((w'.setCell ⟨G, 0, none⟩ x).setCell ⟨G, 1, none⟩ y).setCell ⟨G, 2, none⟩ z).setCell ⟨G, 3, none⟩ u) :=
  (((h.setCell (p := ⟨G, 0, none⟩) hg x).setCell (p := ⟨G, 1, none⟩) hg y).setCell (p := ⟨G, 2, none⟩) hg z).setCell (p := ⟨G, 3, none⟩) hg u

set_option maxHeartbeats 3200000 in
theorem ptext_any (p n a f b : Int) (w : World) (hp : isByte p) (hn : isByte n) (hf : isByte f) (hb : isByte b) :
    Calls Try.prog 26 #[pgV p n a f, .int .u8 b] w (RowOut .u8 5 w (if subP b f then pgSec p n b else []) (if subP b f then 0 else 2)) := by
  obtain ⟨x, hbel⟩ := box_pge w p n a f
  obtain ⟨w1, hw1⟩ : ∃ x : World, x = w.alloc (.cells #[.int .i64 p, .int .i64 n, .int .i64 a, .int .u8 f] 60) := ⟨_, rfl⟩
  rw [← hw1] at x hbel
  have X := Lib.hid x
  have B := Lib.hid hbel
  obtain ⟨c0, c1, c2, c3⟩ := x.pge
  have hiff := sub_iff hb hf
  have e1 : IntKind.u8.wrap p = p := wrap_byte hp
  have e2 : IntKind.u8.wrap n = n := wrap_byte hn
  by_cases hs : subP b f
  · have hq := hiff.1 hs
    rw [if_pos hs, if_pos hs]
    have y := Blk.new w1 5 (ints .u8 noughts)
    have hk : Below w1.heap.size w1 (w1.alloc (.cells (ints .u8 noughts).toArray 5)) := (Below.refl _ _).alloc (Nat.le_refl _) _
    have hmk := make32 w1
    obtain ⟨w2, hw2⟩ : ∃ x : World, x = w1.alloc (.cells (ints .u8 noughts).toArray 5) := ⟨_, rfl⟩
    obtain ⟨g, hg⟩ : ∃ x : Nat, x = w1.heap.size := ⟨_, rfl⟩
    rw [← hw2] at y hk hmk
    rw [← hg] at y hk hmk
    have Y := Lib.hid y
    have K := Lib.hid hk
    have HG := Lib.hid hg
    clear hiff hs hp hn hf hb hbel x y hk hw2 hg
    go_enter Try.func26, Try.ntmps26
    go_upto_region 1 with fail
    rw [← hw1]
    clear hw1
    go_upto_region 4 with fail
    obtain ⟨k0, k1, k2, k3⟩ := (X.out.grown (w' := w2) (row := none) (by rw [HG.out] at K; exact grown_of_below K.out) (by simp)).pge
    have y0 := (Y.out.cell 0).trans (show (ints .u8 noughts)[0]? = some (.int .u8 0) from rfl)
    have y1 := (Y.out.cell 1).trans (show (ints .u8 noughts)[1]? = some (.int .u8 0) from rfl)
    have y2 := (Y.out.cell 2).trans (show (ints .u8 noughts)[2]? = some (.int .u8 0) from rfl)
    have y3 := (Y.out.cell 3).trans (show (ints .u8 noughts)[3]? = some (.int .u8 0) from rfl)
    have f0 := Y.out.free 0
    have f1 := Y.out.free 1
    have f2 := Y.out.free 2
    have f3 := Y.out.free 3
    have hne : ¬ w.heap.size = g := by rw [HG.out]; have := X.out.lt; omega
    have hne2 : ¬ g = w.heap.size := fun e => hne e.symm
    have Z := Lib.hid (four_row Y.out 1 p n b)
    have HGE := Lib.hid (show w.heap.size ≤ g by rw [HG.out]; exact B.out.size)
    have B := Lib.hid (below_fourP (B.out.trans (K.out.mono HGE.out)) HGE.out (.int .u8 1) (.int .u8 p) (.int .u8 n) (.int .u8 b))
    clear c0 c1 c2 c3 hmk K Y X HG
    go_wp2
    go_ret2
    exact ⟨some ⟨g, 0, none⟩, 32, rfl, Z.out.owns HGE.out rfl (by rw [pgSec_len]; decide), B.out⟩
  · have hq : bits .andNot .u8 b f ≠ 0 := fun h => hs (hiff.2 h)
    obtain ⟨x, hx⟩ : ∃ x, x = bits .andNot .u8 b f := ⟨_, rfl⟩
    rw [← hx] at hq
    have hx2 : bits .andNot .u8 b f = x := hx.symm
    have hq2 : (x != 0) = true := bne_iff_ne.2 hq
    rw [if_neg hs, if_neg hs]
    clear hiff hs hp hn hf hb hbel hx
    go_enter Try.func26, Try.ntmps26
    go_upto_region 1 with fail
    rw [← hw1]
    clear hw1
    go_wp2
    go_ret2
    exact ⟨none, 0, rfl, World.ownsRow_nil _ _ _ _, B.out⟩

end Go.Proofs.Ytiibmlbenamgcaa
