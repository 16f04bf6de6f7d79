/- Layer 15, the program's: Same, Twin. No statement is proved here. -/
import Derived.Test.YtdgfofemogmmkaaFrP
import Derived.Test.YtdgfofemogmmkaaDskSm
namespace Go.Proofs.Ytdgfofemogmmkaa
open Go.RowKit
set_option linter.unusedVariables false
set_option maxRecDepth 100000

set_option maxHeartbeats 3200000 in
theorem psame15_any (a b c d : Int) (A : Option Addr) (n k : Nat) (z : List Int) (a2 b2 c2 d2 : Int) (A2 : Option Addr) (n2 k2 : Nat) (z2 : List Int) (w : World) (h : Arg w .u8 A n k z) (h2 : Arg w .u8 A2 n2 k2 z2) (hz : ∀ x ∈ z, isByte x) (hz2 : ∀ x ∈ z2, isByte x) :
    Calls Try.prog 19 #[frmV a b c d A n k, frmV a2 b2 c2 d2 A2 n2 k2] w fun e w' => e = .returned (.bool (decide ((a, b, c, d, z) = ((a2, b2, c2, d2, z2) : Fr)))) ∧ Below w.heap.size w w' := by
  obtain ⟨x, y, hbel⟩ := box_frms w a b c d A n k a2 b2 c2 d2 A2 n2 k2
  obtain ⟨w1, hw1⟩ : ∃ x : World, x = ((w.alloc (.cells #[.int .u32 a, .int .u32 b, .int .u32 c, .int .u32 d, .slice A n k] 25)).alloc (.cells #[.int .u32 a2, .int .u32 b2, .int .u32 c2, .int .u32 d2, .slice A2 n2 k2] 25)) := ⟨_, rfl⟩
  rw [← hw1] at x y hbel
  obtain ⟨c0, c1, c2', c3, c4⟩ := x.frm
  obtain ⟨d0, d1, d2', d3, d4⟩ := y.frm
  have EQ := Lib.hid (equal_any A n k z A2 n2 k2 z2 w1 (h.below hbel) (h2.below hbel) hz hz2)
  have B := Lib.hid hbel
  obtain ⟨r, hr⟩ : ∃ r, r = decide ((a, b, c, d, z) = ((a2, b2, c2, d2, z2) : Fr)) := ⟨_, rfl⟩
  rw [← hr]
  clear x y hbel h h2 hz hz2
  by_cases ha : a = a2
  rotate_left
  · have ga : (a == a2) = false := beq_eq_false_iff_ne.2 ha
    have R := Lib.hid (show r = false by rw [hr]; exact decide_eq_false (fun e => ha (by injection e with e0 e)))
    clear hr ha
    go_enter Try.func19, Try.ntmps19
    go_upto_region 1 with fail
    rw [← hw1]
    clear hw1
    go_wp2
    go_ret
    exact ⟨by rw [R.out]; rfl, B.out⟩
  have ga : (a == a2) = true := beq_iff_eq.2 ha
  by_cases hb : b = b2
  rotate_left
  · have gb : (b == b2) = false := beq_eq_false_iff_ne.2 hb
    have R := Lib.hid (show r = false by rw [hr]; exact decide_eq_false (fun e => hb (by injection e with e0 e; injection e with e1 e)))
    clear hr ha hb
    go_enter Try.func19, Try.ntmps19
    go_upto_region 1 with fail
    rw [← hw1]
    clear hw1
    go_wp2
    go_ret
    exact ⟨by rw [R.out]; rfl, B.out⟩
  have gb : (b == b2) = true := beq_iff_eq.2 hb
  by_cases hc : c = c2
  rotate_left
  · have gc : (c == c2) = false := beq_eq_false_iff_ne.2 hc
    have R := Lib.hid (show r = false by rw [hr]; exact decide_eq_false (fun e => hc (by injection e with e0 e; injection e with e1 e; injection e with e2 e)))
    clear hr ha hb hc
    go_enter Try.func19, Try.ntmps19
    go_upto_region 1 with fail
    rw [← hw1]
    clear hw1
    go_wp2
    go_ret
    exact ⟨by rw [R.out]; rfl, B.out⟩
  have gc : (c == c2) = true := beq_iff_eq.2 hc
  by_cases hd : d = d2
  rotate_left
  · have gd : (d == d2) = false := beq_eq_false_iff_ne.2 hd
    have R := Lib.hid (show r = false by rw [hr]; exact decide_eq_false (fun e => hd (by injection e with e0 e; injection e with e1 e; injection e with e2 e; injection e with e3 e)))
    clear hr ha hb hc hd
    go_enter Try.func19, Try.ntmps19
    go_upto_region 1 with fail
    rw [← hw1]
    clear hw1
    go_wp2
    go_ret
    exact ⟨by rw [R.out]; rfl, B.out⟩
  have gd : (d == d2) = true := beq_iff_eq.2 hd
  have R := Lib.hid (show r = decide (z = z2) by
    rw [hr, decide_eq_decide]
    constructor
    · intro e; injection e with e0 e; injection e with e1 e; injection e with e2 e; injection e with e3 e
    · intro e; rw [ha, hb, hc, hd, e])
  rw [← R.out] at EQ
  clear hr ha hb hc hd R
  go_enter Try.func19, Try.ntmps19
  go_upto_region 1 with fail
  rw [← hw1]
  clear hw1
  go_wp2_with fail
  refine EQ.out.mono ?_
  rintro e w2 ⟨rfl, rfl⟩
  go_wp2
  go_ret
  exact ⟨rfl, B.out⟩

set_option maxHeartbeats 3200000 in
theorem ptwin15_any (a b c d : Int) (A : Option Addr) (n k : Nat) (z : List Int) (w : World) (h : Arg w .u8 A n k z) (hn : n ≤ 100000) :
    Calls Try.prog 16 #[frmV a b c d A n k] w (FrmOut w a b c d z) := by
  obtain ⟨ib, hib, hbz, hb1, hb2⟩ := info_parts byte_info
  have hml : (1000000 : Nat) ≤ maxLen := by decide
  obtain ⟨x, y, hbel⟩ := box_frms w a b c d A n k 0 0 0 0 none 0 0
  obtain ⟨w1, hw1⟩ : ∃ x : World, x = ((w.alloc (.cells #[.int .u32 a, .int .u32 b, .int .u32 c, .int .u32 d, .slice A n k] 25)).alloc (.cells #[.int .u32 0, .int .u32 0, .int .u32 0, .int .u32 0, .slice none 0 0] 25)) := ⟨_, rfl⟩
  rw [← hw1] at x y hbel
  obtain ⟨c0, c1, c2, c3, c4⟩ := x.frm
  have X := Lib.hid x
  have Y := Lib.hid y
  have B := Lib.hid hbel
  have R0 := Lib.hid (h.below hbel)
  have L0 := Lib.hid h.len
  clear x y hbel h
  go_enter Try.func16, Try.ntmps16
  go_upto_region 1 with fail
  rw [← hw1]
  clear hw1
  go_wp2_with (at_builtin; (refine wpList_behind_g w1 w1 rfl (.const (.slice none 0 0)) (.tmp 4) _ rfl w1.heap.size 5 ib _ 1 Try.underlying23 hib hbz hb1 hb2 rfl none 0 0 [] rfl (World.ownsRow_nil _ _ _ _) w1.heap.size A n k (ints .u8 z) rfl (by rw [ints_length]; exact L0.out) R0.out.seq (ints_one _ _) (by omega) (by omega) (Below.refl _ _) (Nat.le_refl _) ?_); intro AM kM w2 hownM hbM; rw [Nat.zero_add, List.nil_append] at hownM; rw [Nat.zero_add]; have OM := Lib.hid hownM; have BM := Lib.hid hbM; have X2 := Lib.hid (X.out.below hbM X.out.lt); have Y2 := Lib.hid (Y.out.below hbM Y.out.lt); obtain ⟨c0, c1, c2, c3, c4⟩ := X2.out.frm; obtain ⟨d0, d1, d2, d3, d4⟩ := Y2.out.frm; have e0 := X2.out.free 4; have f0 := Y2.out.free 0; have f1 := Y2.out.free 1; have f2 := Y2.out.free 2; have f3 := Y2.out.free 3; have f4 := Y2.out.free 4; clear hownM hbM)
  have Y3 := Y2.out.away (show w.heap.size + 1 ≠ w.heap.size by omega) 4 (.slice AM n kM)
  obtain ⟨y0, y1, y2, y3, y4⟩ := (Y3.frm5 (.int .u32 a) (.int .u32 b) (.int .u32 c) (.int .u32 d) (.slice AM n kM)).frm
  have O3 := Lib.hid (owns_frm (owns_other_box OM.out X2.out (by decide) 4 (.slice AM n kM)) Y3 (by decide) (.int .u32 a) (.int .u32 b) (.int .u32 c) (.int .u32 d) (.slice AM n kM))
  have B3 := Lib.hid (below_frm (g := w.heap.size + 1) ((B.out.trans (BM.out.mono B.out.size)).setCell (p := ⟨w.heap.size, 4, none⟩) (Nat.le_refl _) (.slice AM n kM)) (Nat.le_succ _) (.int .u32 a) (.int .u32 b) (.int .u32 c) (.int .u32 d) (.slice AM n kM))
  refine bodyPost_ret (v := frmV a b c d AM n kM) ?_ rfl ⟨AM, kM, by rw [L0.out], by rw [L0.out]; exact owns_base O3.out B.out.size, B3.out⟩
  clear c0 c1 c2 c3 c4 d0 d1 d2 d3 d4 e0 f0 f1 f2 f3 f4
  simp [results, Try.f16, go_sem, y0, y1, y2, y3, y4]
end Go.Proofs.Ytdgfofemogmmkaa
