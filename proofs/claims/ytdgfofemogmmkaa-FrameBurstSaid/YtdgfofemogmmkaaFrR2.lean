/- Layer 15, the document's: Same, Twin. No statement is proved here. -/
import Derived.Test.YtdgfofemogmmkaaFrR
import Derived.Test.YtdgfofemogmmkaaCopy
import Derived.Test.YtdgfofemogmmkaaCrcT
import Derived.Test.YtdgfofemogmmkaaDiskQ
namespace Go.Proofs.Ytdgfofemogmmkaa
open Go.RowKit
set_option linter.unusedVariables false
set_option maxRecDepth 100000

theorem str_arg15 {w : World} {A : Option Addr} {n c : Nat} {zs : List Int} (h : Arg w .u8 A n c zs) : (convert 23 9 (.slice A n c)).run Try.prog w = .ok (.string (strOfNums zs)) w :=
  run_str (P := Try.prog) w 23 9 5 Try.underlying23 Try.underlying5 Try.underlying9 (c := c) h.seq h.len
/-- Two frames' boxes. -/
theorem box_frms (w : World) (a b c d : Int) (A : Option Addr) (n k : Nat) (a2 b2 c2 d2 : Int) (A2 : Option Addr) (n2 k2 : Nat) :
    Blk ((w.alloc (.cells #[.int .u32 a, .int .u32 b, .int .u32 c, .int .u32 d, .slice A n k] 25)).alloc (.cells #[.int .u32 a2, .int .u32 b2, .int .u32 c2, .int .u32 d2, .slice A2 n2 k2] 25)) w.heap.size 25 (frmL a b c d A n k) ∧ Blk ((w.alloc (.cells #[.int .u32 a, .int .u32 b, .int .u32 c, .int .u32 d, .slice A n k] 25)).alloc (.cells #[.int .u32 a2, .int .u32 b2, .int .u32 c2, .int .u32 d2, .slice A2 n2 k2] 25)) (w.heap.size + 1) 25 (frmL a2 b2 c2 d2 A2 n2 k2) ∧ Below w.heap.size w ((w.alloc (.cells #[.int .u32 a, .int .u32 b, .int .u32 c, .int .u32 d, .slice A n k] 25)).alloc (.cells #[.int .u32 a2, .int .u32 b2, .int .u32 c2, .int .u32 d2, .slice A2 n2 k2] 25)) := by
  obtain ⟨x, hb⟩ := box_frm w a b c d A n k
  obtain ⟨y, hk⟩ := box_frm (w.alloc (.cells #[.int .u32 a, .int .u32 b, .int .u32 c, .int .u32 d, .slice A n k] 25)) a2 b2 c2 d2 A2 n2 k2
  rw [World.size_alloc] at y
  exact ⟨x.below hk x.lt, y, hb.trans (hk.mono hb.size)⟩

set_option maxHeartbeats 3200000 in
theorem rsameF_any (a b c d : Int) (A : Option Addr) (n k : Nat) (z : List Int) (a2 b2 c2 d2 : Int) (A2 : Option Addr) (n2 k2 : Nat) (z2 : List Int) (w : World) (h : Arg w .u8 A n k z) (h2 : Arg w .u8 A2 n2 k2 z2) (hz : ∀ x ∈ z, isByte x) (hz2 : ∀ x ∈ z2, isByte x) :
    Calls Try.prog 17 #[frmV a b c d A n k, frmV a2 b2 c2 d2 A2 n2 k2] w fun e w' => e = .returned (.bool (decide ((a, b, c, d, z) = ((a2, b2, c2, d2, z2) : Fr)))) ∧ Below w.heap.size w w' := by
  obtain ⟨x, y, hbel⟩ := box_frms w a b c d A n k a2 b2 c2 d2 A2 n2 k2
  obtain ⟨w1, hw1⟩ : ∃ x : World, x = ((w.alloc (.cells #[.int .u32 a, .int .u32 b, .int .u32 c, .int .u32 d, .slice A n k] 25)).alloc (.cells #[.int .u32 a2, .int .u32 b2, .int .u32 c2, .int .u32 d2, .slice A2 n2 k2] 25)) := ⟨_, rfl⟩
  rw [← hw1] at x y hbel
  obtain ⟨c0, c1, c2', c3, c4⟩ := x.frm
  obtain ⟨d0, d1, d2', d3, d4⟩ := y.frm
  have q1 := str_arg15 (h.below hbel)
  have q2 := str_arg15 (h2.below hbel)
  have B := Lib.hid hbel
  obtain ⟨r, hr⟩ : ∃ r, r = decide ((a, b, c, d, z) = ((a2, b2, c2, d2, z2) : Fr)) := ⟨_, rfl⟩
  rw [← hr]
  obtain ⟨s1, hs1⟩ : ∃ s, s = strOfNums z := ⟨_, rfl⟩
  obtain ⟨s2, hs2⟩ : ∃ s, s = strOfNums z2 := ⟨_, rfl⟩
  rw [← hs1] at q1
  rw [← hs2] at q2
  have HQ := Lib.hid (show (s1.toList == s2.toList) = decide (z = z2) by
    rw [hs1, hs2]
    by_cases e : z = z2
    · rw [e, decide_eq_true rfl]; exact beq_self_eq_true _
    · rw [decide_eq_false e]; exact str_ne hz hz2 e)
  clear x y hbel hs1 hs2 h h2 hz hz2
  by_cases ha : a = a2
  rotate_left
  · have ga : (a == a2) = false := beq_eq_false_iff_ne.2 ha
    have R := Lib.hid (show r = false by rw [hr]; exact decide_eq_false (fun e => ha (by injection e with e0 e)))
    clear hr ha
    go_enter Try.func17, Try.ntmps17
    go_upto_region 1 with fail
    rw [← hw1]
    clear hw1
    go_wp2
    go_ret
    exact ⟨by rw [R.out]; rfl, B.out⟩
  have ga : (a == a2) = true := beq_iff_eq.2 ha
  by_cases hb : b = b2
  rotate_left
  · have gb : (b == b2) = false := beq_eq_false_iff_ne.2 hb
    have R := Lib.hid (show r = false by rw [hr]; exact decide_eq_false (fun e => hb (by injection e with e0 e; injection e with e1 e)))
    clear hr ha hb
    go_enter Try.func17, Try.ntmps17
    go_upto_region 1 with fail
    rw [← hw1]
    clear hw1
    go_wp2
    go_ret
    exact ⟨by rw [R.out]; rfl, B.out⟩
  have gb : (b == b2) = true := beq_iff_eq.2 hb
  by_cases hc : c = c2
  rotate_left
  · have gc : (c == c2) = false := beq_eq_false_iff_ne.2 hc
    have R := Lib.hid (show r = false by rw [hr]; exact decide_eq_false (fun e => hc (by injection e with e0 e; injection e with e1 e; injection e with e2 e)))
    clear hr ha hb hc
    go_enter Try.func17, Try.ntmps17
    go_upto_region 1 with fail
    rw [← hw1]
    clear hw1
    go_wp2
    go_ret
    exact ⟨by rw [R.out]; rfl, B.out⟩
  have gc : (c == c2) = true := beq_iff_eq.2 hc
  by_cases hd : d = d2
  rotate_left
  · have gd : (d == d2) = false := beq_eq_false_iff_ne.2 hd
    have R := Lib.hid (show r = false by rw [hr]; exact decide_eq_false (fun e => hd (by injection e with e0 e; injection e with e1 e; injection e with e2 e; injection e with e3 e)))
    clear hr ha hb hc hd
    go_enter Try.func17, Try.ntmps17
    go_upto_region 1 with fail
    rw [← hw1]
    clear hw1
    go_wp2
    go_ret
    exact ⟨by rw [R.out]; rfl, B.out⟩
  have gd : (d == d2) = true := beq_iff_eq.2 hd
  have R := Lib.hid (show r = (s1.toList == s2.toList) by
    rw [HQ.out, hr, decide_eq_decide]
    constructor
    · intro e; injection e with e0 e; injection e with e1 e; injection e with e2 e; injection e with e3 e
    · intro e; rw [ha, hb, hc, hd, e])
  clear hr ha hb hc hd
  go_enter Try.func17, Try.ntmps17
  go_upto_region 1 with fail
  rw [← hw1]
  clear hw1
  go_wp2
  go_ret
  exact ⟨by rw [R.out]; rfl, B.out⟩

/-- A frame of the call's own. -/
def FrmOut (w : World) (a b c d : Int) (z : List Int) (e : Ending) (w' : World) : Prop :=
  ∃ A k, e = .returned (frmV a b c d A z.length k) ∧ w'.ownsRow w.heap.size 5 1 (.slice A z.length k) z.length (ints .u8 z) ∧ Below w.heap.size w w'
theorem Blk.frm5 {w : World} {g : Nat} {t : TypeId} {x0 x1 x2 x3 x4 : Value} (h : Blk w g t [x0, x1, x2, x3, x4]) (y0 y1 y2 y3 y4 : Value) : Blk (((((w.setCell ⟨g, 0, none⟩ y0).setCell ⟨g, 1, none⟩ y1).setCell ⟨g, 2, none⟩ y2).setCell ⟨g, 3, none⟩ y3).setCell ⟨g, 4, none⟩ y4) g t [y0, y1, y2, y3, y4] := ((((h.set 0 y0).set 1 y1).set 2 y2).set 3 y3).set 4 y4
theorem owns_frm {w : World} {e t : TypeId} {base g s : Nat} {v : Value} {k : Nat} {xs : List Value} {x0 x1 x2 x3 x4 : Value} (ho : w.ownsRow base e s v k xs) (h : Blk w g t [x0, x1, x2, x3, x4]) (ht : t ≠ e) (y0 y1 y2 y3 y4 : Value) : (((((w.setCell ⟨g, 0, none⟩ y0).setCell ⟨g, 1, none⟩ y1).setCell ⟨g, 2, none⟩ y2).setCell ⟨g, 3, none⟩ y3).setCell ⟨g, 4, none⟩ y4).ownsRow base e s v k xs :=
  owns_other_box (owns_other_box (owns_other_box (owns_other_box (owns_other_box ho h ht 0 y0) (h.set 0 y0) ht 1 y1) ((h.set 0 y0).set 1 y1) ht 2 y2) (((h.set 0 y0).set 1 y1).set 2 y2) ht 3 y3) ((((h.set 0 y0).set 1 y1).set 2 y2).set 3 y3) ht 4 y4
theorem below_frm {B : Nat} {w0 w : World} (h : Below B w0 w) {g : Nat} (hg : B ≤ g) (y0 y1 y2 y3 y4 : Value) : Below B w0 (((((w.setCell ⟨g, 0, none⟩ y0).setCell ⟨g, 1, none⟩ y1).setCell ⟨g, 2, none⟩ y2).setCell ⟨g, 3, none⟩ y3).setCell ⟨g, 4, none⟩ y4) :=
  ((((h.setCell (p := ⟨g, 0, none⟩) hg y0).setCell (p := ⟨g, 1, none⟩) hg y1).setCell (p := ⟨g, 2, none⟩) hg y2).setCell (p := ⟨g, 3, none⟩) hg y3).setCell (p := ⟨g, 4, none⟩) hg y4

set_option maxHeartbeats 3200000 in
theorem rtwinF_any (a b c d : Int) (A : Option Addr) (n k : Nat) (z : List Int) (w : World) (h : Arg w .u8 A n k z) (hn : n ≤ 100000) :
    Calls Try.prog 13 #[frmV a b c d A n k] w (FrmOut w a b c d z) := by
  obtain ⟨ib, hib, hbz, hb1, hb2⟩ := info_parts byte_info
  have hml : (1000000 : Nat) ≤ maxLen := by decide
  obtain ⟨x, y, hbel⟩ := box_frms w a b c d A n k 0 0 0 0 none 0 0
  obtain ⟨w1, hw1⟩ : ∃ x : World, x = ((w.alloc (.cells #[.int .u32 a, .int .u32 b, .int .u32 c, .int .u32 d, .slice A n k] 25)).alloc (.cells #[.int .u32 0, .int .u32 0, .int .u32 0, .int .u32 0, .slice none 0 0] 25)) := ⟨_, rfl⟩
  rw [← hw1] at x y hbel
  obtain ⟨c0, c1, c2, c3, c4⟩ := x.frm
  have X := Lib.hid x
  have Y := Lib.hid y
  have B := Lib.hid hbel
  have l4 : (w1.alloc (.cells #[] 5)).cell? ⟨w.heap.size, 4, none⟩ = some (.slice A n k) := (x.below ((Below.refl _ _).alloc (Nat.le_refl _) _) x.lt).frm.2.2.2.2
  have R0 := Lib.hid (h.below hbel)
  have L0 := Lib.hid h.len
  clear x y hbel h
  go_enter Try.func13, Try.ntmps13
  go_upto_region 1 with fail
  rw [← hw1]
  clear hw1
  go_wp2_with (at_builtin; (refine wpList_dup w1 rfl (.tmp 3) (.tmp 5) _ rfl 5 ib _ 1 Try.underlying23 hib hbz hb1 hb2 rfl rfl A n k (ints .u8 z) rfl (by rw [ints_length]; exact L0.out) R0.out.seq (ints_one _ _) (by omega) (by omega) ?_); intro AM kM w2 hownM hbM; have OM := Lib.hid hownM; have BM := Lib.hid hbM; have X2 := Lib.hid (X.out.below hbM X.out.lt); have Y2 := Lib.hid (Y.out.below hbM Y.out.lt); obtain ⟨c0, c1, c2, c3, c4⟩ := X2.out.frm; obtain ⟨d0, d1, d2, d3, d4⟩ := Y2.out.frm; have e0 := X2.out.free 4; have f0 := Y2.out.free 0; have f1 := Y2.out.free 1; have f2 := Y2.out.free 2; have f3 := Y2.out.free 3; have f4 := Y2.out.free 4; clear hownM hbM l4)
  have Y3 := Y2.out.away (show w.heap.size + 1 ≠ w.heap.size by omega) 4 (.slice AM n kM)
  obtain ⟨y0, y1, y2, y3, y4⟩ := (Y3.frm5 (.int .u32 a) (.int .u32 b) (.int .u32 c) (.int .u32 d) (.slice AM n kM)).frm
  have O3 := Lib.hid (owns_frm (owns_other_box OM.out X2.out (by decide) 4 (.slice AM n kM)) Y3 (by decide) (.int .u32 a) (.int .u32 b) (.int .u32 c) (.int .u32 d) (.slice AM n kM))
  have B3 := Lib.hid (below_frm (g := w.heap.size + 1) ((B.out.trans (BM.out.mono B.out.size)).setCell (p := ⟨w.heap.size, 4, none⟩) (Nat.le_refl _) (.slice AM n kM)) (Nat.le_succ _) (.int .u32 a) (.int .u32 b) (.int .u32 c) (.int .u32 d) (.slice AM n kM))
  refine bodyPost_ret (v := frmV a b c d AM n kM) ?_ rfl ⟨AM, kM, by rw [L0.out], by rw [L0.out]; exact owns_base O3.out B.out.size, B3.out⟩
  clear c0 c1 c2 c3 c4 d0 d1 d2 d3 d4 e0 f0 f1 f2 f3 f4
  simp [results, Try.f13, go_sem, y0, y1, y2, y3, y4]
end Go.Proofs.Ytdgfofemogmmkaa
