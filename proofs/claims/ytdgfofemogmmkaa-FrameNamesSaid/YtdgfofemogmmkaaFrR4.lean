/- Layer 15, the document's: Write, Read. No statement is proved here. -/
import Derived.Test.YtdgfofemogmmkaaFrR3
import Derived.Test.YtdgfofemogmmkaaStepDup2
import Derived.Test.YtdgfofemogmmkaaRegTab
namespace Go.Proofs.Ytdgfofemogmmkaa
open Go.RowKit
set_option linter.unusedVariables false
set_option maxRecDepth 100000

set_option maxHeartbeats 3200000 in
theorem rwriteF_any (a b c d : Int) (A : Option Addr) (n k : Nat) (z : List Int) (w : World) (h : Arg w .u8 A n k z) (hz : ∀ x ∈ z, isByte x) (va : isV a) (vb : isV b) (vc : isV c) (vd : isV d) :
    Calls Try.prog 14 #[frmV a b c d A n k] w (RowOut .u8 5 w (frB (a, b, c, d, z)) (frE (a, b, c, d, z))) := by
  obtain ⟨x, hbel⟩ := box_frm w a b c d A n k
  obtain ⟨w1, hw1⟩ : ∃ x : World, x = (w.alloc (.cells #[.int .u32 a, .int .u32 b, .int .u32 c, .int .u32 d, .slice A n k] 25)) := ⟨_, rfl⟩
  rw [← hw1] at x hbel
  obtain ⟨c0, c1, c2, c3, c4⟩ := x.frm
  have B := Lib.hid hbel
  have M := Lib.hid (rmayF_any a b c d A n k w1)
  have hl := h.len
  have hi : mayF (a, b, c, d, z) ↔ mayN a c n := by rw [mayN_iff, hl]
  have X := Lib.hid x
  by_cases hm : mayN a c n
  · have hn : n ≤ 64 := by
      obtain ⟨_, h2⟩ := hm
      split at h2 <;> omega
    have T := Lib.hid (fun wx (hx : Below w.heap.size w wx) => rtextF_any a b c d A n k z wx (h.below hx) (by omega) hz va vb vc vd)
    unfold frB frE
    rw [if_pos (hi.2 hm), if_pos (hi.2 hm)]
    rw [decide_eq_true hm] at M
    obtain ⟨TX, hTX⟩ : ∃ y, y = frT (a, b, c, d, z) := ⟨_, rfl⟩
    have LT := Lib.hid (show TX.length = 20 + n by rw [hTX, frT_length]; show 20 + z.length = _; rw [hl])
    rw [← hTX] at T ⊢
    clear x hbel hm hi hTX hn h hz
    go_enter Try.func14, Try.ntmps14
    go_wp2_with fail
    rw [← hw1]
    clear hw1
    refine M.out.mono ?_
    rintro e w2 ⟨rfl, hb⟩
    have B := Lib.hid (B.out.trans (hb.mono B.out.size))
    have X := Lib.hid (X.out.below hb X.out.lt)
    clear hb M c0 c1 c2 c3 c4
    obtain ⟨c0, c1, c2, c3, c4⟩ := X.out.frm
    go_wp2_with fail
    refine (T.out _ B.out).mono ?_
    rintro e w3 ⟨A3, k3, rfl, hown, hb⟩
    have O := Lib.hid (owns_base hown B.out.size)
    have B := Lib.hid (B.out.trans (hb.mono B.out.size))
    clear hown hb T c0 c1 c2 c3 c4
    go_wp2
    go_ret2
    exact ⟨A3, k3, by rw [LT.out]; rfl, by rw [LT.out]; exact O.out, B.out⟩
  · unfold frB frE
    rw [if_neg (fun e => hm (hi.1 e)), if_neg (fun e => hm (hi.1 e))]
    rw [decide_eq_false hm] at M
    clear x hbel hm hi h hz X
    go_enter Try.func14, Try.ntmps14
    go_wp2_with fail
    rw [← hw1]
    clear hw1
    refine M.out.mono ?_
    rintro e w2 ⟨rfl, hb⟩
    have B := Lib.hid (B.out.trans (hb.mono B.out.size))
    clear hb M c0 c1 c2 c3 c4
    go_wp2
    go_ret2
    exact ⟨none, 0, rfl, World.ownsRow_nil _ _ _ _, B.out⟩

/-- A frame of the call's own, beside an error. -/
def FrdOut (w : World) (f : Fr) (E : Int) (e : Ending) (w' : World) : Prop :=
  ∃ A k, e = .returned (.tuple #[frmV f.1 f.2.1 f.2.2.1 f.2.2.2.1 A f.2.2.2.2.length k, .int .i64 E]) ∧ w'.ownsRow w.heap.size 5 1 (.slice A f.2.2.2.2.length k) f.2.2.2.2.length (ints .u8 f.2.2.2.2) ∧ Below w.heap.size w w'

set_option maxHeartbeats 3200000 in
theorem rreadF_short (A : Option Addr) (n c : Nat) (w : World) (hn : n < 20) : Calls Try.prog 15 #[.slice A n c] w (FrdOut w zFr 10) := by
  obtain ⟨x, hbel⟩ := box_frm w 0 0 0 0 none 0 0
  obtain ⟨w1, hw1⟩ : ∃ x : World, x = (w.alloc (.cells #[.int .u32 0, .int .u32 0, .int .u32 0, .int .u32 0, .slice none 0 0] 25)) := ⟨_, rfl⟩
  rw [← hw1] at x hbel
  obtain ⟨d0, d1, d2, d3, d4⟩ := x.frm
  have f0 := x.free 0
  have f1 := x.free 1
  have f2 := x.free 2
  have f3 := x.free 3
  have f4 := x.free 4
  have X := Lib.hid x
  have B := Lib.hid hbel
  have hni : (n : Int) < 20 := by omega
  clear x hbel hn
  go_enter Try.func15, Try.ntmps15
  go_upto_region 1 with fail
  rw [← hw1]
  clear hw1
  go_wp2
  obtain ⟨y0, y1, y2, y3, y4⟩ := (X.out.frm5 (.int .u32 0) (.int .u32 0) (.int .u32 0) (.int .u32 0) (.slice none 0 0)).frm
  have BF := Lib.hid (below_frm (g := w.heap.size) B.out (Nat.le_refl _) (.int .u32 0) (.int .u32 0) (.int .u32 0) (.int .u32 0) (.slice none 0 0))
  refine bodyPost_ret (v := .tuple #[frmV 0 0 0 0 none 0 0, .int .i64 10]) ?_ rfl ⟨none, 0, rfl, World.ownsRow_nil _ _ _ _, BF.out⟩
  clear d0 d1 d2 d3 d4 f0 f1 f2 f3 f4
  simp [results, Try.f15, go_sem, y0, y1, y2, y3, y4]

set_option maxHeartbeats 3200000 in
theorem rreadF_long (A : Option Addr) (n c : Nat) (w : World) (hn : 84 < n) : Calls Try.prog 15 #[.slice A n c] w (FrdOut w zFr 150) := by
  obtain ⟨x, hbel⟩ := box_frm w 0 0 0 0 none 0 0
  obtain ⟨w1, hw1⟩ : ∃ x : World, x = (w.alloc (.cells #[.int .u32 0, .int .u32 0, .int .u32 0, .int .u32 0, .slice none 0 0] 25)) := ⟨_, rfl⟩
  rw [← hw1] at x hbel
  obtain ⟨d0, d1, d2, d3, d4⟩ := x.frm
  have f0 := x.free 0
  have f1 := x.free 1
  have f2 := x.free 2
  have f3 := x.free 3
  have f4 := x.free 4
  have X := Lib.hid x
  have B := Lib.hid hbel
  have hni : ¬ (n : Int) < 20 := by omega
  have hni2 : (84 : Int) < n := by omega
  clear x hbel hn
  go_enter Try.func15, Try.ntmps15
  go_upto_region 1 with fail
  rw [← hw1]
  clear hw1
  go_wp2
  obtain ⟨y0, y1, y2, y3, y4⟩ := (X.out.frm5 (.int .u32 0) (.int .u32 0) (.int .u32 0) (.int .u32 0) (.slice none 0 0)).frm
  have BF := Lib.hid (below_frm (g := w.heap.size) B.out (Nat.le_refl _) (.int .u32 0) (.int .u32 0) (.int .u32 0) (.int .u32 0) (.slice none 0 0))
  refine bodyPost_ret (v := .tuple #[frmV 0 0 0 0 none 0 0, .int .i64 150]) ?_ rfl ⟨none, 0, rfl, World.ownsRow_nil _ _ _ _, BF.out⟩
  clear d0 d1 d2 d3 d4 f0 f1 f2 f3 f4
  simp [results, Try.f15, go_sem, y0, y1, y2, y3, y4]

set_option maxHeartbeats 3200000 in
theorem rreadF_bad (A : Option Addr) (n c : Nat) (t : List Int) (w : World) (h : Arg w .u8 A n c t) (hby : ∀ z ∈ t, isByte z) (hn : 20 ≤ n ∧ n ≤ 84) (hE : opE t ≠ 0) : Calls Try.prog 15 #[.slice A n c] w (FrdOut w zFr (opE t)) := by
  obtain ⟨x, hbel⟩ := box_frm w 0 0 0 0 none 0 0
  obtain ⟨w1, hw1⟩ : ∃ x : World, x = (w.alloc (.cells #[.int .u32 0, .int .u32 0, .int .u32 0, .int .u32 0, .slice none 0 0] 25)) := ⟨_, rfl⟩
  rw [← hw1] at x hbel
  obtain ⟨d0, d1, d2, d3, d4⟩ := x.frm
  have f0 := x.free 0
  have f1 := x.free 1
  have f2 := x.free 2
  have f3 := x.free 3
  have f4 := x.free 4
  have X := Lib.hid x
  have B := Lib.hid hbel
  have hni : ¬ (n : Int) < 20 := by omega
  have hni2 : ¬ (84 : Int) < n := by omega
  have OP := Lib.hid (ropen_gen A n c t w1 (h.below hbel) hby)
  rw [opB_not hE] at OP
  obtain ⟨E, hEe⟩ : ∃ E, E = opE t := ⟨_, rfl⟩
  rw [← hEe] at OP hE ⊢
  have hq : (E != 0) = true := bne_iff_ne.2 hE
  clear x hbel hn hEe h hby
  go_enter Try.func15, Try.ntmps15
  go_upto_region 1 with fail
  rw [← hw1]
  clear hw1
  go_wp2_with fail
  refine OP.out.mono ?_
  rintro e w2 ⟨A2, k2, rfl, _, hb⟩
  have B := Lib.hid (B.out.trans (hb.mono B.out.size))
  have X := Lib.hid (X.out.below hb X.out.lt)
  clear hb OP d0 d1 d2 d3 d4 f0 f1 f2 f3 f4
  obtain ⟨d0, d1, d2, d3, d4⟩ := X.out.frm
  have f0 := X.out.free 0
  have f1 := X.out.free 1
  have f2 := X.out.free 2
  have f3 := X.out.free 3
  have f4 := X.out.free 4
  go_wp2
  obtain ⟨y0, y1, y2, y3, y4⟩ := (X.out.frm5 (.int .u32 0) (.int .u32 0) (.int .u32 0) (.int .u32 0) (.slice none 0 0)).frm
  have BF := Lib.hid (below_frm (g := w.heap.size) B.out (Nat.le_refl _) (.int .u32 0) (.int .u32 0) (.int .u32 0) (.int .u32 0) (.slice none 0 0))
  refine bodyPost_ret (v := .tuple #[frmV 0 0 0 0 none 0 0, .int .i64 E]) ?_ rfl ⟨none, 0, rfl, World.ownsRow_nil _ _ _ _, BF.out⟩
  clear d0 d1 d2 d3 d4 f0 f1 f2 f3 f4
  simp [results, Try.f15, go_sem, y0, y1, y2, y3, y4]
end Go.Proofs.Ytdgfofemogmmkaa
