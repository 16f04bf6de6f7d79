/- Layer 15, the document's: May, Check, Same, Twin. No statement is proved here. -/
import Derived.Test.YtdgfofemogmmkaaFrO
import Derived.Test.YtdgfofemogmmkaaCopy
import Derived.Laws.Rows
import Derived.Deep.Cut
namespace Go.Proofs.Ytdgfofemogmmkaa
open Go.RowKit
set_option linter.unusedVariables false
set_option maxRecDepth 100000

theorem box_frm (w : World) (a b c d : Int) (A : Option Addr) (n k : Nat) :
    Blk (w.alloc (.cells #[.int .u32 a, .int .u32 b, .int .u32 c, .int .u32 d, .slice A n k] 25)) w.heap.size 25 (frmL a b c d A n k) ∧ Below w.heap.size w (w.alloc (.cells #[.int .u32 a, .int .u32 b, .int .u32 c, .int .u32 d, .slice A n k] 25)) :=
  ⟨Blk.new w 25 (frmL a b c d A n k), (Below.refl _ _).alloc (Nat.le_refl _) _⟩
theorem Blk.frm {w : World} {g : Nat} {t : TypeId} {a b c d : Int} {A : Option Addr} {n k : Nat} (h : Blk w g t (frmL a b c d A n k)) :
    w.cell? ⟨g, 0, none⟩ = some (.int .u32 a) ∧ w.cell? ⟨g, 1, none⟩ = some (.int .u32 b) ∧ w.cell? ⟨g, 2, none⟩ = some (.int .u32 c) ∧ w.cell? ⟨g, 3, none⟩ = some (.int .u32 d) ∧ w.cell? ⟨g, 4, none⟩ = some (.slice A n k) :=
  ⟨h.cell 0, h.cell 1, h.cell 2, h.cell 3, h.cell 4⟩
/-- May a frame be, told by its numbers alone. -/
def mayN (a c : Int) (n : Nat) : Prop := a ≠ 0 ∧ (if c = 0 then n = 0 else 1 ≤ n ∧ n ≤ 64)
instance (a c : Int) (n : Nat) : Decidable (mayN a c n) := by unfold mayN; infer_instance
theorem mayN_iff {a b c d : Int} {z : List Int} : mayF (a, b, c, d, z) ↔ mayN a c z.length := Iff.rfl

set_option maxHeartbeats 3200000 in
theorem rmayF_any (a b c d : Int) (A : Option Addr) (n k : Nat) (w : World) :
    Calls Try.prog 26 #[frmV a b c d A n k] w fun e w' => e = .returned (.bool (decide (mayN a c n))) ∧ Below w.heap.size w w' := by
  obtain ⟨x, hbel⟩ := box_frm w a b c d A n k
  obtain ⟨w1, hw1⟩ : ∃ x : World, x = (w.alloc (.cells #[.int .u32 a, .int .u32 b, .int .u32 c, .int .u32 d, .slice A n k] 25)) := ⟨_, rfl⟩
  rw [← hw1] at x hbel
  obtain ⟨c0, c1, c2, c3, c4⟩ := x.frm
  have B := Lib.hid hbel
  obtain ⟨r, hr⟩ : ∃ r, r = decide (mayN a c n) := ⟨_, rfl⟩
  rw [← hr]
  clear x hbel
  by_cases ha : a = 0
  · have h0 : (a == 0) = true := beq_iff_eq.2 ha
    have R := Lib.hid (show r = false by rw [hr]; exact decide_eq_false (fun h => h.1 ha))
    clear ha hr
    go_enter Try.func26, Try.ntmps26
    go_upto_region 1 with fail
    rw [← hw1]
    clear hw1
    go_wp2
    go_ret
    exact ⟨by rw [R.out]; rfl, B.out⟩
  · have h0 : (a == 0) = false := beq_eq_false_iff_ne.2 ha
    by_cases hc : c = 0
    · have h1 : (c == 0) = true := beq_iff_eq.2 hc
      have R := Lib.hid (show r = ((n : Int) == 0) by
        rw [hr, Bool.eq_iff_iff, decide_eq_true_iff, beq_iff_eq]
        unfold mayN
        rw [if_pos hc]
        constructor
        · intro h; omega
        · intro h; exact ⟨ha, by omega⟩)
      clear ha hc hr
      go_enter Try.func26, Try.ntmps26
      go_upto_region 1 with fail
      rw [← hw1]
      clear hw1
      go_wp2
      go_ret
      exact ⟨by rw [R.out]; rfl, B.out⟩
    · have h1 : (c == 0) = false := beq_eq_false_iff_ne.2 hc
      by_cases hn : 1 ≤ n
      · have hn1 : (1 : Int) ≤ (n : Int) := by omega
        have R := Lib.hid (show r = decide ((n : Int) ≤ 64) by
          rw [hr, decide_eq_decide]
          unfold mayN
          rw [if_neg hc]
          constructor
          · intro h; omega
          · intro h; exact ⟨ha, by omega⟩)
        clear ha hc hr
        go_enter Try.func26, Try.ntmps26
        go_upto_region 1 with fail
        rw [← hw1]
        clear hw1
        go_wp2
        go_ret
        exact ⟨by rw [R.out]; rfl, B.out⟩
      · have hn1 : ¬ (1 : Int) ≤ (n : Int) := by omega
        have R := Lib.hid (show r = false by
          rw [hr]
          refine decide_eq_false (fun h => ?_)
          unfold mayN at h
          rw [if_neg hc] at h
          exact hn h.2.1)
        clear ha hc hr
        go_enter Try.func26, Try.ntmps26
        go_upto_region 1 with fail
        rw [← hw1]
        clear hw1
        go_wp2
        go_ret
        exact ⟨by rw [R.out]; rfl, B.out⟩

theorem rcheckF_any (a b c d : Int) (A : Option Addr) (n k : Nat) (w : World) :
    Calls Try.prog 18 #[frmV a b c d A n k] w fun e w' => e = .returned (.int .i64 (if mayN a c n then 0 else 150)) ∧ Below w.heap.size w w' := by
  obtain ⟨x, hbel⟩ := box_frm w a b c d A n k
  obtain ⟨w1, hw1⟩ : ∃ x : World, x = (w.alloc (.cells #[.int .u32 a, .int .u32 b, .int .u32 c, .int .u32 d, .slice A n k] 25)) := ⟨_, rfl⟩
  rw [← hw1] at x hbel
  obtain ⟨c0, c1, c2, c3, c4⟩ := x.frm
  have B := Lib.hid hbel
  have M := Lib.hid (rmayF_any a b c d A n k w1)
  by_cases hm : mayN a c n
  · rw [if_pos hm]
    rw [decide_eq_true hm] at M
    clear x hbel hm
    go_enter Try.func18, Try.ntmps18
    go_wp2_with fail
    rw [← hw1]
    clear hw1
    refine M.out.mono ?_
    rintro e w2 ⟨rfl, hb⟩
    have B := Lib.hid (B.out.trans (hb.mono B.out.size))
    clear hb M c0 c1 c2 c3 c4
    go_wp2
    go_ret
    exact ⟨rfl, B.out⟩
  · rw [if_neg hm]
    rw [decide_eq_false hm] at M
    clear x hbel hm
    go_enter Try.func18, Try.ntmps18
    go_wp2_with fail
    rw [← hw1]
    clear hw1
    refine M.out.mono ?_
    rintro e w2 ⟨rfl, hb⟩
    have B := Lib.hid (B.out.trans (hb.mono B.out.size))
    clear hb M c0 c1 c2 c3 c4
    go_wp2
    go_ret
    exact ⟨rfl, B.out⟩
end Go.Proofs.Ytdgfofemogmmkaa
