/- Layer 15, the program's: sizes, takes, kindOf, Check. No statement is proved here. -/
import Derived.Test.YtdgfofemogmmkaaFrD
import Derived.Deep.RegionWith
namespace Go.Proofs.Ytdgfofemogmmkaa
open Go.RowKit
set_option linter.unusedVariables false
set_option maxRecDepth 100000

theorem fsizes_any (w : World) : Calls Try.prog 32 #[] w fun e w' => ∃ g, e = .returned (.slice (some ⟨g, 0, none⟩) 4 4) ∧ Arg w' .i64 (some ⟨g, 0, none⟩) 4 4 szFr ∧ Below w.heap.size w w' := by
  have hml : 4 ≤ maxLen := by decide
  have HA := Lib.hid (show Arg (w.alloc (.cells #[.int .i64 4, .int .i64 4, .int .i64 4, .int .i64 4] 3)) .i64 (some ⟨w.heap.size, 0, none⟩) 4 4 szFr from ⟨lit_row w 3 .i64 szFr _ _ _ rfl rfl (by simp), rfl, Nat.le_refl _, hml⟩)
  go_enter Try.func32, Try.ntmps32
  go_wp2
  go_ret
  exact ⟨_, rfl, HA.out, (Below.refl _ _).alloc (Nat.le_refl _) _⟩

abbrev greetV : Value := .iface 68 (.agg #[])
abbrev messV : Value := .iface 69 (.agg #[])
theorem method_greet (w : World) : (method 199 68 (.agg #[]) "catamaran/frame.takes").run Try.prog w = .ok (63, .agg #[]) w := by kernel_rfl
theorem method_mess (w : World) : (method 199 69 (.agg #[]) "catamaran/frame.takes").run Try.prog w = .ok (64, .agg #[]) w := by kernel_rfl

theorem takesG_any (n : Int) (w : World) : Calls Try.prog 63 #[.agg #[], .int .i64 n] w fun e w' => e = .returned (.bool (n == 0)) ∧ Below w.heap.size w w' := by
  go_enter Try.func63, Try.ntmps63
  go_wp2
  go_ret
  exact ⟨rfl, (Below.refl _ _).alloc (Nat.le_refl _) _⟩
theorem takesM_any (n : Int) (w : World) : Calls Try.prog 64 #[.agg #[], .int .i64 n] w fun e w' => e = .returned (.bool (decide (1 ≤ n ∧ n ≤ 64))) ∧ Below w.heap.size w w' := by
  by_cases h1 : 1 ≤ n
  · by_cases h2 : n ≤ 64
    · rw [decide_eq_true (show 1 ≤ n ∧ n ≤ 64 from ⟨h1, h2⟩)]
      go_enter Try.func64, Try.ntmps64
      go_wp2
      go_ret
      exact ⟨rfl, (Below.refl _ _).alloc (Nat.le_refl _) _⟩
    · rw [decide_eq_false (show ¬ (1 ≤ n ∧ n ≤ 64) from fun h => h2 h.2)]
      go_enter Try.func64, Try.ntmps64
      go_wp2
      go_ret
      exact ⟨rfl, (Below.refl _ _).alloc (Nat.le_refl _) _⟩
  · rw [decide_eq_false (show ¬ (1 ≤ n ∧ n ≤ 64) from fun h => h1 h.1)]
    go_enter Try.func64, Try.ntmps64
    go_wp2
    go_ret
    exact ⟨rfl, (Below.refl _ _).alloc (Nat.le_refl _) _⟩

theorem kindof_any (a b c d : Int) (A : Option Addr) (n k : Nat) (w : World) :
    Calls Try.prog 25 #[frmV a b c d A n k] w fun e w' => e = .returned (if c = 0 then greetV else messV) ∧ Below w.heap.size w w' := by
  obtain ⟨x, hbel⟩ := box_frm w a b c d A n k
  obtain ⟨w1, hw1⟩ : ∃ x : World, x = (w.alloc (.cells #[.int .u32 a, .int .u32 b, .int .u32 c, .int .u32 d, .slice A n k] 25)) := ⟨_, rfl⟩
  rw [← hw1] at x hbel
  obtain ⟨c0, c1, c2, c3, c4⟩ := x.frm
  have B := Lib.hid hbel
  clear x hbel
  by_cases hc : c = 0
  · rw [if_pos hc]
    have h1 : (c == 0) = true := beq_iff_eq.2 hc
    clear hc
    go_enter Try.func25, Try.ntmps25
    go_upto_region 1 with fail
    rw [← hw1]
    clear hw1
    go_wp2
    go_ret
    exact ⟨rfl, B.out⟩
  · rw [if_neg hc]
    have h1 : (c == 0) = false := beq_eq_false_iff_ne.2 hc
    clear hc
    go_enter Try.func25, Try.ntmps25
    go_upto_region 1 with fail
    rw [← hw1]
    clear hw1
    go_wp2
    go_ret
    exact ⟨rfl, B.out⟩

theorem kindof_greet (a b c d : Int) (A : Option Addr) (n k : Nat) (h : c = 0) (w : World) :
    Calls Try.prog 25 #[frmV a b c d A n k] w fun e w' => e = .returned greetV ∧ Below w.heap.size w w' := by
  have K := kindof_any a b c d A n k w
  rw [if_pos h] at K
  exact K
theorem kindof_mess (a b c d : Int) (A : Option Addr) (n k : Nat) (h : ¬ c = 0) (w : World) :
    Calls Try.prog 25 #[frmV a b c d A n k] w fun e w' => e = .returned messV ∧ Below w.heap.size w w' := by
  have K := kindof_any a b c d A n k w
  rw [if_neg h] at K
  exact K

set_option maxHeartbeats 3200000 in
theorem pcheck15_any (a b c d : Int) (A : Option Addr) (n k : Nat) (w : World) :
    Calls Try.prog 12 #[frmV a b c d A n k] w fun e w' => e = .returned (.int .i64 (if mayN a c n then 0 else 150)) ∧ Below w.heap.size w w' := by
  obtain ⟨x, hbel⟩ := box_frm w a b c d A n k
  obtain ⟨w1, hw1⟩ : ∃ x : World, x = (w.alloc (.cells #[.int .u32 a, .int .u32 b, .int .u32 c, .int .u32 d, .slice A n k] 25)) := ⟨_, rfl⟩
  rw [← hw1] at x hbel
  have X := Lib.hid x
  have B := Lib.hid hbel
  obtain ⟨E, hE⟩ : ∃ E : Int, E = (if mayN a c n then 0 else 150) := ⟨_, rfl⟩
  rw [← hE]
  clear x hbel
  by_cases ha : a = 0
  · have h0 : (a == 0) = true := beq_iff_eq.2 ha
    replace hE : E = 150 := by rw [hE, if_neg (fun h => h.1 ha)]
    subst hE
    clear ha
    obtain ⟨c0, c1, c2, c3, c4⟩ := X.out.frm
    go_enter Try.func12, Try.ntmps12
    go_upto_region 1 with fail
    rw [← hw1]
    clear hw1
    first | go_region_with (fail) | fail
    all_goals (
      go_wp2
      go_ret
      exact ⟨rfl, below_drewN B.out 1⟩)
  · have h0 : (a == 0) = false := beq_eq_false_iff_ne.2 ha
    obtain ⟨r, hr⟩ : ∃ r, r = decide (mayN a c n) := ⟨_, rfl⟩
    have hEr : E = (if r then 0 else 150) := by
      rw [hE, hr]
      by_cases hm : mayN a c n <;> simp [hm]
    by_cases hc : c = 0
    · have KO := Lib.hid (kindof_greet a b c d A n k hc)
      have TK := Lib.hid (fun wx => takesG_any (n : Int) wx)
      have hrr : ((n : Int) == 0) = r := by
        rw [hr, Bool.eq_iff_iff, decide_eq_true_iff, beq_iff_eq]
        unfold mayN
        rw [if_pos hc]
        constructor
        · intro h; exact ⟨ha, by omega⟩
        · intro h; omega
      rw [hrr] at TK
      have M := method_greet
      obtain ⟨c0, c1, c2, c3, c4⟩ := X.out.frm
      clear ha hc hr hE hrr
      go_enter Try.func12, Try.ntmps12
      go_upto_region 1 with fail
      rw [← hw1]
      clear hw1
      have hcur : Below w.heap.size w w1.drew := below_drewN B.out 1
      have XD := Lib.hid (X.out.below (below_drewN (Below.refl w1.heap.size w1) 1) X.out.lt)
      go_region_with ((first
        | (go_at_call 25; refine (KO.out _).mono ?_; rintro e w2 ⟨rfl, hb⟩; have hcur := hcur.trans (hb.mono hcur.size); obtain ⟨c0, c1, c2, c3, c4⟩ := (XD.out.below hb XD.out.lt).frm)
        | (go_at_call 63; refine (TK.out _).mono ?_; rintro e w3 ⟨rfl, hb⟩; have hcur := hcur.trans (hb.mono hcur.size))))
      all_goals (
        have B := Lib.hid hcur
        cases r <;> simp only [if_true, if_false, Bool.false_eq_true] at hEr <;> subst hEr <;> (go_wp2; go_ret; exact ⟨rfl, B.out⟩))
    · have KO := Lib.hid (kindof_mess a b c d A n k hc)
      have TK := Lib.hid (fun wx => takesM_any (n : Int) wx)
      have hrr : decide (1 ≤ (n : Int) ∧ (n : Int) ≤ 64) = r := by
        rw [hr, Bool.eq_iff_iff, decide_eq_true_iff, decide_eq_true_iff]
        unfold mayN
        rw [if_neg hc]
        constructor
        · intro h; exact ⟨ha, by omega, by omega⟩
        · intro h; have := h.2; omega
      rw [hrr] at TK
      have M := method_mess
      obtain ⟨c0, c1, c2, c3, c4⟩ := X.out.frm
      clear ha hc hr hE hrr
      go_enter Try.func12, Try.ntmps12
      go_upto_region 1 with fail
      rw [← hw1]
      clear hw1
      have hcur : Below w.heap.size w w1.drew := below_drewN B.out 1
      have XD := Lib.hid (X.out.below (below_drewN (Below.refl w1.heap.size w1) 1) X.out.lt)
      go_region_with ((first
        | (go_at_call 25; refine (KO.out _).mono ?_; rintro e w2 ⟨rfl, hb⟩; have hcur := hcur.trans (hb.mono hcur.size); obtain ⟨c0, c1, c2, c3, c4⟩ := (XD.out.below hb XD.out.lt).frm)
        | (go_at_call 64; refine (TK.out _).mono ?_; rintro e w3 ⟨rfl, hb⟩; have hcur := hcur.trans (hb.mono hcur.size))))
      all_goals (
        have B := Lib.hid hcur
        cases r <;> simp only [if_true, if_false, Bool.false_eq_true] at hEr <;> subst hEr <;> (go_wp2; go_ret; exact ⟨rfl, B.out⟩))
end Go.Proofs.Ytdgfofemogmmkaa
