/- Layer 10, JournalCrash: the walk, given what the program's calls do. -/
import Derived.Test.YteapaoefgcnicaaJrnBg
namespace Go.Proofs.Yteapaoefgcnicaa
open Go.RowKit
set_option linter.unusedVariables false

theorem jaE_zero {P T A M W Q : Int} {S : List Sec} {C : List Pnd} {a : Int} (h : jaE P T A M W Q S C a = 0) : mayT P T A M W Q S C ∧ arJ a := by
  unfold jaE at h
  split at h
  · split at h
    · exact ⟨by assumption, by assumption⟩
    · cases h
  · cases h
theorem jaE_yes {P T A M W Q : Int} {S : List Sec} {C : List Pnd} {a : Int} (h : mayT P T A M W Q S C) (ha : arJ a) : jaE P T A M W Q S C a = 0 := (if_pos h).trans (if_pos ha)
theorem sam4_no (A : Option Addr) (n c : Nat) (A' : Option Addr) (n' c' : Nat) (L K : List Txt) (w : World) (ha : Texts w A n c L) (hb : Texts w A' n' c' K) (h : L ≠ K) :
    Calls Try.prog 18 #[.slice A n c, .slice A' n' c'] w fun e w' => e = .returned (.bool false) ∧ Below w.heap.size w w' := by
  have h2 := sam4_any A n c L A' n' c' K w ha hb
  rw [decide_eq_false h] at h2
  refine h2.mono ?_
  rintro e w' ⟨rfl, q, rfl⟩
  exact ⟨rfl, below_drewN (Below.refl _ _) q⟩
theorem sam4q_no (A : Option Addr) (n c : Nat) (A' : Option Addr) (n' c' : Nat) (L K : List Txt) (w : World) (ha : Texts w A n c L) (hb : Texts w A' n' c' K) (h : L ≠ K) :
    Calls Try.prog 18 #[.slice A n c, .slice A' n' c'] w fun e w' => e = .returned (.bool false) ∧ ∃ q, w' = w.drewN q := by
  have h2 := sam4_any A n c L A' n' c' K w ha hb
  rw [decide_eq_false h] at h2
  exact h2
theorem sam4q_yes (A : Option Addr) (n c : Nat) (A' : Option Addr) (n' c' : Nat) (L : List Txt) (w : World) (ha : Texts w A n c L) (hb : Texts w A' n' c' L) :
    Calls Try.prog 18 #[.slice A n c, .slice A' n' c'] w fun e w' => e = .returned (.bool true) ∧ ∃ q, w' = w.drewN q := by
  have h2 := sam4_any A n c L A' n' c' L w ha hb
  rw [decide_eq_true rfl] at h2
  exact h2
theorem jN_few {P T A M W Q : Int} {S : List Sec} {C : List Pnd} (h : mayT P T A M W Q S C) (f : Nat → Txt) : (jN f A.toNat).length ≤ 1000 := by
  rw [jN_length]
  have h1 := jM_le f A.toNat
  have h2 := h.1.2.2.2.2.2.1
  omega

set_option maxRecDepth 100000 in
set_option maxHeartbeats 51200000 in
theorem jcrash_of (JD : JrnDoes) (AL : ∀ w, Calls Try.prog 14 #[] w fun e w' => e = .returned (.bool true) ∧ Below w.heap.size w w') (P T A M W Q : Int) (D : Option Addr) (n c : Nat) (D' : Option Addr) (n' c' : Nat) (S : List Sec) (C : List Pnd) (a g : Int) (a4 : Option Addr) (len4 cap4 : Nat) (z4 : List Int) (a5 : Option Addr) (len5 cap5 : Nat) (z5 : List Int) (o : Int) (w : World) (hq : Dsk w D n c D' n' c' S C) (hg : isG g) (w4 : IsRow .u8 w a4 len4 cap4 z4) (w5 : IsRow .u8 w a5 len5 cap5 z5) (ho : isG o) :
    Calls Try.prog 7 #[cfgV P T A M W Q, diskV D n c D' n' c', .int .i64 a, .int .u64 g, .slice a4 len4 cap4, .slice a5 len5 cap5, .int .u64 o] w fun e w' => e = .returned (.bool true) ∧ Below w.heap.size w w' := by
  obtain ⟨x, hbel⟩ := TBox.new P T A M W Q hq
  obtain ⟨w0, hw0⟩ : ∃ x : World, x = (w.alloc (.cells #[.int .i64 P, .int .i64 T, .int .i64 A, .int .i64 M, .int .i64 W, .int .i64 Q] 33)).alloc (.cells #[.slice D n c, .slice D' n' c'] 25) := ⟨_, rfl⟩
  rw [← hw0] at x hbel
  obtain ⟨b, hb, hbw⟩ := w4.arg
  obtain ⟨F, hF, hFw⟩ := w5.arg
  have hbl := hb.len
  have hFl := hF.len
  have BY := Lib.hid (fun z hz => wf_byte (hbw z hz) : ∀ z ∈ b, isByte z)
  have FY := Lib.hid (fun z hz => wf_byte (hFw z hz) : ∀ z ∈ F, isByte z)
  have X := Lib.hid x
  have B := Lib.hid hbel
  have RB := Lib.hid (hb.below hbel)
  have RF := Lib.hid (hF.below hbel)
  have hsl := hq.secs.len
  have hpl := hq.pnds.len
  obtain ⟨c0, c1, c2, c3, c4, c5, d0, d1⟩ := x.cells
  have gg := fun w hx => great_any D n c D' n' c' S C 300 w hx
  clear x hbel hq w4 w5 hb hbw hF hFw
  cases hg1 : greatD S C 300 with
  | true =>
    rw [hg1] at gg
    have GG := Lib.hid gg
    clear gg hg1 hbl hFl hsl hpl
    go_enter Try.func7, Try.ntmps7
    go_wp2_with fail
    rw [← hw0]
    clear hw0
    refine (AL _).mono ?_
    rintro e wa ⟨rfl, hb⟩
    have B := Lib.hid (B.out.trans (hb.mono B.out.size))
    have X := Lib.hid (X.out.below hb)
    have RB := Lib.hid (RB.out.below hb)
    have RF := Lib.hid (RF.out.below hb)
    clear hb c0 c1 c2 c3 c4 c5 d0 d1
    obtain ⟨c0, c1, c2, c3, c4, c5, d0, d1⟩ := X.out.cells
    go_wp2_with fail
    refine (GG.out _ X.out.dsk.dsk).mono ?_
    rintro e wb ⟨rfl, hb⟩
    have B := Lib.hid (B.out.trans (hb.mono B.out.size))
    have X := Lib.hid (X.out.below hb)
    have RB := Lib.hid (RB.out.below hb)
    have RF := Lib.hid (RF.out.below hb)
    clear hb c0 c1 c2 c3 c4 c5 d0 d1
    obtain ⟨c0, c1, c2, c3, c4, c5, d0, d1⟩ := X.out.cells
    go_wp2
    go_ret
    exact ⟨rfl, B.out⟩
  | false =>
  rw [hg1] at gg
  have GG := Lib.hid gg
  have SZ0 := Lib.hid (small_ofD (by decide) (by decide) hg1)
  clear gg hg1
  by_cases hc1 : 0 < n'
  · have hc2 : (0 : Int) < (n' : Int) := by omega
    clear hbl hFl hsl hpl hc1
    go_enter Try.func7, Try.ntmps7
    go_wp2_with fail
    rw [← hw0]
    clear hw0
    refine (AL _).mono ?_
    rintro e wa ⟨rfl, hb⟩
    have B := Lib.hid (B.out.trans (hb.mono B.out.size))
    have X := Lib.hid (X.out.below hb)
    have RB := Lib.hid (RB.out.below hb)
    have RF := Lib.hid (RF.out.below hb)
    clear hb c0 c1 c2 c3 c4 c5 d0 d1
    obtain ⟨c0, c1, c2, c3, c4, c5, d0, d1⟩ := X.out.cells
    go_wp2_with fail
    refine (GG.out _ X.out.dsk.dsk).mono ?_
    rintro e wb ⟨rfl, hb⟩
    have B := Lib.hid (B.out.trans (hb.mono B.out.size))
    have X := Lib.hid (X.out.below hb)
    have RB := Lib.hid (RB.out.below hb)
    have RF := Lib.hid (RF.out.below hb)
    clear hb c0 c1 c2 c3 c4 c5 d0 d1
    obtain ⟨c0, c1, c2, c3, c4, c5, d0, d1⟩ := X.out.cells
    go_wp2
    go_ret
    exact ⟨rfl, B.out⟩
  obtain rfl : n' = 0 := by omega
  obtain rfl : C = [] := List.eq_nil_of_length_eq_zero hpl
  clear hpl hc1
  by_cases hl1 : 100 < len4
  · have hl2 : (100 : Int) < (len4 : Int) := by omega
    clear hbl hFl hsl hl1
    go_enter Try.func7, Try.ntmps7
    go_wp2_with fail
    rw [← hw0]
    clear hw0
    refine (AL _).mono ?_
    rintro e wa ⟨rfl, hb⟩
    have B := Lib.hid (B.out.trans (hb.mono B.out.size))
    have X := Lib.hid (X.out.below hb)
    have RB := Lib.hid (RB.out.below hb)
    have RF := Lib.hid (RF.out.below hb)
    clear hb c0 c1 c2 c3 c4 c5 d0 d1
    obtain ⟨c0, c1, c2, c3, c4, c5, d0, d1⟩ := X.out.cells
    go_wp2_with fail
    refine (GG.out _ X.out.dsk.dsk).mono ?_
    rintro e wb ⟨rfl, hb⟩
    have B := Lib.hid (B.out.trans (hb.mono B.out.size))
    have X := Lib.hid (X.out.below hb)
    have RB := Lib.hid (RB.out.below hb)
    have RF := Lib.hid (RF.out.below hb)
    clear hb c0 c1 c2 c3 c4 c5 d0 d1
    obtain ⟨c0, c1, c2, c3, c4, c5, d0, d1⟩ := X.out.cells
    go_wp2
    go_ret
    exact ⟨rfl, B.out⟩
  have hl2 : ¬ (100 : Int) < (len4 : Int) := by omega
  by_cases hm1 : 200 < len5
  · have hm2 : (200 : Int) < (len5 : Int) := by omega
    clear hbl hFl hsl hl1 hm1
    go_enter Try.func7, Try.ntmps7
    go_wp2_with fail
    rw [← hw0]
    clear hw0
    refine (AL _).mono ?_
    rintro e wa ⟨rfl, hb⟩
    have B := Lib.hid (B.out.trans (hb.mono B.out.size))
    have X := Lib.hid (X.out.below hb)
    have RB := Lib.hid (RB.out.below hb)
    have RF := Lib.hid (RF.out.below hb)
    clear hb c0 c1 c2 c3 c4 c5 d0 d1
    obtain ⟨c0, c1, c2, c3, c4, c5, d0, d1⟩ := X.out.cells
    go_wp2_with fail
    refine (GG.out _ X.out.dsk.dsk).mono ?_
    rintro e wb ⟨rfl, hb⟩
    have B := Lib.hid (B.out.trans (hb.mono B.out.size))
    have X := Lib.hid (X.out.below hb)
    have RB := Lib.hid (RB.out.below hb)
    have RF := Lib.hid (RF.out.below hb)
    clear hb c0 c1 c2 c3 c4 c5 d0 d1
    obtain ⟨c0, c1, c2, c3, c4, c5, d0, d1⟩ := X.out.cells
    go_wp2
    go_ret
    exact ⟨rfl, B.out⟩
  have hm2 : ¬ (200 : Int) < (len5 : Int) := by omega
  have SD := Lib.hid (fun wx hx => JD.scan P T A M W Q D n c D' 0 c' S [] a g wx hx SZ0.out hg)
  unfold ScanOut at SD
  by_cases he : jaE P T A M W Q S [] a = 0
  case neg =>
    obtain ⟨E, hE⟩ : ∃ E, E = jaE P T A M W Q S [] a := ⟨_, rfl⟩
    rw [show jsL P T A M W Q S [] a g = [] from if_neg he] at SD
    rw [← hE] at he SD
    have q1 : (E != 0) = true := bne_iff_ne.2 he
    simp only [List.length_nil] at SD
    clear hbl hFl hsl hl1 hm1 he hE
    go_enter Try.func7, Try.ntmps7
    go_wp2_with fail
    rw [← hw0]
    clear hw0
    refine (AL _).mono ?_
    rintro e wa ⟨rfl, hb⟩
    have B := Lib.hid (B.out.trans (hb.mono B.out.size))
    have X := Lib.hid (X.out.below hb)
    have RB := Lib.hid (RB.out.below hb)
    have RF := Lib.hid (RF.out.below hb)
    clear hb c0 c1 c2 c3 c4 c5 d0 d1
    obtain ⟨c0, c1, c2, c3, c4, c5, d0, d1⟩ := X.out.cells
    go_wp2_with fail
    refine (GG.out _ X.out.dsk.dsk).mono ?_
    rintro e wb ⟨rfl, hb⟩
    have B := Lib.hid (B.out.trans (hb.mono B.out.size))
    have X := Lib.hid (X.out.below hb)
    have RB := Lib.hid (RB.out.below hb)
    have RF := Lib.hid (RF.out.below hb)
    clear hb c0 c1 c2 c3 c4 c5 d0 d1
    obtain ⟨c0, c1, c2, c3, c4, c5, d0, d1⟩ := X.out.cells
    go_wp2_with fail
    refine (SD.out _ X.out.dsk.dsk).mono ?_
    rintro e wc ⟨AW, kW, rfl, hown, hb⟩
    have TW := Lib.hid hown.texts
    have B := Lib.hid (B.out.trans (hb.mono B.out.size))
    have X := Lib.hid (X.out.below hb)
    have RB := Lib.hid (RB.out.below hb)
    have RF := Lib.hid (RF.out.below hb)
    clear hb hown c0 c1 c2 c3 c4 c5 d0 d1
    obtain ⟨c0, c1, c2, c3, c4, c5, d0, d1⟩ := X.out.cells
    go_wp2
    go_ret
    exact ⟨rfl, B.out⟩
  obtain ⟨hm, ha⟩ := jaE_zero he
  rw [show jsL P T A M W Q S [] a g = jN (jf S [] A a g) A.toNat from if_pos he, he] at SD
  have hfew := jN_few hm (jf S [] A a g)
  obtain ⟨J0, hJ0⟩ : ∃ J, J = jN (jf S [] A a g) A.toNat := ⟨_, rfl⟩
  rw [← hJ0] at SD hfew
  obtain ⟨n0, hn0⟩ : ∃ m, m = J0.length := ⟨_, rfl⟩
  rw [← hn0] at SD hfew
  have hb100 : len4 ≤ 100 := by omega
  by_cases hp : jpE P T A M W Q S [] a (n0 : Int) b = 0
  case neg =>
    have WN := Lib.hid (fun wx hx (hr : Arg wx .u8 a4 len4 cap4 b) => with_no JD P T A M W Q D n c D' 0 c' S [] a g n0 a4 len4 cap4 b wx hx SZ0.out hg hr BY.out hb100 hp)
    have hwhy : A ≤ (n0 : Int) ∨ (¬ A ≤ (n0 : Int) ∧ ((len4 : Int) < 1 ∨ (¬ (len4 : Int) < 1 ∧ (20 : Int) < (len4 : Int)))) := by
      by_cases h1 : A ≤ (n0 : Int)
      · exact .inl h1
      · refine .inr ⟨h1, ?_⟩
        by_cases h2 : (len4 : Int) < 1
        · exact .inl h2
        · refine .inr ⟨h2, ?_⟩
          refine Classical.byContradiction fun h3 => hp ?_
          have hA := hm.1.2.2.2.2.2.1
          unfold jpE jtE
          rw [if_pos he, if_pos (by omega), if_pos (by omega), if_pos ⟨by omega, by omega⟩, if_pos ⟨by omega, by omega⟩]
    clear hbl hFl hsl hl1 hm1 he hp hm ha hJ0 hn0 hfew
    rcases hwhy with q1 | ⟨q1, q2 | ⟨q2, q3⟩⟩
    · skip
      go_enter Try.func7, Try.ntmps7
      go_wp2_with fail
      rw [← hw0]
      clear hw0
      refine (AL _).mono ?_
      rintro e wa ⟨rfl, hb⟩
      have B := Lib.hid (B.out.trans (hb.mono B.out.size))
      have X := Lib.hid (X.out.below hb)
      have RB := Lib.hid (RB.out.below hb)
      have RF := Lib.hid (RF.out.below hb)
      clear hb c0 c1 c2 c3 c4 c5 d0 d1
      obtain ⟨c0, c1, c2, c3, c4, c5, d0, d1⟩ := X.out.cells
      go_wp2_with fail
      refine (GG.out _ X.out.dsk.dsk).mono ?_
      rintro e wb ⟨rfl, hb⟩
      have B := Lib.hid (B.out.trans (hb.mono B.out.size))
      have X := Lib.hid (X.out.below hb)
      have RB := Lib.hid (RB.out.below hb)
      have RF := Lib.hid (RF.out.below hb)
      clear hb c0 c1 c2 c3 c4 c5 d0 d1
      obtain ⟨c0, c1, c2, c3, c4, c5, d0, d1⟩ := X.out.cells
      go_wp2_with fail
      refine (SD.out _ X.out.dsk.dsk).mono ?_
      rintro e wc ⟨AW, kW, rfl, hown, hb⟩
      have TW := Lib.hid hown.texts
      have B := Lib.hid (B.out.trans (hb.mono B.out.size))
      have X := Lib.hid (X.out.below hb)
      have RB := Lib.hid (RB.out.below hb)
      have RF := Lib.hid (RF.out.below hb)
      clear hb hown c0 c1 c2 c3 c4 c5 d0 d1
      obtain ⟨c0, c1, c2, c3, c4, c5, d0, d1⟩ := X.out.cells
      go_wp2_with fail
      refine (WN.out _ X.out.dsk.dsk RB.out).mono ?_
      rintro e wd ⟨rfl, hb⟩
      have hb := hb.alloc hb.size (.cells #[.slice D n c, .slice D' 0 c'] 25)
      have B := Lib.hid (B.out.trans (hb.mono B.out.size))
      have X := Lib.hid (X.out.below hb)
      clear hb c0 c1 c2 c3 c4 c5 d0 d1
      go_upto_region 9 with fail
      obtain ⟨Gx, hG⟩ : ∃ x, x = wd.heap.size := ⟨_, rfl⟩
      rw [← hG]
      obtain ⟨we, hW⟩ : ∃ x : World, x = wd.alloc (.cells #[.slice D n c, .slice D' 0 c'] 25) := ⟨_, rfl⟩
      rw [← hW] at X B ⊢
      clear hW hG
      obtain ⟨c0, c1, c2, c3, c4, c5, d0, d1⟩ := X.out.cells
      go_wp2
      go_ret
      exact ⟨rfl, B.out⟩
    · skip
      go_enter Try.func7, Try.ntmps7
      go_wp2_with fail
      rw [← hw0]
      clear hw0
      refine (AL _).mono ?_
      rintro e wa ⟨rfl, hb⟩
      have B := Lib.hid (B.out.trans (hb.mono B.out.size))
      have X := Lib.hid (X.out.below hb)
      have RB := Lib.hid (RB.out.below hb)
      have RF := Lib.hid (RF.out.below hb)
      clear hb c0 c1 c2 c3 c4 c5 d0 d1
      obtain ⟨c0, c1, c2, c3, c4, c5, d0, d1⟩ := X.out.cells
      go_wp2_with fail
      refine (GG.out _ X.out.dsk.dsk).mono ?_
      rintro e wb ⟨rfl, hb⟩
      have B := Lib.hid (B.out.trans (hb.mono B.out.size))
      have X := Lib.hid (X.out.below hb)
      have RB := Lib.hid (RB.out.below hb)
      have RF := Lib.hid (RF.out.below hb)
      clear hb c0 c1 c2 c3 c4 c5 d0 d1
      obtain ⟨c0, c1, c2, c3, c4, c5, d0, d1⟩ := X.out.cells
      go_wp2_with fail
      refine (SD.out _ X.out.dsk.dsk).mono ?_
      rintro e wc ⟨AW, kW, rfl, hown, hb⟩
      have TW := Lib.hid hown.texts
      have B := Lib.hid (B.out.trans (hb.mono B.out.size))
      have X := Lib.hid (X.out.below hb)
      have RB := Lib.hid (RB.out.below hb)
      have RF := Lib.hid (RF.out.below hb)
      clear hb hown c0 c1 c2 c3 c4 c5 d0 d1
      obtain ⟨c0, c1, c2, c3, c4, c5, d0, d1⟩ := X.out.cells
      go_wp2_with fail
      refine (WN.out _ X.out.dsk.dsk RB.out).mono ?_
      rintro e wd ⟨rfl, hb⟩
      have hb := hb.alloc hb.size (.cells #[.slice D n c, .slice D' 0 c'] 25)
      have B := Lib.hid (B.out.trans (hb.mono B.out.size))
      have X := Lib.hid (X.out.below hb)
      clear hb c0 c1 c2 c3 c4 c5 d0 d1
      go_upto_region 9 with fail
      obtain ⟨Gx, hG⟩ : ∃ x, x = wd.heap.size := ⟨_, rfl⟩
      rw [← hG]
      obtain ⟨we, hW⟩ : ∃ x : World, x = wd.alloc (.cells #[.slice D n c, .slice D' 0 c'] 25) := ⟨_, rfl⟩
      rw [← hW] at X B ⊢
      clear hW hG
      obtain ⟨c0, c1, c2, c3, c4, c5, d0, d1⟩ := X.out.cells
      go_wp2
      go_ret
      exact ⟨rfl, B.out⟩
    · skip
      go_enter Try.func7, Try.ntmps7
      go_wp2_with fail
      rw [← hw0]
      clear hw0
      refine (AL _).mono ?_
      rintro e wa ⟨rfl, hb⟩
      have B := Lib.hid (B.out.trans (hb.mono B.out.size))
      have X := Lib.hid (X.out.below hb)
      have RB := Lib.hid (RB.out.below hb)
      have RF := Lib.hid (RF.out.below hb)
      clear hb c0 c1 c2 c3 c4 c5 d0 d1
      obtain ⟨c0, c1, c2, c3, c4, c5, d0, d1⟩ := X.out.cells
      go_wp2_with fail
      refine (GG.out _ X.out.dsk.dsk).mono ?_
      rintro e wb ⟨rfl, hb⟩
      have B := Lib.hid (B.out.trans (hb.mono B.out.size))
      have X := Lib.hid (X.out.below hb)
      have RB := Lib.hid (RB.out.below hb)
      have RF := Lib.hid (RF.out.below hb)
      clear hb c0 c1 c2 c3 c4 c5 d0 d1
      obtain ⟨c0, c1, c2, c3, c4, c5, d0, d1⟩ := X.out.cells
      go_wp2_with fail
      refine (SD.out _ X.out.dsk.dsk).mono ?_
      rintro e wc ⟨AW, kW, rfl, hown, hb⟩
      have TW := Lib.hid hown.texts
      have B := Lib.hid (B.out.trans (hb.mono B.out.size))
      have X := Lib.hid (X.out.below hb)
      have RB := Lib.hid (RB.out.below hb)
      have RF := Lib.hid (RF.out.below hb)
      clear hb hown c0 c1 c2 c3 c4 c5 d0 d1
      obtain ⟨c0, c1, c2, c3, c4, c5, d0, d1⟩ := X.out.cells
      go_wp2_with fail
      refine (WN.out _ X.out.dsk.dsk RB.out).mono ?_
      rintro e wd ⟨rfl, hb⟩
      have hb := hb.alloc hb.size (.cells #[.slice D n c, .slice D' 0 c'] 25)
      have B := Lib.hid (B.out.trans (hb.mono B.out.size))
      have X := Lib.hid (X.out.below hb)
      clear hb c0 c1 c2 c3 c4 c5 d0 d1
      go_upto_region 9 with fail
      obtain ⟨Gx, hG⟩ : ∃ x, x = wd.heap.size := ⟨_, rfl⟩
      rw [← hG]
      obtain ⟨we, hW⟩ : ∃ x : World, x = wd.alloc (.cells #[.slice D n c, .slice D' 0 c'] 25) := ⟨_, rfl⟩
      rw [← hW] at X B ⊢
      clear hW hG
      obtain ⟨c0, c1, c2, c3, c4, c5, d0, d1⟩ := X.out.cells
      go_wp2
      go_ret
      exact ⟨rfl, B.out⟩
  obtain ⟨_, _, hj0, hjA, hb1, hb20⟩ := jpE_zero hp
  have WY := Lib.hid (fun wx hx (hr : Arg wx .u8 a4 len4 cap4 b) => with_yes JD P T A M W Q D n c D' 0 c' S [] a g n0 a4 len4 cap4 b wx hx SZ0.out hg hr BY.out hb100 hp (by decide))
  obtain ⟨t1, t2, t3, t4, t5⟩ := jrn_tells (F := F) hm ha hg hb1 hb20 (hn0.trans (by rw [hJ0])) hjA
  rw [List.nil_append] at WY
  obtain ⟨C2, hC2⟩ : ∃ y, y = [(2 + a * A + (n0 : Int), jT g (n0 : Int) b)] := ⟨_, rfl⟩
  rw [← hC2] at WY t1 t2 t3 t4 t5
  have hc2l : C2.length = 1 := by rw [hC2]; rfl
  have hgood : ∀ p ∈ C2, (0 ≤ p.1 ∧ p.1 < (S.length : Int) ∧ p.2.length = 32) ∧ ∀ z ∈ p.2, isByte z := by
    intro p hp
    rw [hC2, List.mem_singleton] at hp
    subst hp
    obtain ⟨r0, r1⟩ := at_area hm ha hjA
    exact ⟨⟨r0, r1, jT_length g _ hb20⟩, jT_byte g _ BY.out⟩
  have hsm := small_more SZ0.out hgood (k := 1) (by decide)
  rw [List.take_of_length_le (by omega), List.nil_append] at hsm
  have hck : chkD S C2 = 0 := if_pos t1
  obtain ⟨hcm, hcl⟩ := cr_may t1 F
  obtain ⟨hfm, hfl⟩ : mayD (flS S C2) [] = true ∧ (flS S C2).length = S.length := cr_may t1 (List.replicate C2.length 1)
  have hs3 := cr_small hsm F
  have hs4 : SmallD (flS S C2) [] := cr_small hsm (List.replicate C2.length 1)
  have m3 : mayT P T A M W Q (crS S C2 F) [] := ⟨hm.1, hcm, by rw [hcl]; exact hm.2.2⟩
  have m4 : mayT P T A M W Q (flS S C2) [] := ⟨hm.1, hfm, by rw [show (flS S C2).length = S.length from hfl]; exact hm.2.2⟩
  have ha2 : arJ (1 - a) := by unfold arJ at ha ⊢; omega
  have hF200 : F.length ≤ 200 := by omega
  have CR := Lib.hid (fun A0 k0 A0' k0' wx (hx : Dsk wx A0 n k0 A0' 1 k0' S C2) (hr : Arg wx .u8 a5 len5 cap5 F) => (dsk_does.crash A0 n k0 A0' 1 k0' S C2 a5 len5 cap5 F wx hx hsm hr FY.out hF200).mono fun e w' ho => DiskOut.as ho (S' := crS S C2 F) (C' := []) (E' := 0) (n := n) (n' := 0) rfl rfl hck (hcl.trans hsl) rfl)
  have FL := Lib.hid (fun A0 k0 A0' k0' wx (hx : Dsk wx A0 n k0 A0' 1 k0' S C2) => (dsk_does.flush A0 n k0 A0' 1 k0' S C2 wx hx hsm).mono fun e w' ho => DiskOut.as ho (S' := flS S C2) (C' := []) (E' := 0) (n := n) (n' := 0) rfl rfl hck (hfl.trans hsl) rfl)
  obtain ⟨S3, hS3⟩ : ∃ y, y = crS S C2 F := ⟨_, rfl⟩
  obtain ⟨S4, hS4⟩ : ∃ y, y = flS S C2 := ⟨_, rfl⟩
  rw [← hS3] at CR hs3 t2 t4 t5 m3
  rw [← hS4] at FL hs4 t3 m4
  have SC := fun (a' g' : Int) (S' : List Sec) (hs' : SmallD S' []) (hm' : mayT P T A M W Q S' []) (ha' : arJ a') (hg' : isG g') (A0 : Option Addr) (k0 : Nat) (A0' : Option Addr) (k0' : Nat) (wx : World) (hx : Dsk wx A0 n k0 A0' 0 k0' S' []) => (show Calls Try.prog 9 #[cfgV P T A M W Q, diskV A0 n k0 A0' 0 k0', .int .i64 a', .int .u64 g'] wx (ScanOut wx (jN (jf S' [] A a' g') A.toNat) 0) from by
    have r := JD.scan P T A M W Q A0 n k0 A0' 0 k0' S' [] a' g' wx hx hs' hg'
    rw [show jsL P T A M W Q S' [] a' g' = jN (jf S' [] A a' g') A.toNat from if_pos (jaE_yes hm' ha'), jaE_yes hm' ha'] at r
    exact r)
  unfold ScanOut at SC
  have S1 := Lib.hid (SC a g S3 hs3 m3 ha hg)
  have S2 := Lib.hid (SC a g S4 hs4 m4 ha hg)
  have SL := Lib.hid (SC a o S SZ0.out hm ha ho)
  have SM := Lib.hid (SC a o S3 hs3 m3 ha ho)
  have SP := Lib.hid (SC (1 - a) g S SZ0.out hm ha2 hg)
  have SQ := Lib.hid (SC (1 - a) g S3 hs3 m3 ha2 hg)
  rw [t5 g] at SQ
  have few1 := jN_few m3 (jf S3 [] A a g)
  have few2 := jN_few m4 (jf S4 [] A a g)
  have hoth : o ≠ g → jN (jf S3 [] A a o) A.toNat = jN (jf S [] A a o) A.toNat ∨ (n0 < (jN (jf S [] A a o) A.toNat).length ∧ n0 ≤ (jN (jf S3 [] A a o) A.toNat).length ∧ (jN (jf S [] A a o) A.toNat).take n0 = (jN (jf S3 [] A a o) A.toNat).take n0) := fun h => t4 o ho h
  rw [← hJ0] at t2 t3
  obtain ⟨J1, hJ1⟩ : ∃ J, J = jN (jf S3 [] A a g) A.toNat := ⟨_, rfl⟩
  obtain ⟨J2, hJ2⟩ : ∃ J, J = jN (jf S4 [] A a g) A.toNat := ⟨_, rfl⟩
  obtain ⟨JL, hJL⟩ : ∃ J, J = jN (jf S [] A a o) A.toNat := ⟨_, rfl⟩
  obtain ⟨JM, hJM⟩ : ∃ J, J = jN (jf S3 [] A a o) A.toNat := ⟨_, rfl⟩
  obtain ⟨JP, hJP⟩ : ∃ J, J = jN (jf S [] A (1 - a) g) A.toNat := ⟨_, rfl⟩
  rw [← hJ1] at S1 t2 few1
  rw [← hJ2] at S2 t3 few2
  rw [← hJL] at SL hoth
  rw [← hJM] at SM hoth
  rw [← hJP] at SP SQ
  obtain ⟨n1, hn1⟩ : ∃ m, m = J1.length := ⟨_, rfl⟩
  obtain ⟨n2, hn2⟩ : ∃ m, m = J2.length := ⟨_, rfl⟩
  obtain ⟨nl, hnl⟩ : ∃ m, m = JL.length := ⟨_, rfl⟩
  obtain ⟨nm, hnm⟩ : ∃ m, m = JM.length := ⟨_, rfl⟩
  obtain ⟨np, hnp⟩ : ∃ m, m = JP.length := ⟨_, rfl⟩
  rw [← hn1] at S1 few1
  rw [← hn2] at S2 few2
  rw [← hnl] at SL hoth
  rw [← hnm] at SM hoth
  rw [← hnp] at SP SQ
  have hwa : IntKind.i64.wrap (1 - a) = 1 - a := by
    unfold arJ at ha
    rcases (show a = 0 ∨ a = 1 by omega) with r | r <;> rw [r] <;> decide
  have T3 := Lib.hid t3
  have W1 : J1 = J0 ∨ (J1 ≠ J0 ∧ begL J1 J0 b) := by
    by_cases h : J1 = J0
    · exact .inl h
    · rcases t2 with h2 | h2
      · exact absurd h2 h
      · exact .inr ⟨h, h2⟩
  have W2 : o = g ∨ (o ≠ g ∧ (JL = JM ∨ (JL ≠ JM ∧ n0 < nl ∧ n0 ≤ nm ∧ JL.take n0 = JM.take n0))) := by
    by_cases h : o = g
    · exact .inl h
    · refine .inr ⟨h, ?_⟩
      by_cases h2 : JL = JM
      · exact .inl h2
      · rcases hoth h with h3 | h3
        · exact absurd h3.symm h2
        · exact .inr ⟨h2, h3⟩
  clear t1 t2 t3 t4 t5 hC2 hc2l hgood hsm hck hcm hcl hfm hfl hs3 hs4 m3 m4 ha2 hF200 SC hoth hS3 hS4 hJ0 hn0 hJ1 hJ2 hJL hJM hJP hn1 hn2 hnl hnm hnp hm ha hg ho he hp hj0 hjA hb1 hb20 hbl hFl hsl hl1 hm1
  rcases W1 with W1 | W1
  · rcases W2 with k1 | ⟨k1, k2 | ⟨k2, k3, k4, k5⟩⟩
    · skip
      subst W1
      subst k1
      have hgg : (o == o) = true := beq_self_eq_true _
      go_enter Try.func7, Try.ntmps7
      go_wp2_with fail
      rw [← hw0]
      clear hw0
      refine (AL _).mono ?_
      rintro e wa ⟨rfl, hb⟩
      have B := Lib.hid (B.out.trans (hb.mono B.out.size))
      have X := Lib.hid (X.out.below hb)
      have RB := Lib.hid (RB.out.below hb)
      have RF := Lib.hid (RF.out.below hb)
      clear hb c0 c1 c2 c3 c4 c5 d0 d1
      obtain ⟨c0, c1, c2, c3, c4, c5, d0, d1⟩ := X.out.cells
      go_wp2_with fail
      refine (GG.out _ X.out.dsk.dsk).mono ?_
      rintro e wb ⟨rfl, hb⟩
      have B := Lib.hid (B.out.trans (hb.mono B.out.size))
      have X := Lib.hid (X.out.below hb)
      have RB := Lib.hid (RB.out.below hb)
      have RF := Lib.hid (RF.out.below hb)
      clear hb c0 c1 c2 c3 c4 c5 d0 d1
      obtain ⟨c0, c1, c2, c3, c4, c5, d0, d1⟩ := X.out.cells
      go_wp2_with fail
      refine (SD.out _ X.out.dsk.dsk).mono ?_
      rintro e wc ⟨AW, kW, rfl, hown, hb⟩
      have TW := Lib.hid hown.texts
      have B := Lib.hid (B.out.trans (hb.mono B.out.size))
      have X := Lib.hid (X.out.below hb)
      have RB := Lib.hid (RB.out.below hb)
      have RF := Lib.hid (RF.out.below hb)
      clear hb hown c0 c1 c2 c3 c4 c5 d0 d1
      obtain ⟨c0, c1, c2, c3, c4, c5, d0, d1⟩ := X.out.cells
      go_wp2_with fail
      refine (WY.out _ X.out.dsk.dsk RB.out).mono ?_
      rintro e wd ⟨AX, kX, AX', kX', rfl, hown, hb⟩
      have XB := DBox.new (Dsk.of_own hown)
      have hb := hb.alloc hb.size (.cells #[.slice AX n kX, .slice AX' (0 + 1) kX'] 25)
      have B := Lib.hid (B.out.trans (hb.mono B.out.size))
      have X := Lib.hid (X.out.below hb)
      have RB := Lib.hid (RB.out.below hb)
      have RF := Lib.hid (RF.out.below hb)
      have TW := Lib.hid (TW.out.below hb)
      clear hb hown c0 c1 c2 c3 c4 c5 d0 d1
      obtain ⟨GXB, hG⟩ : ∃ x, x = wd.heap.size := ⟨_, rfl⟩
      go_upto_region 9 with fail
      rw [← hG] at XB ⊢
      obtain ⟨wdx, hW⟩ : ∃ x : World, x = wd.alloc (.cells #[.slice AX n kX, .slice AX' (0 + 1) kX'] 25) := ⟨_, rfl⟩
      rw [← hW] at B X RB RF TW XB ⊢
      clear hW hG
      have XB := Lib.hid XB
      obtain ⟨c0, c1, c2, c3, c4, c5, d0, d1⟩ := X.out.cells
      obtain ⟨x0, x1⟩ := XB.out.cells
      go_wp2_with fail
      refine (CR.out AX kX AX' kX' _ XB.out.dsk RF.out).mono ?_
      rintro e we ⟨AY, kY, AY', kY', rfl, hown, hb⟩
      have YB := DBox.new (Dsk.of_own hown)
      have hb := hb.alloc hb.size (.cells #[.slice AY n kY, .slice AY' 0 kY'] 25)
      have B := Lib.hid (B.out.trans (hb.mono B.out.size))
      have X := Lib.hid (X.out.below hb)
      have RB := Lib.hid (RB.out.below hb)
      have RF := Lib.hid (RF.out.below hb)
      have TW := Lib.hid (TW.out.below hb)
      have XB := Lib.hid (XB.out.below hb)
      clear hb hown c0 c1 c2 c3 c4 c5 d0 d1 x0 x1
      obtain ⟨GYB, hG⟩ : ∃ x, x = we.heap.size := ⟨_, rfl⟩
      go_upto_region 12 with fail
      rw [← hG] at YB ⊢
      obtain ⟨wex, hW⟩ : ∃ x : World, x = we.alloc (.cells #[.slice AY n kY, .slice AY' 0 kY'] 25) := ⟨_, rfl⟩
      rw [← hW] at B X RB RF TW XB YB ⊢
      clear hW hG
      have YB := Lib.hid YB
      obtain ⟨c0, c1, c2, c3, c4, c5, d0, d1⟩ := X.out.cells
      obtain ⟨x0, x1⟩ := YB.out.cells
      go_wp2_with fail
      refine (S1.out AY kY AY' kY' _ YB.out.dsk).mono ?_
      rintro e wf ⟨AN, kN, rfl, hown, hb⟩
      have TN := Lib.hid hown.texts
      have B := Lib.hid (B.out.trans (hb.mono B.out.size))
      have X := Lib.hid (X.out.below hb)
      have RB := Lib.hid (RB.out.below hb)
      have RF := Lib.hid (RF.out.below hb)
      have TW := Lib.hid (TW.out.below hb)
      have XB := Lib.hid (XB.out.below hb)
      have YB := Lib.hid (YB.out.below hb)
      clear hb hown c0 c1 c2 c3 c4 c5 d0 d1 x0 x1
      obtain ⟨c0, c1, c2, c3, c4, c5, d0, d1⟩ := X.out.cells
      obtain ⟨x0, x1⟩ := XB.out.cells
      go_wp2_with fail
      refine (FL.out AX kX AX' kX' _ XB.out.dsk).mono ?_
      rintro e wg ⟨AZ, kZ, AZ', kZ', rfl, hown, hb⟩
      have ZB := DBox.new (Dsk.of_own hown)
      have hb := hb.alloc hb.size (.cells #[.slice AZ n kZ, .slice AZ' 0 kZ'] 25)
      have B := Lib.hid (B.out.trans (hb.mono B.out.size))
      have X := Lib.hid (X.out.below hb)
      have RB := Lib.hid (RB.out.below hb)
      have RF := Lib.hid (RF.out.below hb)
      have TW := Lib.hid (TW.out.below hb)
      have XB := Lib.hid (XB.out.below hb)
      have YB := Lib.hid (YB.out.below hb)
      have TN := Lib.hid (TN.out.below hb)
      clear hb hown c0 c1 c2 c3 c4 c5 d0 d1 x0 x1
      obtain ⟨GZB, hG⟩ : ∃ x, x = wg.heap.size := ⟨_, rfl⟩
      go_upto_region 14 with fail
      rw [← hG] at ZB ⊢
      obtain ⟨wgx, hW⟩ : ∃ x : World, x = wg.alloc (.cells #[.slice AZ n kZ, .slice AZ' 0 kZ'] 25) := ⟨_, rfl⟩
      rw [← hW] at B X RB RF TW XB YB TN ZB ⊢
      clear hW hG
      have ZB := Lib.hid ZB
      obtain ⟨c0, c1, c2, c3, c4, c5, d0, d1⟩ := X.out.cells
      obtain ⟨x0, x1⟩ := ZB.out.cells
      go_wp2_with fail
      refine (S2.out AZ kZ AZ' kZ' _ ZB.out.dsk).mono ?_
      rintro e wh ⟨AL2, kL2, rfl, hown, hb⟩
      have TA := Lib.hid hown.texts
      have B := Lib.hid (B.out.trans (hb.mono B.out.size))
      have X := Lib.hid (X.out.below hb)
      have RB := Lib.hid (RB.out.below hb)
      have RF := Lib.hid (RF.out.below hb)
      have TW := Lib.hid (TW.out.below hb)
      have XB := Lib.hid (XB.out.below hb)
      have YB := Lib.hid (YB.out.below hb)
      have TN := Lib.hid (TN.out.below hb)
      have ZB := Lib.hid (ZB.out.below hb)
      clear hb hown c0 c1 c2 c3 c4 c5 d0 d1 x0 x1
      obtain ⟨c0, c1, c2, c3, c4, c5, d0, d1⟩ := X.out.cells
      go_wp2_with fail
      refine (sam4_yes AN n1 kN AW n0 kW J1 _ TN.out TW.out).mono ?_
      rintro e wi ⟨rfl, hb⟩
      have B := Lib.hid (B.out.trans (hb.mono B.out.size))
      have X := Lib.hid (X.out.below hb)
      have RB := Lib.hid (RB.out.below hb)
      have RF := Lib.hid (RF.out.below hb)
      have TW := Lib.hid (TW.out.below hb)
      have XB := Lib.hid (XB.out.below hb)
      have YB := Lib.hid (YB.out.below hb)
      have TN := Lib.hid (TN.out.below hb)
      have ZB := Lib.hid (ZB.out.below hb)
      have TA := Lib.hid (TA.out.below hb)
      clear hb c0 c1 c2 c3 c4 c5 d0 d1
      obtain ⟨c0, c1, c2, c3, c4, c5, d0, d1⟩ := X.out.cells
      go_wp2_with fail
      refine (begins_yes AL2 n2 kL2 J2 AW n0 kW J1 a4 len4 cap4 b _ TA.out TW.out RB.out T3.out few2).mono ?_
      rintro e wk ⟨rfl, hb⟩
      have B := Lib.hid (B.out.trans (hb.mono B.out.size))
      have X := Lib.hid (X.out.below hb)
      have RB := Lib.hid (RB.out.below hb)
      have RF := Lib.hid (RF.out.below hb)
      have TW := Lib.hid (TW.out.below hb)
      have XB := Lib.hid (XB.out.below hb)
      have YB := Lib.hid (YB.out.below hb)
      have TN := Lib.hid (TN.out.below hb)
      have ZB := Lib.hid (ZB.out.below hb)
      have TA := Lib.hid (TA.out.below hb)
      clear hb c0 c1 c2 c3 c4 c5 d0 d1
      obtain ⟨c0, c1, c2, c3, c4, c5, d0, d1⟩ := X.out.cells
      go_wp2_with fail
      refine (SL.out D c D' c' _ X.out.dsk.dsk).mono ?_
      rintro e wl ⟨AL, kL, rfl, hown, hb⟩
      have TL := Lib.hid hown.texts
      have B := Lib.hid (B.out.trans (hb.mono B.out.size))
      have X := Lib.hid (X.out.below hb)
      have RB := Lib.hid (RB.out.below hb)
      have RF := Lib.hid (RF.out.below hb)
      have TW := Lib.hid (TW.out.below hb)
      have XB := Lib.hid (XB.out.below hb)
      have YB := Lib.hid (YB.out.below hb)
      have TN := Lib.hid (TN.out.below hb)
      have ZB := Lib.hid (ZB.out.below hb)
      have TA := Lib.hid (TA.out.below hb)
      clear hb hown c0 c1 c2 c3 c4 c5 d0 d1
      obtain ⟨c0, c1, c2, c3, c4, c5, d0, d1⟩ := X.out.cells
      obtain ⟨x0, x1⟩ := YB.out.cells
      go_wp2_with fail
      refine (SM.out AY kY AY' kY' _ YB.out.dsk).mono ?_
      rintro e wm ⟨AM, kM, rfl, hown, hb⟩
      have TM := Lib.hid hown.texts
      have B := Lib.hid (B.out.trans (hb.mono B.out.size))
      have X := Lib.hid (X.out.below hb)
      have RB := Lib.hid (RB.out.below hb)
      have RF := Lib.hid (RF.out.below hb)
      have TW := Lib.hid (TW.out.below hb)
      have XB := Lib.hid (XB.out.below hb)
      have YB := Lib.hid (YB.out.below hb)
      have TN := Lib.hid (TN.out.below hb)
      have ZB := Lib.hid (ZB.out.below hb)
      have TA := Lib.hid (TA.out.below hb)
      have TL := Lib.hid (TL.out.below hb)
      clear hb hown c0 c1 c2 c3 c4 c5 d0 d1 x0 x1
      obtain ⟨c0, c1, c2, c3, c4, c5, d0, d1⟩ := X.out.cells
      go_wp2_with fail
      refine (SP.out D c D' c' _ X.out.dsk.dsk).mono ?_
      rintro e wn ⟨AP, kP, rfl, hown, hb⟩
      have TP := Lib.hid hown.texts
      have B := Lib.hid (B.out.trans (hb.mono B.out.size))
      have X := Lib.hid (X.out.below hb)
      have RB := Lib.hid (RB.out.below hb)
      have RF := Lib.hid (RF.out.below hb)
      have TW := Lib.hid (TW.out.below hb)
      have XB := Lib.hid (XB.out.below hb)
      have YB := Lib.hid (YB.out.below hb)
      have TN := Lib.hid (TN.out.below hb)
      have ZB := Lib.hid (ZB.out.below hb)
      have TA := Lib.hid (TA.out.below hb)
      have TL := Lib.hid (TL.out.below hb)
      have TM := Lib.hid (TM.out.below hb)
      clear hb hown c0 c1 c2 c3 c4 c5 d0 d1
      obtain ⟨c0, c1, c2, c3, c4, c5, d0, d1⟩ := X.out.cells
      obtain ⟨x0, x1⟩ := YB.out.cells
      go_wp2_with fail
      refine (SQ.out AY kY AY' kY' _ YB.out.dsk).mono ?_
      rintro e wo ⟨AQ, kQ, rfl, hown, hb⟩
      have TQ := Lib.hid hown.texts
      have B := Lib.hid (B.out.trans (hb.mono B.out.size))
      have X := Lib.hid (X.out.below hb)
      have RB := Lib.hid (RB.out.below hb)
      have RF := Lib.hid (RF.out.below hb)
      have TW := Lib.hid (TW.out.below hb)
      have XB := Lib.hid (XB.out.below hb)
      have YB := Lib.hid (YB.out.below hb)
      have TN := Lib.hid (TN.out.below hb)
      have ZB := Lib.hid (ZB.out.below hb)
      have TA := Lib.hid (TA.out.below hb)
      have TL := Lib.hid (TL.out.below hb)
      have TM := Lib.hid (TM.out.below hb)
      have TP := Lib.hid (TP.out.below hb)
      clear hb hown c0 c1 c2 c3 c4 c5 d0 d1 x0 x1
      obtain ⟨c0, c1, c2, c3, c4, c5, d0, d1⟩ := X.out.cells
      go_wp2_with fail
      refine (sam4_yes AP np kP AQ np kQ JP _ TP.out TQ.out).mono ?_
      rintro e wp ⟨rfl, hb⟩
      have B := Lib.hid (B.out.trans (hb.mono B.out.size))
      have X := Lib.hid (X.out.below hb)
      have RB := Lib.hid (RB.out.below hb)
      have RF := Lib.hid (RF.out.below hb)
      have TW := Lib.hid (TW.out.below hb)
      have XB := Lib.hid (XB.out.below hb)
      have YB := Lib.hid (YB.out.below hb)
      have TN := Lib.hid (TN.out.below hb)
      have ZB := Lib.hid (ZB.out.below hb)
      have TA := Lib.hid (TA.out.below hb)
      have TL := Lib.hid (TL.out.below hb)
      have TM := Lib.hid (TM.out.below hb)
      have TP := Lib.hid (TP.out.below hb)
      have TQ := Lib.hid (TQ.out.below hb)
      clear hb c0 c1 c2 c3 c4 c5 d0 d1
      obtain ⟨c0, c1, c2, c3, c4, c5, d0, d1⟩ := X.out.cells
      go_upto_region 23 with fail
      clear c0 c1 c2 c3 c4 c5 d0 d1
      clear TL TM TP TQ TN TA TW
      go_quiet (fail)
      have B := Lib.hid (B.out.trans ((below_drewN (Below.refl wp.heap.size wp) nq).mono B.out.size))
      go_wp2
      go_ret
      exact ⟨rfl, B.out⟩
    · skip
      subst W1
      have hgg : (o == g) = false := beq_eq_false_iff_ne.2 k1
      clear k1
      subst k2
      go_enter Try.func7, Try.ntmps7
      go_wp2_with fail
      rw [← hw0]
      clear hw0
      refine (AL _).mono ?_
      rintro e wa ⟨rfl, hb⟩
      have B := Lib.hid (B.out.trans (hb.mono B.out.size))
      have X := Lib.hid (X.out.below hb)
      have RB := Lib.hid (RB.out.below hb)
      have RF := Lib.hid (RF.out.below hb)
      clear hb c0 c1 c2 c3 c4 c5 d0 d1
      obtain ⟨c0, c1, c2, c3, c4, c5, d0, d1⟩ := X.out.cells
      go_wp2_with fail
      refine (GG.out _ X.out.dsk.dsk).mono ?_
      rintro e wb ⟨rfl, hb⟩
      have B := Lib.hid (B.out.trans (hb.mono B.out.size))
      have X := Lib.hid (X.out.below hb)
      have RB := Lib.hid (RB.out.below hb)
      have RF := Lib.hid (RF.out.below hb)
      clear hb c0 c1 c2 c3 c4 c5 d0 d1
      obtain ⟨c0, c1, c2, c3, c4, c5, d0, d1⟩ := X.out.cells
      go_wp2_with fail
      refine (SD.out _ X.out.dsk.dsk).mono ?_
      rintro e wc ⟨AW, kW, rfl, hown, hb⟩
      have TW := Lib.hid hown.texts
      have B := Lib.hid (B.out.trans (hb.mono B.out.size))
      have X := Lib.hid (X.out.below hb)
      have RB := Lib.hid (RB.out.below hb)
      have RF := Lib.hid (RF.out.below hb)
      clear hb hown c0 c1 c2 c3 c4 c5 d0 d1
      obtain ⟨c0, c1, c2, c3, c4, c5, d0, d1⟩ := X.out.cells
      go_wp2_with fail
      refine (WY.out _ X.out.dsk.dsk RB.out).mono ?_
      rintro e wd ⟨AX, kX, AX', kX', rfl, hown, hb⟩
      have XB := DBox.new (Dsk.of_own hown)
      have hb := hb.alloc hb.size (.cells #[.slice AX n kX, .slice AX' (0 + 1) kX'] 25)
      have B := Lib.hid (B.out.trans (hb.mono B.out.size))
      have X := Lib.hid (X.out.below hb)
      have RB := Lib.hid (RB.out.below hb)
      have RF := Lib.hid (RF.out.below hb)
      have TW := Lib.hid (TW.out.below hb)
      clear hb hown c0 c1 c2 c3 c4 c5 d0 d1
      obtain ⟨GXB, hG⟩ : ∃ x, x = wd.heap.size := ⟨_, rfl⟩
      go_upto_region 9 with fail
      rw [← hG] at XB ⊢
      obtain ⟨wdx, hW⟩ : ∃ x : World, x = wd.alloc (.cells #[.slice AX n kX, .slice AX' (0 + 1) kX'] 25) := ⟨_, rfl⟩
      rw [← hW] at B X RB RF TW XB ⊢
      clear hW hG
      have XB := Lib.hid XB
      obtain ⟨c0, c1, c2, c3, c4, c5, d0, d1⟩ := X.out.cells
      obtain ⟨x0, x1⟩ := XB.out.cells
      go_wp2_with fail
      refine (CR.out AX kX AX' kX' _ XB.out.dsk RF.out).mono ?_
      rintro e we ⟨AY, kY, AY', kY', rfl, hown, hb⟩
      have YB := DBox.new (Dsk.of_own hown)
      have hb := hb.alloc hb.size (.cells #[.slice AY n kY, .slice AY' 0 kY'] 25)
      have B := Lib.hid (B.out.trans (hb.mono B.out.size))
      have X := Lib.hid (X.out.below hb)
      have RB := Lib.hid (RB.out.below hb)
      have RF := Lib.hid (RF.out.below hb)
      have TW := Lib.hid (TW.out.below hb)
      have XB := Lib.hid (XB.out.below hb)
      clear hb hown c0 c1 c2 c3 c4 c5 d0 d1 x0 x1
      obtain ⟨GYB, hG⟩ : ∃ x, x = we.heap.size := ⟨_, rfl⟩
      go_upto_region 12 with fail
      rw [← hG] at YB ⊢
      obtain ⟨wex, hW⟩ : ∃ x : World, x = we.alloc (.cells #[.slice AY n kY, .slice AY' 0 kY'] 25) := ⟨_, rfl⟩
      rw [← hW] at B X RB RF TW XB YB ⊢
      clear hW hG
      have YB := Lib.hid YB
      obtain ⟨c0, c1, c2, c3, c4, c5, d0, d1⟩ := X.out.cells
      obtain ⟨x0, x1⟩ := YB.out.cells
      go_wp2_with fail
      refine (S1.out AY kY AY' kY' _ YB.out.dsk).mono ?_
      rintro e wf ⟨AN, kN, rfl, hown, hb⟩
      have TN := Lib.hid hown.texts
      have B := Lib.hid (B.out.trans (hb.mono B.out.size))
      have X := Lib.hid (X.out.below hb)
      have RB := Lib.hid (RB.out.below hb)
      have RF := Lib.hid (RF.out.below hb)
      have TW := Lib.hid (TW.out.below hb)
      have XB := Lib.hid (XB.out.below hb)
      have YB := Lib.hid (YB.out.below hb)
      clear hb hown c0 c1 c2 c3 c4 c5 d0 d1 x0 x1
      obtain ⟨c0, c1, c2, c3, c4, c5, d0, d1⟩ := X.out.cells
      obtain ⟨x0, x1⟩ := XB.out.cells
      go_wp2_with fail
      refine (FL.out AX kX AX' kX' _ XB.out.dsk).mono ?_
      rintro e wg ⟨AZ, kZ, AZ', kZ', rfl, hown, hb⟩
      have ZB := DBox.new (Dsk.of_own hown)
      have hb := hb.alloc hb.size (.cells #[.slice AZ n kZ, .slice AZ' 0 kZ'] 25)
      have B := Lib.hid (B.out.trans (hb.mono B.out.size))
      have X := Lib.hid (X.out.below hb)
      have RB := Lib.hid (RB.out.below hb)
      have RF := Lib.hid (RF.out.below hb)
      have TW := Lib.hid (TW.out.below hb)
      have XB := Lib.hid (XB.out.below hb)
      have YB := Lib.hid (YB.out.below hb)
      have TN := Lib.hid (TN.out.below hb)
      clear hb hown c0 c1 c2 c3 c4 c5 d0 d1 x0 x1
      obtain ⟨GZB, hG⟩ : ∃ x, x = wg.heap.size := ⟨_, rfl⟩
      go_upto_region 14 with fail
      rw [← hG] at ZB ⊢
      obtain ⟨wgx, hW⟩ : ∃ x : World, x = wg.alloc (.cells #[.slice AZ n kZ, .slice AZ' 0 kZ'] 25) := ⟨_, rfl⟩
      rw [← hW] at B X RB RF TW XB YB TN ZB ⊢
      clear hW hG
      have ZB := Lib.hid ZB
      obtain ⟨c0, c1, c2, c3, c4, c5, d0, d1⟩ := X.out.cells
      obtain ⟨x0, x1⟩ := ZB.out.cells
      go_wp2_with fail
      refine (S2.out AZ kZ AZ' kZ' _ ZB.out.dsk).mono ?_
      rintro e wh ⟨AL2, kL2, rfl, hown, hb⟩
      have TA := Lib.hid hown.texts
      have B := Lib.hid (B.out.trans (hb.mono B.out.size))
      have X := Lib.hid (X.out.below hb)
      have RB := Lib.hid (RB.out.below hb)
      have RF := Lib.hid (RF.out.below hb)
      have TW := Lib.hid (TW.out.below hb)
      have XB := Lib.hid (XB.out.below hb)
      have YB := Lib.hid (YB.out.below hb)
      have TN := Lib.hid (TN.out.below hb)
      have ZB := Lib.hid (ZB.out.below hb)
      clear hb hown c0 c1 c2 c3 c4 c5 d0 d1 x0 x1
      obtain ⟨c0, c1, c2, c3, c4, c5, d0, d1⟩ := X.out.cells
      go_wp2_with fail
      refine (sam4_yes AN n1 kN AW n0 kW J1 _ TN.out TW.out).mono ?_
      rintro e wi ⟨rfl, hb⟩
      have B := Lib.hid (B.out.trans (hb.mono B.out.size))
      have X := Lib.hid (X.out.below hb)
      have RB := Lib.hid (RB.out.below hb)
      have RF := Lib.hid (RF.out.below hb)
      have TW := Lib.hid (TW.out.below hb)
      have XB := Lib.hid (XB.out.below hb)
      have YB := Lib.hid (YB.out.below hb)
      have TN := Lib.hid (TN.out.below hb)
      have ZB := Lib.hid (ZB.out.below hb)
      have TA := Lib.hid (TA.out.below hb)
      clear hb c0 c1 c2 c3 c4 c5 d0 d1
      obtain ⟨c0, c1, c2, c3, c4, c5, d0, d1⟩ := X.out.cells
      go_wp2_with fail
      refine (begins_yes AL2 n2 kL2 J2 AW n0 kW J1 a4 len4 cap4 b _ TA.out TW.out RB.out T3.out few2).mono ?_
      rintro e wk ⟨rfl, hb⟩
      have B := Lib.hid (B.out.trans (hb.mono B.out.size))
      have X := Lib.hid (X.out.below hb)
      have RB := Lib.hid (RB.out.below hb)
      have RF := Lib.hid (RF.out.below hb)
      have TW := Lib.hid (TW.out.below hb)
      have XB := Lib.hid (XB.out.below hb)
      have YB := Lib.hid (YB.out.below hb)
      have TN := Lib.hid (TN.out.below hb)
      have ZB := Lib.hid (ZB.out.below hb)
      have TA := Lib.hid (TA.out.below hb)
      clear hb c0 c1 c2 c3 c4 c5 d0 d1
      obtain ⟨c0, c1, c2, c3, c4, c5, d0, d1⟩ := X.out.cells
      go_wp2_with fail
      refine (SL.out D c D' c' _ X.out.dsk.dsk).mono ?_
      rintro e wl ⟨AL, kL, rfl, hown, hb⟩
      have TL := Lib.hid hown.texts
      have B := Lib.hid (B.out.trans (hb.mono B.out.size))
      have X := Lib.hid (X.out.below hb)
      have RB := Lib.hid (RB.out.below hb)
      have RF := Lib.hid (RF.out.below hb)
      have TW := Lib.hid (TW.out.below hb)
      have XB := Lib.hid (XB.out.below hb)
      have YB := Lib.hid (YB.out.below hb)
      have TN := Lib.hid (TN.out.below hb)
      have ZB := Lib.hid (ZB.out.below hb)
      have TA := Lib.hid (TA.out.below hb)
      clear hb hown c0 c1 c2 c3 c4 c5 d0 d1
      obtain ⟨c0, c1, c2, c3, c4, c5, d0, d1⟩ := X.out.cells
      obtain ⟨x0, x1⟩ := YB.out.cells
      go_wp2_with fail
      refine (SM.out AY kY AY' kY' _ YB.out.dsk).mono ?_
      rintro e wm ⟨AM, kM, rfl, hown, hb⟩
      have TM := Lib.hid hown.texts
      have B := Lib.hid (B.out.trans (hb.mono B.out.size))
      have X := Lib.hid (X.out.below hb)
      have RB := Lib.hid (RB.out.below hb)
      have RF := Lib.hid (RF.out.below hb)
      have TW := Lib.hid (TW.out.below hb)
      have XB := Lib.hid (XB.out.below hb)
      have YB := Lib.hid (YB.out.below hb)
      have TN := Lib.hid (TN.out.below hb)
      have ZB := Lib.hid (ZB.out.below hb)
      have TA := Lib.hid (TA.out.below hb)
      have TL := Lib.hid (TL.out.below hb)
      clear hb hown c0 c1 c2 c3 c4 c5 d0 d1 x0 x1
      obtain ⟨c0, c1, c2, c3, c4, c5, d0, d1⟩ := X.out.cells
      go_wp2_with fail
      refine (SP.out D c D' c' _ X.out.dsk.dsk).mono ?_
      rintro e wn ⟨AP, kP, rfl, hown, hb⟩
      have TP := Lib.hid hown.texts
      have B := Lib.hid (B.out.trans (hb.mono B.out.size))
      have X := Lib.hid (X.out.below hb)
      have RB := Lib.hid (RB.out.below hb)
      have RF := Lib.hid (RF.out.below hb)
      have TW := Lib.hid (TW.out.below hb)
      have XB := Lib.hid (XB.out.below hb)
      have YB := Lib.hid (YB.out.below hb)
      have TN := Lib.hid (TN.out.below hb)
      have ZB := Lib.hid (ZB.out.below hb)
      have TA := Lib.hid (TA.out.below hb)
      have TL := Lib.hid (TL.out.below hb)
      have TM := Lib.hid (TM.out.below hb)
      clear hb hown c0 c1 c2 c3 c4 c5 d0 d1
      obtain ⟨c0, c1, c2, c3, c4, c5, d0, d1⟩ := X.out.cells
      obtain ⟨x0, x1⟩ := YB.out.cells
      go_wp2_with fail
      refine (SQ.out AY kY AY' kY' _ YB.out.dsk).mono ?_
      rintro e wo ⟨AQ, kQ, rfl, hown, hb⟩
      have TQ := Lib.hid hown.texts
      have B := Lib.hid (B.out.trans (hb.mono B.out.size))
      have X := Lib.hid (X.out.below hb)
      have RB := Lib.hid (RB.out.below hb)
      have RF := Lib.hid (RF.out.below hb)
      have TW := Lib.hid (TW.out.below hb)
      have XB := Lib.hid (XB.out.below hb)
      have YB := Lib.hid (YB.out.below hb)
      have TN := Lib.hid (TN.out.below hb)
      have ZB := Lib.hid (ZB.out.below hb)
      have TA := Lib.hid (TA.out.below hb)
      have TL := Lib.hid (TL.out.below hb)
      have TM := Lib.hid (TM.out.below hb)
      have TP := Lib.hid (TP.out.below hb)
      clear hb hown c0 c1 c2 c3 c4 c5 d0 d1 x0 x1
      obtain ⟨c0, c1, c2, c3, c4, c5, d0, d1⟩ := X.out.cells
      go_wp2_with fail
      refine (sam4_yes AP np kP AQ np kQ JP _ TP.out TQ.out).mono ?_
      rintro e wp ⟨rfl, hb⟩
      have B := Lib.hid (B.out.trans (hb.mono B.out.size))
      have X := Lib.hid (X.out.below hb)
      have RB := Lib.hid (RB.out.below hb)
      have RF := Lib.hid (RF.out.below hb)
      have TW := Lib.hid (TW.out.below hb)
      have XB := Lib.hid (XB.out.below hb)
      have YB := Lib.hid (YB.out.below hb)
      have TN := Lib.hid (TN.out.below hb)
      have ZB := Lib.hid (ZB.out.below hb)
      have TA := Lib.hid (TA.out.below hb)
      have TL := Lib.hid (TL.out.below hb)
      have TM := Lib.hid (TM.out.below hb)
      have TP := Lib.hid (TP.out.below hb)
      have TQ := Lib.hid (TQ.out.below hb)
      clear hb c0 c1 c2 c3 c4 c5 d0 d1
      obtain ⟨c0, c1, c2, c3, c4, c5, d0, d1⟩ := X.out.cells
      go_upto_region 23 with fail
      clear c0 c1 c2 c3 c4 c5 d0 d1
      have Q1 := Lib.hid (fun q => sam4q_yes AL nl kL AM nm kM JL _ (TL.out.below (below_drewN (Below.refl wp.heap.size wp) q)) (TM.out.below (below_drewN (Below.refl wp.heap.size wp) q)))
      clear TL TM TP TQ TN TA TW
      go_quiet ((first | (go_at_call 18; exact Calls.quiet_of (Q1.out _))))
      have B := Lib.hid (B.out.trans ((below_drewN (Below.refl wp.heap.size wp) nq).mono B.out.size))
      go_wp2
      go_ret
      exact ⟨rfl, B.out⟩
    · skip
      subst W1
      have hgg : (o == g) = false := beq_eq_false_iff_ne.2 k1
      clear k1
      have KNE := Lib.hid k2
      have K34 := Lib.hid (⟨k3, k4⟩ : n0 < nl ∧ n0 ≤ nm)
      have K5 := Lib.hid k5
      clear k2 k3 k4 k5
      go_enter Try.func7, Try.ntmps7
      go_wp2_with fail
      rw [← hw0]
      clear hw0
      refine (AL _).mono ?_
      rintro e wa ⟨rfl, hb⟩
      have B := Lib.hid (B.out.trans (hb.mono B.out.size))
      have X := Lib.hid (X.out.below hb)
      have RB := Lib.hid (RB.out.below hb)
      have RF := Lib.hid (RF.out.below hb)
      clear hb c0 c1 c2 c3 c4 c5 d0 d1
      obtain ⟨c0, c1, c2, c3, c4, c5, d0, d1⟩ := X.out.cells
      go_wp2_with fail
      refine (GG.out _ X.out.dsk.dsk).mono ?_
      rintro e wb ⟨rfl, hb⟩
      have B := Lib.hid (B.out.trans (hb.mono B.out.size))
      have X := Lib.hid (X.out.below hb)
      have RB := Lib.hid (RB.out.below hb)
      have RF := Lib.hid (RF.out.below hb)
      clear hb c0 c1 c2 c3 c4 c5 d0 d1
      obtain ⟨c0, c1, c2, c3, c4, c5, d0, d1⟩ := X.out.cells
      go_wp2_with fail
      refine (SD.out _ X.out.dsk.dsk).mono ?_
      rintro e wc ⟨AW, kW, rfl, hown, hb⟩
      have TW := Lib.hid hown.texts
      have B := Lib.hid (B.out.trans (hb.mono B.out.size))
      have X := Lib.hid (X.out.below hb)
      have RB := Lib.hid (RB.out.below hb)
      have RF := Lib.hid (RF.out.below hb)
      clear hb hown c0 c1 c2 c3 c4 c5 d0 d1
      obtain ⟨c0, c1, c2, c3, c4, c5, d0, d1⟩ := X.out.cells
      go_wp2_with fail
      refine (WY.out _ X.out.dsk.dsk RB.out).mono ?_
      rintro e wd ⟨AX, kX, AX', kX', rfl, hown, hb⟩
      have XB := DBox.new (Dsk.of_own hown)
      have hb := hb.alloc hb.size (.cells #[.slice AX n kX, .slice AX' (0 + 1) kX'] 25)
      have B := Lib.hid (B.out.trans (hb.mono B.out.size))
      have X := Lib.hid (X.out.below hb)
      have RB := Lib.hid (RB.out.below hb)
      have RF := Lib.hid (RF.out.below hb)
      have TW := Lib.hid (TW.out.below hb)
      clear hb hown c0 c1 c2 c3 c4 c5 d0 d1
      obtain ⟨GXB, hG⟩ : ∃ x, x = wd.heap.size := ⟨_, rfl⟩
      go_upto_region 9 with fail
      rw [← hG] at XB ⊢
      obtain ⟨wdx, hW⟩ : ∃ x : World, x = wd.alloc (.cells #[.slice AX n kX, .slice AX' (0 + 1) kX'] 25) := ⟨_, rfl⟩
      rw [← hW] at B X RB RF TW XB ⊢
      clear hW hG
      have XB := Lib.hid XB
      obtain ⟨c0, c1, c2, c3, c4, c5, d0, d1⟩ := X.out.cells
      obtain ⟨x0, x1⟩ := XB.out.cells
      go_wp2_with fail
      refine (CR.out AX kX AX' kX' _ XB.out.dsk RF.out).mono ?_
      rintro e we ⟨AY, kY, AY', kY', rfl, hown, hb⟩
      have YB := DBox.new (Dsk.of_own hown)
      have hb := hb.alloc hb.size (.cells #[.slice AY n kY, .slice AY' 0 kY'] 25)
      have B := Lib.hid (B.out.trans (hb.mono B.out.size))
      have X := Lib.hid (X.out.below hb)
      have RB := Lib.hid (RB.out.below hb)
      have RF := Lib.hid (RF.out.below hb)
      have TW := Lib.hid (TW.out.below hb)
      have XB := Lib.hid (XB.out.below hb)
      clear hb hown c0 c1 c2 c3 c4 c5 d0 d1 x0 x1
      obtain ⟨GYB, hG⟩ : ∃ x, x = we.heap.size := ⟨_, rfl⟩
      go_upto_region 12 with fail
      rw [← hG] at YB ⊢
      obtain ⟨wex, hW⟩ : ∃ x : World, x = we.alloc (.cells #[.slice AY n kY, .slice AY' 0 kY'] 25) := ⟨_, rfl⟩
      rw [← hW] at B X RB RF TW XB YB ⊢
      clear hW hG
      have YB := Lib.hid YB
      obtain ⟨c0, c1, c2, c3, c4, c5, d0, d1⟩ := X.out.cells
      obtain ⟨x0, x1⟩ := YB.out.cells
      go_wp2_with fail
      refine (S1.out AY kY AY' kY' _ YB.out.dsk).mono ?_
      rintro e wf ⟨AN, kN, rfl, hown, hb⟩
      have TN := Lib.hid hown.texts
      have B := Lib.hid (B.out.trans (hb.mono B.out.size))
      have X := Lib.hid (X.out.below hb)
      have RB := Lib.hid (RB.out.below hb)
      have RF := Lib.hid (RF.out.below hb)
      have TW := Lib.hid (TW.out.below hb)
      have XB := Lib.hid (XB.out.below hb)
      have YB := Lib.hid (YB.out.below hb)
      clear hb hown c0 c1 c2 c3 c4 c5 d0 d1 x0 x1
      obtain ⟨c0, c1, c2, c3, c4, c5, d0, d1⟩ := X.out.cells
      obtain ⟨x0, x1⟩ := XB.out.cells
      go_wp2_with fail
      refine (FL.out AX kX AX' kX' _ XB.out.dsk).mono ?_
      rintro e wg ⟨AZ, kZ, AZ', kZ', rfl, hown, hb⟩
      have ZB := DBox.new (Dsk.of_own hown)
      have hb := hb.alloc hb.size (.cells #[.slice AZ n kZ, .slice AZ' 0 kZ'] 25)
      have B := Lib.hid (B.out.trans (hb.mono B.out.size))
      have X := Lib.hid (X.out.below hb)
      have RB := Lib.hid (RB.out.below hb)
      have RF := Lib.hid (RF.out.below hb)
      have TW := Lib.hid (TW.out.below hb)
      have XB := Lib.hid (XB.out.below hb)
      have YB := Lib.hid (YB.out.below hb)
      have TN := Lib.hid (TN.out.below hb)
      clear hb hown c0 c1 c2 c3 c4 c5 d0 d1 x0 x1
      obtain ⟨GZB, hG⟩ : ∃ x, x = wg.heap.size := ⟨_, rfl⟩
      go_upto_region 14 with fail
      rw [← hG] at ZB ⊢
      obtain ⟨wgx, hW⟩ : ∃ x : World, x = wg.alloc (.cells #[.slice AZ n kZ, .slice AZ' 0 kZ'] 25) := ⟨_, rfl⟩
      rw [← hW] at B X RB RF TW XB YB TN ZB ⊢
      clear hW hG
      have ZB := Lib.hid ZB
      obtain ⟨c0, c1, c2, c3, c4, c5, d0, d1⟩ := X.out.cells
      obtain ⟨x0, x1⟩ := ZB.out.cells
      go_wp2_with fail
      refine (S2.out AZ kZ AZ' kZ' _ ZB.out.dsk).mono ?_
      rintro e wh ⟨AL2, kL2, rfl, hown, hb⟩
      have TA := Lib.hid hown.texts
      have B := Lib.hid (B.out.trans (hb.mono B.out.size))
      have X := Lib.hid (X.out.below hb)
      have RB := Lib.hid (RB.out.below hb)
      have RF := Lib.hid (RF.out.below hb)
      have TW := Lib.hid (TW.out.below hb)
      have XB := Lib.hid (XB.out.below hb)
      have YB := Lib.hid (YB.out.below hb)
      have TN := Lib.hid (TN.out.below hb)
      have ZB := Lib.hid (ZB.out.below hb)
      clear hb hown c0 c1 c2 c3 c4 c5 d0 d1 x0 x1
      obtain ⟨c0, c1, c2, c3, c4, c5, d0, d1⟩ := X.out.cells
      go_wp2_with fail
      refine (sam4_yes AN n1 kN AW n0 kW J1 _ TN.out TW.out).mono ?_
      rintro e wi ⟨rfl, hb⟩
      have B := Lib.hid (B.out.trans (hb.mono B.out.size))
      have X := Lib.hid (X.out.below hb)
      have RB := Lib.hid (RB.out.below hb)
      have RF := Lib.hid (RF.out.below hb)
      have TW := Lib.hid (TW.out.below hb)
      have XB := Lib.hid (XB.out.below hb)
      have YB := Lib.hid (YB.out.below hb)
      have TN := Lib.hid (TN.out.below hb)
      have ZB := Lib.hid (ZB.out.below hb)
      have TA := Lib.hid (TA.out.below hb)
      clear hb c0 c1 c2 c3 c4 c5 d0 d1
      obtain ⟨c0, c1, c2, c3, c4, c5, d0, d1⟩ := X.out.cells
      go_wp2_with fail
      refine (begins_yes AL2 n2 kL2 J2 AW n0 kW J1 a4 len4 cap4 b _ TA.out TW.out RB.out T3.out few2).mono ?_
      rintro e wk ⟨rfl, hb⟩
      have B := Lib.hid (B.out.trans (hb.mono B.out.size))
      have X := Lib.hid (X.out.below hb)
      have RB := Lib.hid (RB.out.below hb)
      have RF := Lib.hid (RF.out.below hb)
      have TW := Lib.hid (TW.out.below hb)
      have XB := Lib.hid (XB.out.below hb)
      have YB := Lib.hid (YB.out.below hb)
      have TN := Lib.hid (TN.out.below hb)
      have ZB := Lib.hid (ZB.out.below hb)
      have TA := Lib.hid (TA.out.below hb)
      clear hb c0 c1 c2 c3 c4 c5 d0 d1
      obtain ⟨c0, c1, c2, c3, c4, c5, d0, d1⟩ := X.out.cells
      go_wp2_with fail
      refine (SL.out D c D' c' _ X.out.dsk.dsk).mono ?_
      rintro e wl ⟨AL, kL, rfl, hown, hb⟩
      have TL := Lib.hid hown.texts
      have B := Lib.hid (B.out.trans (hb.mono B.out.size))
      have X := Lib.hid (X.out.below hb)
      have RB := Lib.hid (RB.out.below hb)
      have RF := Lib.hid (RF.out.below hb)
      have TW := Lib.hid (TW.out.below hb)
      have XB := Lib.hid (XB.out.below hb)
      have YB := Lib.hid (YB.out.below hb)
      have TN := Lib.hid (TN.out.below hb)
      have ZB := Lib.hid (ZB.out.below hb)
      have TA := Lib.hid (TA.out.below hb)
      clear hb hown c0 c1 c2 c3 c4 c5 d0 d1
      obtain ⟨c0, c1, c2, c3, c4, c5, d0, d1⟩ := X.out.cells
      obtain ⟨x0, x1⟩ := YB.out.cells
      go_wp2_with fail
      refine (SM.out AY kY AY' kY' _ YB.out.dsk).mono ?_
      rintro e wm ⟨AM, kM, rfl, hown, hb⟩
      have TM := Lib.hid hown.texts
      have B := Lib.hid (B.out.trans (hb.mono B.out.size))
      have X := Lib.hid (X.out.below hb)
      have RB := Lib.hid (RB.out.below hb)
      have RF := Lib.hid (RF.out.below hb)
      have TW := Lib.hid (TW.out.below hb)
      have XB := Lib.hid (XB.out.below hb)
      have YB := Lib.hid (YB.out.below hb)
      have TN := Lib.hid (TN.out.below hb)
      have ZB := Lib.hid (ZB.out.below hb)
      have TA := Lib.hid (TA.out.below hb)
      have TL := Lib.hid (TL.out.below hb)
      clear hb hown c0 c1 c2 c3 c4 c5 d0 d1 x0 x1
      obtain ⟨c0, c1, c2, c3, c4, c5, d0, d1⟩ := X.out.cells
      go_wp2_with fail
      refine (SP.out D c D' c' _ X.out.dsk.dsk).mono ?_
      rintro e wn ⟨AP, kP, rfl, hown, hb⟩
      have TP := Lib.hid hown.texts
      have B := Lib.hid (B.out.trans (hb.mono B.out.size))
      have X := Lib.hid (X.out.below hb)
      have RB := Lib.hid (RB.out.below hb)
      have RF := Lib.hid (RF.out.below hb)
      have TW := Lib.hid (TW.out.below hb)
      have XB := Lib.hid (XB.out.below hb)
      have YB := Lib.hid (YB.out.below hb)
      have TN := Lib.hid (TN.out.below hb)
      have ZB := Lib.hid (ZB.out.below hb)
      have TA := Lib.hid (TA.out.below hb)
      have TL := Lib.hid (TL.out.below hb)
      have TM := Lib.hid (TM.out.below hb)
      clear hb hown c0 c1 c2 c3 c4 c5 d0 d1
      obtain ⟨c0, c1, c2, c3, c4, c5, d0, d1⟩ := X.out.cells
      obtain ⟨x0, x1⟩ := YB.out.cells
      go_wp2_with fail
      refine (SQ.out AY kY AY' kY' _ YB.out.dsk).mono ?_
      rintro e wo ⟨AQ, kQ, rfl, hown, hb⟩
      have TQ := Lib.hid hown.texts
      have B := Lib.hid (B.out.trans (hb.mono B.out.size))
      have X := Lib.hid (X.out.below hb)
      have RB := Lib.hid (RB.out.below hb)
      have RF := Lib.hid (RF.out.below hb)
      have TW := Lib.hid (TW.out.below hb)
      have XB := Lib.hid (XB.out.below hb)
      have YB := Lib.hid (YB.out.below hb)
      have TN := Lib.hid (TN.out.below hb)
      have ZB := Lib.hid (ZB.out.below hb)
      have TA := Lib.hid (TA.out.below hb)
      have TL := Lib.hid (TL.out.below hb)
      have TM := Lib.hid (TM.out.below hb)
      have TP := Lib.hid (TP.out.below hb)
      clear hb hown c0 c1 c2 c3 c4 c5 d0 d1 x0 x1
      obtain ⟨c0, c1, c2, c3, c4, c5, d0, d1⟩ := X.out.cells
      go_wp2_with fail
      refine (sam4_yes AP np kP AQ np kQ JP _ TP.out TQ.out).mono ?_
      rintro e wp ⟨rfl, hb⟩
      have B := Lib.hid (B.out.trans (hb.mono B.out.size))
      have X := Lib.hid (X.out.below hb)
      have RB := Lib.hid (RB.out.below hb)
      have RF := Lib.hid (RF.out.below hb)
      have TW := Lib.hid (TW.out.below hb)
      have XB := Lib.hid (XB.out.below hb)
      have YB := Lib.hid (YB.out.below hb)
      have TN := Lib.hid (TN.out.below hb)
      have ZB := Lib.hid (ZB.out.below hb)
      have TA := Lib.hid (TA.out.below hb)
      have TL := Lib.hid (TL.out.below hb)
      have TM := Lib.hid (TM.out.below hb)
      have TP := Lib.hid (TP.out.below hb)
      have TQ := Lib.hid (TQ.out.below hb)
      clear hb c0 c1 c2 c3 c4 c5 d0 d1
      obtain ⟨c0, c1, c2, c3, c4, c5, d0, d1⟩ := X.out.cells
      go_upto_region 23 with fail
      clear c0 c1 c2 c3 c4 c5 d0 d1
      have hcl1 : nl ≤ kL := TL.out.cap
      have hcm1 : nm ≤ kM := TM.out.cap
      have hxl : kL ≤ maxLen := TL.out.max
      have hxm : kM ≤ maxLen := TM.out.max
      unfold maxLen at hxl hxm
      obtain ⟨k3, k4⟩ := K34.out
      have r1 : (n0 : Int) < (nl : Int) := by omega
      have r2 : (n0 : Int) ≤ (nm : Int) := by omega
      have r4 : (n0 : Int) ≤ (kL : Int) := by omega
      have r5 : (n0 : Int) ≤ (kM : Int) := by omega
      have TLF := Lib.hid (TL.out.first (k := n0) (by omega))
      have TMF := Lib.hid (TM.out.first (k := n0) (by omega))
      rw [← K5.out] at TMF
      have Q1 := Lib.hid (fun q => sam4q_no AL nl kL AM nm kM JL JM _ (TL.out.below (below_drewN (Below.refl wp.heap.size wp) q)) (TM.out.below (below_drewN (Below.refl wp.heap.size wp) q)) KNE.out)
      have Q2 := Lib.hid (fun q => sam4q_yes AL n0 kL AM n0 kM (JL.take n0) _ (TLF.out.below (below_drewN (Below.refl wp.heap.size wp) q)) (TMF.out.below (below_drewN (Below.refl wp.heap.size wp) q)))
      clear k3 k4 TL TM TP TQ TN TA TW TLF TMF
      go_quiet ((first | (go_at_call 18; with_reducible exact Calls.quiet_of (Q1.out _)) | (go_at_call 18; with_reducible exact Calls.quiet_of (Q2.out _))))
      have B := Lib.hid (B.out.trans ((below_drewN (Below.refl wp.heap.size wp) nq).mono B.out.size))
      go_wp2
      go_ret
      exact ⟨rfl, B.out⟩
  · rcases W2 with k1 | ⟨k1, k2 | ⟨k2, k3, k4, k5⟩⟩
    · skip
      have W1 := Lib.hid W1
      subst k1
      have hgg : (o == o) = true := beq_self_eq_true _
      go_enter Try.func7, Try.ntmps7
      go_wp2_with fail
      rw [← hw0]
      clear hw0
      refine (AL _).mono ?_
      rintro e wa ⟨rfl, hb⟩
      have B := Lib.hid (B.out.trans (hb.mono B.out.size))
      have X := Lib.hid (X.out.below hb)
      have RB := Lib.hid (RB.out.below hb)
      have RF := Lib.hid (RF.out.below hb)
      clear hb c0 c1 c2 c3 c4 c5 d0 d1
      obtain ⟨c0, c1, c2, c3, c4, c5, d0, d1⟩ := X.out.cells
      go_wp2_with fail
      refine (GG.out _ X.out.dsk.dsk).mono ?_
      rintro e wb ⟨rfl, hb⟩
      have B := Lib.hid (B.out.trans (hb.mono B.out.size))
      have X := Lib.hid (X.out.below hb)
      have RB := Lib.hid (RB.out.below hb)
      have RF := Lib.hid (RF.out.below hb)
      clear hb c0 c1 c2 c3 c4 c5 d0 d1
      obtain ⟨c0, c1, c2, c3, c4, c5, d0, d1⟩ := X.out.cells
      go_wp2_with fail
      refine (SD.out _ X.out.dsk.dsk).mono ?_
      rintro e wc ⟨AW, kW, rfl, hown, hb⟩
      have TW := Lib.hid hown.texts
      have B := Lib.hid (B.out.trans (hb.mono B.out.size))
      have X := Lib.hid (X.out.below hb)
      have RB := Lib.hid (RB.out.below hb)
      have RF := Lib.hid (RF.out.below hb)
      clear hb hown c0 c1 c2 c3 c4 c5 d0 d1
      obtain ⟨c0, c1, c2, c3, c4, c5, d0, d1⟩ := X.out.cells
      go_wp2_with fail
      refine (WY.out _ X.out.dsk.dsk RB.out).mono ?_
      rintro e wd ⟨AX, kX, AX', kX', rfl, hown, hb⟩
      have XB := DBox.new (Dsk.of_own hown)
      have hb := hb.alloc hb.size (.cells #[.slice AX n kX, .slice AX' (0 + 1) kX'] 25)
      have B := Lib.hid (B.out.trans (hb.mono B.out.size))
      have X := Lib.hid (X.out.below hb)
      have RB := Lib.hid (RB.out.below hb)
      have RF := Lib.hid (RF.out.below hb)
      have TW := Lib.hid (TW.out.below hb)
      clear hb hown c0 c1 c2 c3 c4 c5 d0 d1
      obtain ⟨GXB, hG⟩ : ∃ x, x = wd.heap.size := ⟨_, rfl⟩
      go_upto_region 9 with fail
      rw [← hG] at XB ⊢
      obtain ⟨wdx, hW⟩ : ∃ x : World, x = wd.alloc (.cells #[.slice AX n kX, .slice AX' (0 + 1) kX'] 25) := ⟨_, rfl⟩
      rw [← hW] at B X RB RF TW XB ⊢
      clear hW hG
      have XB := Lib.hid XB
      obtain ⟨c0, c1, c2, c3, c4, c5, d0, d1⟩ := X.out.cells
      obtain ⟨x0, x1⟩ := XB.out.cells
      go_wp2_with fail
      refine (CR.out AX kX AX' kX' _ XB.out.dsk RF.out).mono ?_
      rintro e we ⟨AY, kY, AY', kY', rfl, hown, hb⟩
      have YB := DBox.new (Dsk.of_own hown)
      have hb := hb.alloc hb.size (.cells #[.slice AY n kY, .slice AY' 0 kY'] 25)
      have B := Lib.hid (B.out.trans (hb.mono B.out.size))
      have X := Lib.hid (X.out.below hb)
      have RB := Lib.hid (RB.out.below hb)
      have RF := Lib.hid (RF.out.below hb)
      have TW := Lib.hid (TW.out.below hb)
      have XB := Lib.hid (XB.out.below hb)
      clear hb hown c0 c1 c2 c3 c4 c5 d0 d1 x0 x1
      obtain ⟨GYB, hG⟩ : ∃ x, x = we.heap.size := ⟨_, rfl⟩
      go_upto_region 12 with fail
      rw [← hG] at YB ⊢
      obtain ⟨wex, hW⟩ : ∃ x : World, x = we.alloc (.cells #[.slice AY n kY, .slice AY' 0 kY'] 25) := ⟨_, rfl⟩
      rw [← hW] at B X RB RF TW XB YB ⊢
      clear hW hG
      have YB := Lib.hid YB
      obtain ⟨c0, c1, c2, c3, c4, c5, d0, d1⟩ := X.out.cells
      obtain ⟨x0, x1⟩ := YB.out.cells
      go_wp2_with fail
      refine (S1.out AY kY AY' kY' _ YB.out.dsk).mono ?_
      rintro e wf ⟨AN, kN, rfl, hown, hb⟩
      have TN := Lib.hid hown.texts
      have B := Lib.hid (B.out.trans (hb.mono B.out.size))
      have X := Lib.hid (X.out.below hb)
      have RB := Lib.hid (RB.out.below hb)
      have RF := Lib.hid (RF.out.below hb)
      have TW := Lib.hid (TW.out.below hb)
      have XB := Lib.hid (XB.out.below hb)
      have YB := Lib.hid (YB.out.below hb)
      clear hb hown c0 c1 c2 c3 c4 c5 d0 d1 x0 x1
      obtain ⟨c0, c1, c2, c3, c4, c5, d0, d1⟩ := X.out.cells
      obtain ⟨x0, x1⟩ := XB.out.cells
      go_wp2_with fail
      refine (FL.out AX kX AX' kX' _ XB.out.dsk).mono ?_
      rintro e wg ⟨AZ, kZ, AZ', kZ', rfl, hown, hb⟩
      have ZB := DBox.new (Dsk.of_own hown)
      have hb := hb.alloc hb.size (.cells #[.slice AZ n kZ, .slice AZ' 0 kZ'] 25)
      have B := Lib.hid (B.out.trans (hb.mono B.out.size))
      have X := Lib.hid (X.out.below hb)
      have RB := Lib.hid (RB.out.below hb)
      have RF := Lib.hid (RF.out.below hb)
      have TW := Lib.hid (TW.out.below hb)
      have XB := Lib.hid (XB.out.below hb)
      have YB := Lib.hid (YB.out.below hb)
      have TN := Lib.hid (TN.out.below hb)
      clear hb hown c0 c1 c2 c3 c4 c5 d0 d1 x0 x1
      obtain ⟨GZB, hG⟩ : ∃ x, x = wg.heap.size := ⟨_, rfl⟩
      go_upto_region 14 with fail
      rw [← hG] at ZB ⊢
      obtain ⟨wgx, hW⟩ : ∃ x : World, x = wg.alloc (.cells #[.slice AZ n kZ, .slice AZ' 0 kZ'] 25) := ⟨_, rfl⟩
      rw [← hW] at B X RB RF TW XB YB TN ZB ⊢
      clear hW hG
      have ZB := Lib.hid ZB
      obtain ⟨c0, c1, c2, c3, c4, c5, d0, d1⟩ := X.out.cells
      obtain ⟨x0, x1⟩ := ZB.out.cells
      go_wp2_with fail
      refine (S2.out AZ kZ AZ' kZ' _ ZB.out.dsk).mono ?_
      rintro e wh ⟨AL2, kL2, rfl, hown, hb⟩
      have TA := Lib.hid hown.texts
      have B := Lib.hid (B.out.trans (hb.mono B.out.size))
      have X := Lib.hid (X.out.below hb)
      have RB := Lib.hid (RB.out.below hb)
      have RF := Lib.hid (RF.out.below hb)
      have TW := Lib.hid (TW.out.below hb)
      have XB := Lib.hid (XB.out.below hb)
      have YB := Lib.hid (YB.out.below hb)
      have TN := Lib.hid (TN.out.below hb)
      have ZB := Lib.hid (ZB.out.below hb)
      clear hb hown c0 c1 c2 c3 c4 c5 d0 d1 x0 x1
      obtain ⟨c0, c1, c2, c3, c4, c5, d0, d1⟩ := X.out.cells
      go_wp2_with fail
      refine (sam4_no AN n1 kN AW n0 kW J1 J0 _ TN.out TW.out W1.out.1).mono ?_
      rintro e wi ⟨rfl, hb⟩
      have B := Lib.hid (B.out.trans (hb.mono B.out.size))
      have X := Lib.hid (X.out.below hb)
      have RB := Lib.hid (RB.out.below hb)
      have RF := Lib.hid (RF.out.below hb)
      have TW := Lib.hid (TW.out.below hb)
      have XB := Lib.hid (XB.out.below hb)
      have YB := Lib.hid (YB.out.below hb)
      have TN := Lib.hid (TN.out.below hb)
      have ZB := Lib.hid (ZB.out.below hb)
      have TA := Lib.hid (TA.out.below hb)
      clear hb c0 c1 c2 c3 c4 c5 d0 d1
      obtain ⟨c0, c1, c2, c3, c4, c5, d0, d1⟩ := X.out.cells
      go_wp2_with fail
      refine (begins_yes AN n1 kN J1 AW n0 kW J0 a4 len4 cap4 b _ TN.out TW.out RB.out W1.out.2 few1).mono ?_
      rintro e wj ⟨rfl, hb⟩
      have B := Lib.hid (B.out.trans (hb.mono B.out.size))
      have X := Lib.hid (X.out.below hb)
      have RB := Lib.hid (RB.out.below hb)
      have RF := Lib.hid (RF.out.below hb)
      have TW := Lib.hid (TW.out.below hb)
      have XB := Lib.hid (XB.out.below hb)
      have YB := Lib.hid (YB.out.below hb)
      have TN := Lib.hid (TN.out.below hb)
      have ZB := Lib.hid (ZB.out.below hb)
      have TA := Lib.hid (TA.out.below hb)
      clear hb c0 c1 c2 c3 c4 c5 d0 d1
      obtain ⟨c0, c1, c2, c3, c4, c5, d0, d1⟩ := X.out.cells
      go_wp2_with fail
      refine (begins_yes AL2 n2 kL2 J2 AW n0 kW J0 a4 len4 cap4 b _ TA.out TW.out RB.out T3.out few2).mono ?_
      rintro e wk ⟨rfl, hb⟩
      have B := Lib.hid (B.out.trans (hb.mono B.out.size))
      have X := Lib.hid (X.out.below hb)
      have RB := Lib.hid (RB.out.below hb)
      have RF := Lib.hid (RF.out.below hb)
      have TW := Lib.hid (TW.out.below hb)
      have XB := Lib.hid (XB.out.below hb)
      have YB := Lib.hid (YB.out.below hb)
      have TN := Lib.hid (TN.out.below hb)
      have ZB := Lib.hid (ZB.out.below hb)
      have TA := Lib.hid (TA.out.below hb)
      clear hb c0 c1 c2 c3 c4 c5 d0 d1
      obtain ⟨c0, c1, c2, c3, c4, c5, d0, d1⟩ := X.out.cells
      go_wp2_with fail
      refine (SL.out D c D' c' _ X.out.dsk.dsk).mono ?_
      rintro e wl ⟨AL, kL, rfl, hown, hb⟩
      have TL := Lib.hid hown.texts
      have B := Lib.hid (B.out.trans (hb.mono B.out.size))
      have X := Lib.hid (X.out.below hb)
      have RB := Lib.hid (RB.out.below hb)
      have RF := Lib.hid (RF.out.below hb)
      have TW := Lib.hid (TW.out.below hb)
      have XB := Lib.hid (XB.out.below hb)
      have YB := Lib.hid (YB.out.below hb)
      have TN := Lib.hid (TN.out.below hb)
      have ZB := Lib.hid (ZB.out.below hb)
      have TA := Lib.hid (TA.out.below hb)
      clear hb hown c0 c1 c2 c3 c4 c5 d0 d1
      obtain ⟨c0, c1, c2, c3, c4, c5, d0, d1⟩ := X.out.cells
      obtain ⟨x0, x1⟩ := YB.out.cells
      go_wp2_with fail
      refine (SM.out AY kY AY' kY' _ YB.out.dsk).mono ?_
      rintro e wm ⟨AM, kM, rfl, hown, hb⟩
      have TM := Lib.hid hown.texts
      have B := Lib.hid (B.out.trans (hb.mono B.out.size))
      have X := Lib.hid (X.out.below hb)
      have RB := Lib.hid (RB.out.below hb)
      have RF := Lib.hid (RF.out.below hb)
      have TW := Lib.hid (TW.out.below hb)
      have XB := Lib.hid (XB.out.below hb)
      have YB := Lib.hid (YB.out.below hb)
      have TN := Lib.hid (TN.out.below hb)
      have ZB := Lib.hid (ZB.out.below hb)
      have TA := Lib.hid (TA.out.below hb)
      have TL := Lib.hid (TL.out.below hb)
      clear hb hown c0 c1 c2 c3 c4 c5 d0 d1 x0 x1
      obtain ⟨c0, c1, c2, c3, c4, c5, d0, d1⟩ := X.out.cells
      go_wp2_with fail
      refine (SP.out D c D' c' _ X.out.dsk.dsk).mono ?_
      rintro e wn ⟨AP, kP, rfl, hown, hb⟩
      have TP := Lib.hid hown.texts
      have B := Lib.hid (B.out.trans (hb.mono B.out.size))
      have X := Lib.hid (X.out.below hb)
      have RB := Lib.hid (RB.out.below hb)
      have RF := Lib.hid (RF.out.below hb)
      have TW := Lib.hid (TW.out.below hb)
      have XB := Lib.hid (XB.out.below hb)
      have YB := Lib.hid (YB.out.below hb)
      have TN := Lib.hid (TN.out.below hb)
      have ZB := Lib.hid (ZB.out.below hb)
      have TA := Lib.hid (TA.out.below hb)
      have TL := Lib.hid (TL.out.below hb)
      have TM := Lib.hid (TM.out.below hb)
      clear hb hown c0 c1 c2 c3 c4 c5 d0 d1
      obtain ⟨c0, c1, c2, c3, c4, c5, d0, d1⟩ := X.out.cells
      obtain ⟨x0, x1⟩ := YB.out.cells
      go_wp2_with fail
      refine (SQ.out AY kY AY' kY' _ YB.out.dsk).mono ?_
      rintro e wo ⟨AQ, kQ, rfl, hown, hb⟩
      have TQ := Lib.hid hown.texts
      have B := Lib.hid (B.out.trans (hb.mono B.out.size))
      have X := Lib.hid (X.out.below hb)
      have RB := Lib.hid (RB.out.below hb)
      have RF := Lib.hid (RF.out.below hb)
      have TW := Lib.hid (TW.out.below hb)
      have XB := Lib.hid (XB.out.below hb)
      have YB := Lib.hid (YB.out.below hb)
      have TN := Lib.hid (TN.out.below hb)
      have ZB := Lib.hid (ZB.out.below hb)
      have TA := Lib.hid (TA.out.below hb)
      have TL := Lib.hid (TL.out.below hb)
      have TM := Lib.hid (TM.out.below hb)
      have TP := Lib.hid (TP.out.below hb)
      clear hb hown c0 c1 c2 c3 c4 c5 d0 d1 x0 x1
      obtain ⟨c0, c1, c2, c3, c4, c5, d0, d1⟩ := X.out.cells
      go_wp2_with fail
      refine (sam4_yes AP np kP AQ np kQ JP _ TP.out TQ.out).mono ?_
      rintro e wp ⟨rfl, hb⟩
      have B := Lib.hid (B.out.trans (hb.mono B.out.size))
      have X := Lib.hid (X.out.below hb)
      have RB := Lib.hid (RB.out.below hb)
      have RF := Lib.hid (RF.out.below hb)
      have TW := Lib.hid (TW.out.below hb)
      have XB := Lib.hid (XB.out.below hb)
      have YB := Lib.hid (YB.out.below hb)
      have TN := Lib.hid (TN.out.below hb)
      have ZB := Lib.hid (ZB.out.below hb)
      have TA := Lib.hid (TA.out.below hb)
      have TL := Lib.hid (TL.out.below hb)
      have TM := Lib.hid (TM.out.below hb)
      have TP := Lib.hid (TP.out.below hb)
      have TQ := Lib.hid (TQ.out.below hb)
      clear hb c0 c1 c2 c3 c4 c5 d0 d1
      obtain ⟨c0, c1, c2, c3, c4, c5, d0, d1⟩ := X.out.cells
      go_upto_region 23 with fail
      clear c0 c1 c2 c3 c4 c5 d0 d1
      clear TL TM TP TQ TN TA TW
      go_quiet (fail)
      have B := Lib.hid (B.out.trans ((below_drewN (Below.refl wp.heap.size wp) nq).mono B.out.size))
      go_wp2
      go_ret
      exact ⟨rfl, B.out⟩
    · skip
      have W1 := Lib.hid W1
      have hgg : (o == g) = false := beq_eq_false_iff_ne.2 k1
      clear k1
      subst k2
      go_enter Try.func7, Try.ntmps7
      go_wp2_with fail
      rw [← hw0]
      clear hw0
      refine (AL _).mono ?_
      rintro e wa ⟨rfl, hb⟩
      have B := Lib.hid (B.out.trans (hb.mono B.out.size))
      have X := Lib.hid (X.out.below hb)
      have RB := Lib.hid (RB.out.below hb)
      have RF := Lib.hid (RF.out.below hb)
      clear hb c0 c1 c2 c3 c4 c5 d0 d1
      obtain ⟨c0, c1, c2, c3, c4, c5, d0, d1⟩ := X.out.cells
      go_wp2_with fail
      refine (GG.out _ X.out.dsk.dsk).mono ?_
      rintro e wb ⟨rfl, hb⟩
      have B := Lib.hid (B.out.trans (hb.mono B.out.size))
      have X := Lib.hid (X.out.below hb)
      have RB := Lib.hid (RB.out.below hb)
      have RF := Lib.hid (RF.out.below hb)
      clear hb c0 c1 c2 c3 c4 c5 d0 d1
      obtain ⟨c0, c1, c2, c3, c4, c5, d0, d1⟩ := X.out.cells
      go_wp2_with fail
      refine (SD.out _ X.out.dsk.dsk).mono ?_
      rintro e wc ⟨AW, kW, rfl, hown, hb⟩
      have TW := Lib.hid hown.texts
      have B := Lib.hid (B.out.trans (hb.mono B.out.size))
      have X := Lib.hid (X.out.below hb)
      have RB := Lib.hid (RB.out.below hb)
      have RF := Lib.hid (RF.out.below hb)
      clear hb hown c0 c1 c2 c3 c4 c5 d0 d1
      obtain ⟨c0, c1, c2, c3, c4, c5, d0, d1⟩ := X.out.cells
      go_wp2_with fail
      refine (WY.out _ X.out.dsk.dsk RB.out).mono ?_
      rintro e wd ⟨AX, kX, AX', kX', rfl, hown, hb⟩
      have XB := DBox.new (Dsk.of_own hown)
      have hb := hb.alloc hb.size (.cells #[.slice AX n kX, .slice AX' (0 + 1) kX'] 25)
      have B := Lib.hid (B.out.trans (hb.mono B.out.size))
      have X := Lib.hid (X.out.below hb)
      have RB := Lib.hid (RB.out.below hb)
      have RF := Lib.hid (RF.out.below hb)
      have TW := Lib.hid (TW.out.below hb)
      clear hb hown c0 c1 c2 c3 c4 c5 d0 d1
      obtain ⟨GXB, hG⟩ : ∃ x, x = wd.heap.size := ⟨_, rfl⟩
      go_upto_region 9 with fail
      rw [← hG] at XB ⊢
      obtain ⟨wdx, hW⟩ : ∃ x : World, x = wd.alloc (.cells #[.slice AX n kX, .slice AX' (0 + 1) kX'] 25) := ⟨_, rfl⟩
      rw [← hW] at B X RB RF TW XB ⊢
      clear hW hG
      have XB := Lib.hid XB
      obtain ⟨c0, c1, c2, c3, c4, c5, d0, d1⟩ := X.out.cells
      obtain ⟨x0, x1⟩ := XB.out.cells
      go_wp2_with fail
      refine (CR.out AX kX AX' kX' _ XB.out.dsk RF.out).mono ?_
      rintro e we ⟨AY, kY, AY', kY', rfl, hown, hb⟩
      have YB := DBox.new (Dsk.of_own hown)
      have hb := hb.alloc hb.size (.cells #[.slice AY n kY, .slice AY' 0 kY'] 25)
      have B := Lib.hid (B.out.trans (hb.mono B.out.size))
      have X := Lib.hid (X.out.below hb)
      have RB := Lib.hid (RB.out.below hb)
      have RF := Lib.hid (RF.out.below hb)
      have TW := Lib.hid (TW.out.below hb)
      have XB := Lib.hid (XB.out.below hb)
      clear hb hown c0 c1 c2 c3 c4 c5 d0 d1 x0 x1
      obtain ⟨GYB, hG⟩ : ∃ x, x = we.heap.size := ⟨_, rfl⟩
      go_upto_region 12 with fail
      rw [← hG] at YB ⊢
      obtain ⟨wex, hW⟩ : ∃ x : World, x = we.alloc (.cells #[.slice AY n kY, .slice AY' 0 kY'] 25) := ⟨_, rfl⟩
      rw [← hW] at B X RB RF TW XB YB ⊢
      clear hW hG
      have YB := Lib.hid YB
      obtain ⟨c0, c1, c2, c3, c4, c5, d0, d1⟩ := X.out.cells
      obtain ⟨x0, x1⟩ := YB.out.cells
      go_wp2_with fail
      refine (S1.out AY kY AY' kY' _ YB.out.dsk).mono ?_
      rintro e wf ⟨AN, kN, rfl, hown, hb⟩
      have TN := Lib.hid hown.texts
      have B := Lib.hid (B.out.trans (hb.mono B.out.size))
      have X := Lib.hid (X.out.below hb)
      have RB := Lib.hid (RB.out.below hb)
      have RF := Lib.hid (RF.out.below hb)
      have TW := Lib.hid (TW.out.below hb)
      have XB := Lib.hid (XB.out.below hb)
      have YB := Lib.hid (YB.out.below hb)
      clear hb hown c0 c1 c2 c3 c4 c5 d0 d1 x0 x1
      obtain ⟨c0, c1, c2, c3, c4, c5, d0, d1⟩ := X.out.cells
      obtain ⟨x0, x1⟩ := XB.out.cells
      go_wp2_with fail
      refine (FL.out AX kX AX' kX' _ XB.out.dsk).mono ?_
      rintro e wg ⟨AZ, kZ, AZ', kZ', rfl, hown, hb⟩
      have ZB := DBox.new (Dsk.of_own hown)
      have hb := hb.alloc hb.size (.cells #[.slice AZ n kZ, .slice AZ' 0 kZ'] 25)
      have B := Lib.hid (B.out.trans (hb.mono B.out.size))
      have X := Lib.hid (X.out.below hb)
      have RB := Lib.hid (RB.out.below hb)
      have RF := Lib.hid (RF.out.below hb)
      have TW := Lib.hid (TW.out.below hb)
      have XB := Lib.hid (XB.out.below hb)
      have YB := Lib.hid (YB.out.below hb)
      have TN := Lib.hid (TN.out.below hb)
      clear hb hown c0 c1 c2 c3 c4 c5 d0 d1 x0 x1
      obtain ⟨GZB, hG⟩ : ∃ x, x = wg.heap.size := ⟨_, rfl⟩
      go_upto_region 14 with fail
      rw [← hG] at ZB ⊢
      obtain ⟨wgx, hW⟩ : ∃ x : World, x = wg.alloc (.cells #[.slice AZ n kZ, .slice AZ' 0 kZ'] 25) := ⟨_, rfl⟩
      rw [← hW] at B X RB RF TW XB YB TN ZB ⊢
      clear hW hG
      have ZB := Lib.hid ZB
      obtain ⟨c0, c1, c2, c3, c4, c5, d0, d1⟩ := X.out.cells
      obtain ⟨x0, x1⟩ := ZB.out.cells
      go_wp2_with fail
      refine (S2.out AZ kZ AZ' kZ' _ ZB.out.dsk).mono ?_
      rintro e wh ⟨AL2, kL2, rfl, hown, hb⟩
      have TA := Lib.hid hown.texts
      have B := Lib.hid (B.out.trans (hb.mono B.out.size))
      have X := Lib.hid (X.out.below hb)
      have RB := Lib.hid (RB.out.below hb)
      have RF := Lib.hid (RF.out.below hb)
      have TW := Lib.hid (TW.out.below hb)
      have XB := Lib.hid (XB.out.below hb)
      have YB := Lib.hid (YB.out.below hb)
      have TN := Lib.hid (TN.out.below hb)
      have ZB := Lib.hid (ZB.out.below hb)
      clear hb hown c0 c1 c2 c3 c4 c5 d0 d1 x0 x1
      obtain ⟨c0, c1, c2, c3, c4, c5, d0, d1⟩ := X.out.cells
      go_wp2_with fail
      refine (sam4_no AN n1 kN AW n0 kW J1 J0 _ TN.out TW.out W1.out.1).mono ?_
      rintro e wi ⟨rfl, hb⟩
      have B := Lib.hid (B.out.trans (hb.mono B.out.size))
      have X := Lib.hid (X.out.below hb)
      have RB := Lib.hid (RB.out.below hb)
      have RF := Lib.hid (RF.out.below hb)
      have TW := Lib.hid (TW.out.below hb)
      have XB := Lib.hid (XB.out.below hb)
      have YB := Lib.hid (YB.out.below hb)
      have TN := Lib.hid (TN.out.below hb)
      have ZB := Lib.hid (ZB.out.below hb)
      have TA := Lib.hid (TA.out.below hb)
      clear hb c0 c1 c2 c3 c4 c5 d0 d1
      obtain ⟨c0, c1, c2, c3, c4, c5, d0, d1⟩ := X.out.cells
      go_wp2_with fail
      refine (begins_yes AN n1 kN J1 AW n0 kW J0 a4 len4 cap4 b _ TN.out TW.out RB.out W1.out.2 few1).mono ?_
      rintro e wj ⟨rfl, hb⟩
      have B := Lib.hid (B.out.trans (hb.mono B.out.size))
      have X := Lib.hid (X.out.below hb)
      have RB := Lib.hid (RB.out.below hb)
      have RF := Lib.hid (RF.out.below hb)
      have TW := Lib.hid (TW.out.below hb)
      have XB := Lib.hid (XB.out.below hb)
      have YB := Lib.hid (YB.out.below hb)
      have TN := Lib.hid (TN.out.below hb)
      have ZB := Lib.hid (ZB.out.below hb)
      have TA := Lib.hid (TA.out.below hb)
      clear hb c0 c1 c2 c3 c4 c5 d0 d1
      obtain ⟨c0, c1, c2, c3, c4, c5, d0, d1⟩ := X.out.cells
      go_wp2_with fail
      refine (begins_yes AL2 n2 kL2 J2 AW n0 kW J0 a4 len4 cap4 b _ TA.out TW.out RB.out T3.out few2).mono ?_
      rintro e wk ⟨rfl, hb⟩
      have B := Lib.hid (B.out.trans (hb.mono B.out.size))
      have X := Lib.hid (X.out.below hb)
      have RB := Lib.hid (RB.out.below hb)
      have RF := Lib.hid (RF.out.below hb)
      have TW := Lib.hid (TW.out.below hb)
      have XB := Lib.hid (XB.out.below hb)
      have YB := Lib.hid (YB.out.below hb)
      have TN := Lib.hid (TN.out.below hb)
      have ZB := Lib.hid (ZB.out.below hb)
      have TA := Lib.hid (TA.out.below hb)
      clear hb c0 c1 c2 c3 c4 c5 d0 d1
      obtain ⟨c0, c1, c2, c3, c4, c5, d0, d1⟩ := X.out.cells
      go_wp2_with fail
      refine (SL.out D c D' c' _ X.out.dsk.dsk).mono ?_
      rintro e wl ⟨AL, kL, rfl, hown, hb⟩
      have TL := Lib.hid hown.texts
      have B := Lib.hid (B.out.trans (hb.mono B.out.size))
      have X := Lib.hid (X.out.below hb)
      have RB := Lib.hid (RB.out.below hb)
      have RF := Lib.hid (RF.out.below hb)
      have TW := Lib.hid (TW.out.below hb)
      have XB := Lib.hid (XB.out.below hb)
      have YB := Lib.hid (YB.out.below hb)
      have TN := Lib.hid (TN.out.below hb)
      have ZB := Lib.hid (ZB.out.below hb)
      have TA := Lib.hid (TA.out.below hb)
      clear hb hown c0 c1 c2 c3 c4 c5 d0 d1
      obtain ⟨c0, c1, c2, c3, c4, c5, d0, d1⟩ := X.out.cells
      obtain ⟨x0, x1⟩ := YB.out.cells
      go_wp2_with fail
      refine (SM.out AY kY AY' kY' _ YB.out.dsk).mono ?_
      rintro e wm ⟨AM, kM, rfl, hown, hb⟩
      have TM := Lib.hid hown.texts
      have B := Lib.hid (B.out.trans (hb.mono B.out.size))
      have X := Lib.hid (X.out.below hb)
      have RB := Lib.hid (RB.out.below hb)
      have RF := Lib.hid (RF.out.below hb)
      have TW := Lib.hid (TW.out.below hb)
      have XB := Lib.hid (XB.out.below hb)
      have YB := Lib.hid (YB.out.below hb)
      have TN := Lib.hid (TN.out.below hb)
      have ZB := Lib.hid (ZB.out.below hb)
      have TA := Lib.hid (TA.out.below hb)
      have TL := Lib.hid (TL.out.below hb)
      clear hb hown c0 c1 c2 c3 c4 c5 d0 d1 x0 x1
      obtain ⟨c0, c1, c2, c3, c4, c5, d0, d1⟩ := X.out.cells
      go_wp2_with fail
      refine (SP.out D c D' c' _ X.out.dsk.dsk).mono ?_
      rintro e wn ⟨AP, kP, rfl, hown, hb⟩
      have TP := Lib.hid hown.texts
      have B := Lib.hid (B.out.trans (hb.mono B.out.size))
      have X := Lib.hid (X.out.below hb)
      have RB := Lib.hid (RB.out.below hb)
      have RF := Lib.hid (RF.out.below hb)
      have TW := Lib.hid (TW.out.below hb)
      have XB := Lib.hid (XB.out.below hb)
      have YB := Lib.hid (YB.out.below hb)
      have TN := Lib.hid (TN.out.below hb)
      have ZB := Lib.hid (ZB.out.below hb)
      have TA := Lib.hid (TA.out.below hb)
      have TL := Lib.hid (TL.out.below hb)
      have TM := Lib.hid (TM.out.below hb)
      clear hb hown c0 c1 c2 c3 c4 c5 d0 d1
      obtain ⟨c0, c1, c2, c3, c4, c5, d0, d1⟩ := X.out.cells
      obtain ⟨x0, x1⟩ := YB.out.cells
      go_wp2_with fail
      refine (SQ.out AY kY AY' kY' _ YB.out.dsk).mono ?_
      rintro e wo ⟨AQ, kQ, rfl, hown, hb⟩
      have TQ := Lib.hid hown.texts
      have B := Lib.hid (B.out.trans (hb.mono B.out.size))
      have X := Lib.hid (X.out.below hb)
      have RB := Lib.hid (RB.out.below hb)
      have RF := Lib.hid (RF.out.below hb)
      have TW := Lib.hid (TW.out.below hb)
      have XB := Lib.hid (XB.out.below hb)
      have YB := Lib.hid (YB.out.below hb)
      have TN := Lib.hid (TN.out.below hb)
      have ZB := Lib.hid (ZB.out.below hb)
      have TA := Lib.hid (TA.out.below hb)
      have TL := Lib.hid (TL.out.below hb)
      have TM := Lib.hid (TM.out.below hb)
      have TP := Lib.hid (TP.out.below hb)
      clear hb hown c0 c1 c2 c3 c4 c5 d0 d1 x0 x1
      obtain ⟨c0, c1, c2, c3, c4, c5, d0, d1⟩ := X.out.cells
      go_wp2_with fail
      refine (sam4_yes AP np kP AQ np kQ JP _ TP.out TQ.out).mono ?_
      rintro e wp ⟨rfl, hb⟩
      have B := Lib.hid (B.out.trans (hb.mono B.out.size))
      have X := Lib.hid (X.out.below hb)
      have RB := Lib.hid (RB.out.below hb)
      have RF := Lib.hid (RF.out.below hb)
      have TW := Lib.hid (TW.out.below hb)
      have XB := Lib.hid (XB.out.below hb)
      have YB := Lib.hid (YB.out.below hb)
      have TN := Lib.hid (TN.out.below hb)
      have ZB := Lib.hid (ZB.out.below hb)
      have TA := Lib.hid (TA.out.below hb)
      have TL := Lib.hid (TL.out.below hb)
      have TM := Lib.hid (TM.out.below hb)
      have TP := Lib.hid (TP.out.below hb)
      have TQ := Lib.hid (TQ.out.below hb)
      clear hb c0 c1 c2 c3 c4 c5 d0 d1
      obtain ⟨c0, c1, c2, c3, c4, c5, d0, d1⟩ := X.out.cells
      go_upto_region 23 with fail
      clear c0 c1 c2 c3 c4 c5 d0 d1
      have Q1 := Lib.hid (fun q => sam4q_yes AL nl kL AM nm kM JL _ (TL.out.below (below_drewN (Below.refl wp.heap.size wp) q)) (TM.out.below (below_drewN (Below.refl wp.heap.size wp) q)))
      clear TL TM TP TQ TN TA TW
      go_quiet ((first | (go_at_call 18; exact Calls.quiet_of (Q1.out _))))
      have B := Lib.hid (B.out.trans ((below_drewN (Below.refl wp.heap.size wp) nq).mono B.out.size))
      go_wp2
      go_ret
      exact ⟨rfl, B.out⟩
    · skip
      have W1 := Lib.hid W1
      have hgg : (o == g) = false := beq_eq_false_iff_ne.2 k1
      clear k1
      have KNE := Lib.hid k2
      have K34 := Lib.hid (⟨k3, k4⟩ : n0 < nl ∧ n0 ≤ nm)
      have K5 := Lib.hid k5
      clear k2 k3 k4 k5
      go_enter Try.func7, Try.ntmps7
      go_wp2_with fail
      rw [← hw0]
      clear hw0
      refine (AL _).mono ?_
      rintro e wa ⟨rfl, hb⟩
      have B := Lib.hid (B.out.trans (hb.mono B.out.size))
      have X := Lib.hid (X.out.below hb)
      have RB := Lib.hid (RB.out.below hb)
      have RF := Lib.hid (RF.out.below hb)
      clear hb c0 c1 c2 c3 c4 c5 d0 d1
      obtain ⟨c0, c1, c2, c3, c4, c5, d0, d1⟩ := X.out.cells
      go_wp2_with fail
      refine (GG.out _ X.out.dsk.dsk).mono ?_
      rintro e wb ⟨rfl, hb⟩
      have B := Lib.hid (B.out.trans (hb.mono B.out.size))
      have X := Lib.hid (X.out.below hb)
      have RB := Lib.hid (RB.out.below hb)
      have RF := Lib.hid (RF.out.below hb)
      clear hb c0 c1 c2 c3 c4 c5 d0 d1
      obtain ⟨c0, c1, c2, c3, c4, c5, d0, d1⟩ := X.out.cells
      go_wp2_with fail
      refine (SD.out _ X.out.dsk.dsk).mono ?_
      rintro e wc ⟨AW, kW, rfl, hown, hb⟩
      have TW := Lib.hid hown.texts
      have B := Lib.hid (B.out.trans (hb.mono B.out.size))
      have X := Lib.hid (X.out.below hb)
      have RB := Lib.hid (RB.out.below hb)
      have RF := Lib.hid (RF.out.below hb)
      clear hb hown c0 c1 c2 c3 c4 c5 d0 d1
      obtain ⟨c0, c1, c2, c3, c4, c5, d0, d1⟩ := X.out.cells
      go_wp2_with fail
      refine (WY.out _ X.out.dsk.dsk RB.out).mono ?_
      rintro e wd ⟨AX, kX, AX', kX', rfl, hown, hb⟩
      have XB := DBox.new (Dsk.of_own hown)
      have hb := hb.alloc hb.size (.cells #[.slice AX n kX, .slice AX' (0 + 1) kX'] 25)
      have B := Lib.hid (B.out.trans (hb.mono B.out.size))
      have X := Lib.hid (X.out.below hb)
      have RB := Lib.hid (RB.out.below hb)
      have RF := Lib.hid (RF.out.below hb)
      have TW := Lib.hid (TW.out.below hb)
      clear hb hown c0 c1 c2 c3 c4 c5 d0 d1
      obtain ⟨GXB, hG⟩ : ∃ x, x = wd.heap.size := ⟨_, rfl⟩
      go_upto_region 9 with fail
      rw [← hG] at XB ⊢
      obtain ⟨wdx, hW⟩ : ∃ x : World, x = wd.alloc (.cells #[.slice AX n kX, .slice AX' (0 + 1) kX'] 25) := ⟨_, rfl⟩
      rw [← hW] at B X RB RF TW XB ⊢
      clear hW hG
      have XB := Lib.hid XB
      obtain ⟨c0, c1, c2, c3, c4, c5, d0, d1⟩ := X.out.cells
      obtain ⟨x0, x1⟩ := XB.out.cells
      go_wp2_with fail
      refine (CR.out AX kX AX' kX' _ XB.out.dsk RF.out).mono ?_
      rintro e we ⟨AY, kY, AY', kY', rfl, hown, hb⟩
      have YB := DBox.new (Dsk.of_own hown)
      have hb := hb.alloc hb.size (.cells #[.slice AY n kY, .slice AY' 0 kY'] 25)
      have B := Lib.hid (B.out.trans (hb.mono B.out.size))
      have X := Lib.hid (X.out.below hb)
      have RB := Lib.hid (RB.out.below hb)
      have RF := Lib.hid (RF.out.below hb)
      have TW := Lib.hid (TW.out.below hb)
      have XB := Lib.hid (XB.out.below hb)
      clear hb hown c0 c1 c2 c3 c4 c5 d0 d1 x0 x1
      obtain ⟨GYB, hG⟩ : ∃ x, x = we.heap.size := ⟨_, rfl⟩
      go_upto_region 12 with fail
      rw [← hG] at YB ⊢
      obtain ⟨wex, hW⟩ : ∃ x : World, x = we.alloc (.cells #[.slice AY n kY, .slice AY' 0 kY'] 25) := ⟨_, rfl⟩
      rw [← hW] at B X RB RF TW XB YB ⊢
      clear hW hG
      have YB := Lib.hid YB
      obtain ⟨c0, c1, c2, c3, c4, c5, d0, d1⟩ := X.out.cells
      obtain ⟨x0, x1⟩ := YB.out.cells
      go_wp2_with fail
      refine (S1.out AY kY AY' kY' _ YB.out.dsk).mono ?_
      rintro e wf ⟨AN, kN, rfl, hown, hb⟩
      have TN := Lib.hid hown.texts
      have B := Lib.hid (B.out.trans (hb.mono B.out.size))
      have X := Lib.hid (X.out.below hb)
      have RB := Lib.hid (RB.out.below hb)
      have RF := Lib.hid (RF.out.below hb)
      have TW := Lib.hid (TW.out.below hb)
      have XB := Lib.hid (XB.out.below hb)
      have YB := Lib.hid (YB.out.below hb)
      clear hb hown c0 c1 c2 c3 c4 c5 d0 d1 x0 x1
      obtain ⟨c0, c1, c2, c3, c4, c5, d0, d1⟩ := X.out.cells
      obtain ⟨x0, x1⟩ := XB.out.cells
      go_wp2_with fail
      refine (FL.out AX kX AX' kX' _ XB.out.dsk).mono ?_
      rintro e wg ⟨AZ, kZ, AZ', kZ', rfl, hown, hb⟩
      have ZB := DBox.new (Dsk.of_own hown)
      have hb := hb.alloc hb.size (.cells #[.slice AZ n kZ, .slice AZ' 0 kZ'] 25)
      have B := Lib.hid (B.out.trans (hb.mono B.out.size))
      have X := Lib.hid (X.out.below hb)
      have RB := Lib.hid (RB.out.below hb)
      have RF := Lib.hid (RF.out.below hb)
      have TW := Lib.hid (TW.out.below hb)
      have XB := Lib.hid (XB.out.below hb)
      have YB := Lib.hid (YB.out.below hb)
      have TN := Lib.hid (TN.out.below hb)
      clear hb hown c0 c1 c2 c3 c4 c5 d0 d1 x0 x1
      obtain ⟨GZB, hG⟩ : ∃ x, x = wg.heap.size := ⟨_, rfl⟩
      go_upto_region 14 with fail
      rw [← hG] at ZB ⊢
      obtain ⟨wgx, hW⟩ : ∃ x : World, x = wg.alloc (.cells #[.slice AZ n kZ, .slice AZ' 0 kZ'] 25) := ⟨_, rfl⟩
      rw [← hW] at B X RB RF TW XB YB TN ZB ⊢
      clear hW hG
      have ZB := Lib.hid ZB
      obtain ⟨c0, c1, c2, c3, c4, c5, d0, d1⟩ := X.out.cells
      obtain ⟨x0, x1⟩ := ZB.out.cells
      go_wp2_with fail
      refine (S2.out AZ kZ AZ' kZ' _ ZB.out.dsk).mono ?_
      rintro e wh ⟨AL2, kL2, rfl, hown, hb⟩
      have TA := Lib.hid hown.texts
      have B := Lib.hid (B.out.trans (hb.mono B.out.size))
      have X := Lib.hid (X.out.below hb)
      have RB := Lib.hid (RB.out.below hb)
      have RF := Lib.hid (RF.out.below hb)
      have TW := Lib.hid (TW.out.below hb)
      have XB := Lib.hid (XB.out.below hb)
      have YB := Lib.hid (YB.out.below hb)
      have TN := Lib.hid (TN.out.below hb)
      have ZB := Lib.hid (ZB.out.below hb)
      clear hb hown c0 c1 c2 c3 c4 c5 d0 d1 x0 x1
      obtain ⟨c0, c1, c2, c3, c4, c5, d0, d1⟩ := X.out.cells
      go_wp2_with fail
      refine (sam4_no AN n1 kN AW n0 kW J1 J0 _ TN.out TW.out W1.out.1).mono ?_
      rintro e wi ⟨rfl, hb⟩
      have B := Lib.hid (B.out.trans (hb.mono B.out.size))
      have X := Lib.hid (X.out.below hb)
      have RB := Lib.hid (RB.out.below hb)
      have RF := Lib.hid (RF.out.below hb)
      have TW := Lib.hid (TW.out.below hb)
      have XB := Lib.hid (XB.out.below hb)
      have YB := Lib.hid (YB.out.below hb)
      have TN := Lib.hid (TN.out.below hb)
      have ZB := Lib.hid (ZB.out.below hb)
      have TA := Lib.hid (TA.out.below hb)
      clear hb c0 c1 c2 c3 c4 c5 d0 d1
      obtain ⟨c0, c1, c2, c3, c4, c5, d0, d1⟩ := X.out.cells
      go_wp2_with fail
      refine (begins_yes AN n1 kN J1 AW n0 kW J0 a4 len4 cap4 b _ TN.out TW.out RB.out W1.out.2 few1).mono ?_
      rintro e wj ⟨rfl, hb⟩
      have B := Lib.hid (B.out.trans (hb.mono B.out.size))
      have X := Lib.hid (X.out.below hb)
      have RB := Lib.hid (RB.out.below hb)
      have RF := Lib.hid (RF.out.below hb)
      have TW := Lib.hid (TW.out.below hb)
      have XB := Lib.hid (XB.out.below hb)
      have YB := Lib.hid (YB.out.below hb)
      have TN := Lib.hid (TN.out.below hb)
      have ZB := Lib.hid (ZB.out.below hb)
      have TA := Lib.hid (TA.out.below hb)
      clear hb c0 c1 c2 c3 c4 c5 d0 d1
      obtain ⟨c0, c1, c2, c3, c4, c5, d0, d1⟩ := X.out.cells
      go_wp2_with fail
      refine (begins_yes AL2 n2 kL2 J2 AW n0 kW J0 a4 len4 cap4 b _ TA.out TW.out RB.out T3.out few2).mono ?_
      rintro e wk ⟨rfl, hb⟩
      have B := Lib.hid (B.out.trans (hb.mono B.out.size))
      have X := Lib.hid (X.out.below hb)
      have RB := Lib.hid (RB.out.below hb)
      have RF := Lib.hid (RF.out.below hb)
      have TW := Lib.hid (TW.out.below hb)
      have XB := Lib.hid (XB.out.below hb)
      have YB := Lib.hid (YB.out.below hb)
      have TN := Lib.hid (TN.out.below hb)
      have ZB := Lib.hid (ZB.out.below hb)
      have TA := Lib.hid (TA.out.below hb)
      clear hb c0 c1 c2 c3 c4 c5 d0 d1
      obtain ⟨c0, c1, c2, c3, c4, c5, d0, d1⟩ := X.out.cells
      go_wp2_with fail
      refine (SL.out D c D' c' _ X.out.dsk.dsk).mono ?_
      rintro e wl ⟨AL, kL, rfl, hown, hb⟩
      have TL := Lib.hid hown.texts
      have B := Lib.hid (B.out.trans (hb.mono B.out.size))
      have X := Lib.hid (X.out.below hb)
      have RB := Lib.hid (RB.out.below hb)
      have RF := Lib.hid (RF.out.below hb)
      have TW := Lib.hid (TW.out.below hb)
      have XB := Lib.hid (XB.out.below hb)
      have YB := Lib.hid (YB.out.below hb)
      have TN := Lib.hid (TN.out.below hb)
      have ZB := Lib.hid (ZB.out.below hb)
      have TA := Lib.hid (TA.out.below hb)
      clear hb hown c0 c1 c2 c3 c4 c5 d0 d1
      obtain ⟨c0, c1, c2, c3, c4, c5, d0, d1⟩ := X.out.cells
      obtain ⟨x0, x1⟩ := YB.out.cells
      go_wp2_with fail
      refine (SM.out AY kY AY' kY' _ YB.out.dsk).mono ?_
      rintro e wm ⟨AM, kM, rfl, hown, hb⟩
      have TM := Lib.hid hown.texts
      have B := Lib.hid (B.out.trans (hb.mono B.out.size))
      have X := Lib.hid (X.out.below hb)
      have RB := Lib.hid (RB.out.below hb)
      have RF := Lib.hid (RF.out.below hb)
      have TW := Lib.hid (TW.out.below hb)
      have XB := Lib.hid (XB.out.below hb)
      have YB := Lib.hid (YB.out.below hb)
      have TN := Lib.hid (TN.out.below hb)
      have ZB := Lib.hid (ZB.out.below hb)
      have TA := Lib.hid (TA.out.below hb)
      have TL := Lib.hid (TL.out.below hb)
      clear hb hown c0 c1 c2 c3 c4 c5 d0 d1 x0 x1
      obtain ⟨c0, c1, c2, c3, c4, c5, d0, d1⟩ := X.out.cells
      go_wp2_with fail
      refine (SP.out D c D' c' _ X.out.dsk.dsk).mono ?_
      rintro e wn ⟨AP, kP, rfl, hown, hb⟩
      have TP := Lib.hid hown.texts
      have B := Lib.hid (B.out.trans (hb.mono B.out.size))
      have X := Lib.hid (X.out.below hb)
      have RB := Lib.hid (RB.out.below hb)
      have RF := Lib.hid (RF.out.below hb)
      have TW := Lib.hid (TW.out.below hb)
      have XB := Lib.hid (XB.out.below hb)
      have YB := Lib.hid (YB.out.below hb)
      have TN := Lib.hid (TN.out.below hb)
      have ZB := Lib.hid (ZB.out.below hb)
      have TA := Lib.hid (TA.out.below hb)
      have TL := Lib.hid (TL.out.below hb)
      have TM := Lib.hid (TM.out.below hb)
      clear hb hown c0 c1 c2 c3 c4 c5 d0 d1
      obtain ⟨c0, c1, c2, c3, c4, c5, d0, d1⟩ := X.out.cells
      obtain ⟨x0, x1⟩ := YB.out.cells
      go_wp2_with fail
      refine (SQ.out AY kY AY' kY' _ YB.out.dsk).mono ?_
      rintro e wo ⟨AQ, kQ, rfl, hown, hb⟩
      have TQ := Lib.hid hown.texts
      have B := Lib.hid (B.out.trans (hb.mono B.out.size))
      have X := Lib.hid (X.out.below hb)
      have RB := Lib.hid (RB.out.below hb)
      have RF := Lib.hid (RF.out.below hb)
      have TW := Lib.hid (TW.out.below hb)
      have XB := Lib.hid (XB.out.below hb)
      have YB := Lib.hid (YB.out.below hb)
      have TN := Lib.hid (TN.out.below hb)
      have ZB := Lib.hid (ZB.out.below hb)
      have TA := Lib.hid (TA.out.below hb)
      have TL := Lib.hid (TL.out.below hb)
      have TM := Lib.hid (TM.out.below hb)
      have TP := Lib.hid (TP.out.below hb)
      clear hb hown c0 c1 c2 c3 c4 c5 d0 d1 x0 x1
      obtain ⟨c0, c1, c2, c3, c4, c5, d0, d1⟩ := X.out.cells
      go_wp2_with fail
      refine (sam4_yes AP np kP AQ np kQ JP _ TP.out TQ.out).mono ?_
      rintro e wp ⟨rfl, hb⟩
      have B := Lib.hid (B.out.trans (hb.mono B.out.size))
      have X := Lib.hid (X.out.below hb)
      have RB := Lib.hid (RB.out.below hb)
      have RF := Lib.hid (RF.out.below hb)
      have TW := Lib.hid (TW.out.below hb)
      have XB := Lib.hid (XB.out.below hb)
      have YB := Lib.hid (YB.out.below hb)
      have TN := Lib.hid (TN.out.below hb)
      have ZB := Lib.hid (ZB.out.below hb)
      have TA := Lib.hid (TA.out.below hb)
      have TL := Lib.hid (TL.out.below hb)
      have TM := Lib.hid (TM.out.below hb)
      have TP := Lib.hid (TP.out.below hb)
      have TQ := Lib.hid (TQ.out.below hb)
      clear hb c0 c1 c2 c3 c4 c5 d0 d1
      obtain ⟨c0, c1, c2, c3, c4, c5, d0, d1⟩ := X.out.cells
      go_upto_region 23 with fail
      clear c0 c1 c2 c3 c4 c5 d0 d1
      have hcl1 : nl ≤ kL := TL.out.cap
      have hcm1 : nm ≤ kM := TM.out.cap
      have hxl : kL ≤ maxLen := TL.out.max
      have hxm : kM ≤ maxLen := TM.out.max
      unfold maxLen at hxl hxm
      obtain ⟨k3, k4⟩ := K34.out
      have r1 : (n0 : Int) < (nl : Int) := by omega
      have r2 : (n0 : Int) ≤ (nm : Int) := by omega
      have r4 : (n0 : Int) ≤ (kL : Int) := by omega
      have r5 : (n0 : Int) ≤ (kM : Int) := by omega
      have TLF := Lib.hid (TL.out.first (k := n0) (by omega))
      have TMF := Lib.hid (TM.out.first (k := n0) (by omega))
      rw [← K5.out] at TMF
      have Q1 := Lib.hid (fun q => sam4q_no AL nl kL AM nm kM JL JM _ (TL.out.below (below_drewN (Below.refl wp.heap.size wp) q)) (TM.out.below (below_drewN (Below.refl wp.heap.size wp) q)) KNE.out)
      have Q2 := Lib.hid (fun q => sam4q_yes AL n0 kL AM n0 kM (JL.take n0) _ (TLF.out.below (below_drewN (Below.refl wp.heap.size wp) q)) (TMF.out.below (below_drewN (Below.refl wp.heap.size wp) q)))
      clear k3 k4 TL TM TP TQ TN TA TW TLF TMF
      go_quiet ((first | (go_at_call 18; with_reducible exact Calls.quiet_of (Q1.out _)) | (go_at_call 18; with_reducible exact Calls.quiet_of (Q2.out _))))
      have B := Lib.hid (B.out.trans ((below_drewN (Below.refl wp.heap.size wp) nq).mono B.out.size))
      go_wp2
      go_ret
      exact ⟨rfl, B.out⟩
end Go.Proofs.Yteapaoefgcnicaa
