/- Layer 1, NumBack: the walk: what is written is read, what is read is written again. -/
import Derived.Test.YtkmimecakpghhaaNumG
namespace Go.Proofs.Ytkmimecakpghhaa
open Go.RowKit
set_option linter.unusedVariables false

theorem wrB_zero {l s : List Int} (h : wrE l s = 0) : wrB l s = rowTo l s s.length := by simp [wrB, h]
theorem wrB_not {l s : List Int} (h : wrE l s ≠ 0) : wrB l s = [] := by simp [wrB, h]
theorem rdL_zero {b s : List Int} (h : rdE b s = 0) : rdL b s = numsTo b s s.length := by simp [rdL, h]
theorem rdL_not {b s : List Int} (h : rdE b s ≠ 0) : rdL b s = [] := by simp [rdL, h]
theorem back_rdE {l s : List Int} (h : wrE l s = 0) : rdE (wrB l s) s = 0 := by
  have := wrE_zero h
  rw [wrB_zero h]
  simp [rdE, this.1, rowTo_length]
theorem back_rdL {l s : List Int} (h : wrE l s = 0) (hw : ∀ z ∈ l, isWord z) : rdL (wrB l s) s = l := by
  have := wrE_zero h
  rw [rdL_zero (back_rdE h), wrB_zero h]
  exact read_write l s hw this.2.1 this.2.2
theorem back_wrE {b s : List Int} (h : rdE b s = 0) (hb : ∀ z ∈ b, isByte z) : wrE (rdL b s) s = 0 := by
  have := rdE_zero h
  rw [rdL_zero h]
  simp [wrE, this.1, numsTo_length, fits_numsTo b s s.length hb s.length (Nat.le_refl _)]
theorem back_wrB {b s : List Int} (h : rdE b s = 0) (hb : ∀ z ∈ b, isByte z) : wrB (rdL b s) s = b := by
  have := rdE_zero h
  rw [wrB_zero (back_wrE h hb), rdL_zero h]
  exact write_read b s hb this.2.symm

set_option maxHeartbeats 1600000 in
theorem walk_NumBack (a0 : Option Addr) (len0 cap0 : Nat) (z0 : List Int) (a1 : Option Addr) (len1 cap1 : Nat) (z1 : List Int) (a2 : Option Addr) (len2 cap2 : Nat) (z2 : List Int) (w : World) (w0 : IsRow .u64 w a0 len0 cap0 z0) (w1 : IsRow .u8 w a1 len1 cap1 z1) (w2 : IsRow .i64 w a2 len2 cap2 z2) :
    Calls Try.prog 5 #[.slice a0 len0 cap0, .slice a1 len1 cap1, .slice a2 len2 cap2] w fun e w' => e = .returned (.bool true) ∧ Below w.heap.size w w' := by
  obtain ⟨l, hl, hlw⟩ := w0.arg
  obtain ⟨b, hb, hbw⟩ := w1.arg
  obtain ⟨s, hs, _⟩ := w2.arg
  have HLW := Lib.hid (fun z hz => wf_word (hlw z hz))
  have HBW := Lib.hid (fun z hz => wf_byte (hbw z hz))
  have HL := Lib.hid hl
  have HB := Lib.hid hb
  have HS := Lib.hid hs
  clear hl hb hs hlw hbw w0 w1 w2
  have AL := Lib.hid (alive_any w)
  by_cases g0 : 100 < len0
  · go_enter Try.func5, Try.ntmps5
    go_wp2_with fail
    refine AL.out.mono ?_
    rintro e w1 ⟨rfl, hb1⟩
    go_wp2
    go_ret
    exact ⟨rfl, hb1⟩
  by_cases g1 : 100 < len1
  · go_enter Try.func5, Try.ntmps5
    go_wp2_with fail
    refine AL.out.mono ?_
    rintro e w1 ⟨rfl, hb1⟩
    go_wp2
    go_ret
    exact ⟨rfl, hb1⟩
  by_cases g2 : 100 < len2
  · go_enter Try.func5, Try.ntmps5
    go_wp2_with fail
    refine AL.out.mono ?_
    rintro e w1 ⟨rfl, hb1⟩
    go_wp2
    go_ret
    exact ⟨rfl, hb1⟩
  go_enter Try.func5, Try.ntmps5
  go_wp2_with fail
  refine AL.out.mono ?_
  rintro e w1 ⟨rfl, hb1⟩
  have B1 := Lib.hid hb1
  clear hb1 AL
  go_wp2_with fail
  refine (write_gen (HL.out.below B1.out) (HS.out.below B1.out) (by omega) (by omega) HLW.out).mono ?_
  rintro e w2 ⟨A1, c1, rfl, hown, hbel⟩
  have B2 := Lib.hid (B1.out.trans (hbel.mono B1.out.size))
  have X := Lib.hid (Arg.own hown)
  clear hown hbel
  by_cases hE : wrE l s = 0
  · have hR := read_gen X.out (HS.out.below B2.out) (by have := wrB_length l s; omega) (by omega) (wrB_byte l s)
    rw [back_rdE hE, back_rdL hE HLW.out] at hR
    rw [hE]
    have HR := Lib.hid hR
    have HE := Lib.hid hE
    clear hR hE
    go_wp2_with fail
    refine HR.out.mono ?_
    rintro e w3 ⟨A2, c2, rfl, hown, hbel⟩
    have B3 := Lib.hid (B2.out.trans (hbel.mono B2.out.size))
    have HSM := Lib.hid (same_self A2 a0 len0 c2 cap0 l w3 _ ((Arg.own hown).seq) ((HL.out.below B3.out).seq) HL.out.len (by omega))
    rw [HL.out.len]
    clear hown hbel
    go_wp2_with fail
    refine HSM.out.mono ?_
    rintro e w4 ⟨rfl, q, rfl⟩
    have B4 := Lib.hid (below_drewN B3.out q)
    clear HSM
    go_wp2_with fail
    refine (read_gen (HB.out.below B4.out) (HS.out.below B4.out) (by omega) (by omega) HBW.out).mono ?_
    rintro e w5 ⟨A4, c4, rfl, hown, hbel⟩
    have B5 := Lib.hid (B4.out.trans (hbel.mono B4.out.size))
    have Y := Lib.hid (Arg.own hown)
    clear hown hbel
    by_cases hG : rdE b s = 0
    · have hW := write_gen Y.out (HS.out.below B5.out) (by have := (rdL_length b s).1; omega) (by omega) (rdL_word HBW.out)
      rw [back_wrE hG HBW.out, back_wrB hG HBW.out] at hW
      have HW := Lib.hid hW
      rw [hG]
      clear hW hG
      go_wp2_with fail
      refine HW.out.mono ?_
      rintro e w6 ⟨A5, c5, rfl, hown, hbel⟩
      have B6 := Lib.hid (B5.out.trans (hbel.mono B5.out.size))
      have hst1 := run_str (P := Try.prog) w6 22 9 5 Try.underlying22 Try.underlying5 Try.underlying9 (c := c5) (Arg.own hown).seq rfl
      have hst2 := run_str (P := Try.prog) w6 22 9 5 Try.underlying22 Try.underlying5 Try.underlying9 (c := cap1) (HB.out.below B6.out).seq HB.out.len
      clear hown hbel
      go_wp2
      go_ret
      exact ⟨rfl, B6.out⟩
    · have hne : (rdE b s == 0) = false := beq_eq_false_iff_ne.2 hG
      have hne2 : (rdE b s != 0) = true := by rw [bne_iff_ne]; exact hG
      have hl := rdL_not hG
      rw [hl] at Y ⊢
      have hW := write_gen Y.out (HS.out.below B5.out) (by simp) (by omega) (by simp)
      have HW := Lib.hid hW
      obtain ⟨G, hGe⟩ : ∃ G, G = rdE b s := ⟨_, rfl⟩
      rw [← hGe] at hne hne2 ⊢
      clear hW hG hl hGe
      go_wp2_with fail
      refine HW.out.mono ?_
      rintro e w6 ⟨A5, c5, rfl, hown, hbel⟩
      have B6 := Lib.hid (B5.out.trans (hbel.mono B5.out.size))
      clear hown hbel
      go_wp2
      go_ret
      exact ⟨rfl, B6.out⟩
  · have hne : (wrE l s == 0) = false := beq_eq_false_iff_ne.2 hE
    have hne2 : (wrE l s != 0) = true := by rw [bne_iff_ne]; exact hE
    have hl := wrB_not hE
    rw [hl] at X ⊢
    have hR := read_gen X.out (HS.out.below B2.out) (by simp) (by omega) (by simp)
    have HR := Lib.hid hR
    obtain ⟨E, hEe⟩ : ∃ E, E = wrE l s := ⟨_, rfl⟩
    rw [← hEe] at hne hne2 ⊢
    clear hR hE hl hEe
    go_wp2_with fail
    refine HR.out.mono ?_
    rintro e w3 ⟨A2, c2, rfl, hown, hbel⟩
    have B3 := Lib.hid (B2.out.trans (hbel.mono B2.out.size))
    clear hown hbel
    go_wp2_with fail
    refine (read_gen (HB.out.below B3.out) (HS.out.below B3.out) (by omega) (by omega) HBW.out).mono ?_
    rintro e w5 ⟨A4, c4, rfl, hown, hbel⟩
    have B5 := Lib.hid (B3.out.trans (hbel.mono B3.out.size))
    have Y := Lib.hid (Arg.own hown)
    clear hown hbel
    by_cases hG : rdE b s = 0
    · have hW := write_gen Y.out (HS.out.below B5.out) (by have := (rdL_length b s).1; omega) (by omega) (rdL_word HBW.out)
      rw [back_wrE hG HBW.out, back_wrB hG HBW.out] at hW
      have HW := Lib.hid hW
      rw [hG]
      clear hW hG
      go_wp2_with fail
      refine HW.out.mono ?_
      rintro e w6 ⟨A5, c5, rfl, hown, hbel⟩
      have B6 := Lib.hid (B5.out.trans (hbel.mono B5.out.size))
      have hst1 := run_str (P := Try.prog) w6 22 9 5 Try.underlying22 Try.underlying5 Try.underlying9 (c := c5) (Arg.own hown).seq rfl
      have hst2 := run_str (P := Try.prog) w6 22 9 5 Try.underlying22 Try.underlying5 Try.underlying9 (c := cap1) (HB.out.below B6.out).seq HB.out.len
      clear hown hbel
      go_wp2
      go_ret
      exact ⟨rfl, B6.out⟩
    · have hne : (rdE b s == 0) = false := beq_eq_false_iff_ne.2 hG
      have hne2 : (rdE b s != 0) = true := by rw [bne_iff_ne]; exact hG
      have hl := rdL_not hG
      rw [hl] at Y ⊢
      have hW := write_gen Y.out (HS.out.below B5.out) (by simp) (by omega) (by simp)
      have HW := Lib.hid hW
      obtain ⟨G, hGe⟩ : ∃ G, G = rdE b s := ⟨_, rfl⟩
      rw [← hGe] at hne hne2 ⊢
      clear hW hG hl hGe
      go_wp2_with fail
      refine HW.out.mono ?_
      rintro e w6 ⟨A5, c5, rfl, hown, hbel⟩
      have B6 := Lib.hid (B5.out.trans (hbel.mono B5.out.size))
      clear hown hbel
      go_wp2
      go_ret
      exact ⟨rfl, B6.out⟩

end Go.Proofs.Ytkmimecakpghhaa
