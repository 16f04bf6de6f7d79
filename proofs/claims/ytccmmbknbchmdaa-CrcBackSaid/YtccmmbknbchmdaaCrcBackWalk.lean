/- Layer 2, CrcBack: the walk: what was sealed is opened, and what is opened, sealed, is what it was. -/
import Derived.Test.YtccmmbknbchmdaaCrcL
import Derived.Test.YtccmmbknbchmdaaCrcG
namespace Go.Proofs.Ytccmmbknbchmdaa
open Go.RowKit Go.OpenShut
set_option linter.unusedVariables false

theorem seE_small {b : List Int} (h : b.length ≤ 4096) : seE b = 0 := by unfold seE; rw [if_neg (by omega)]
theorem seB_small {b : List Int} (h : b.length ≤ 4096) : seB b = sealed b := by unfold seB; rw [if_neg (by omega)]
theorem back_seB {t : List Int} (hb : ∀ z ∈ t, isByte z) (h : opE t = 0) : seE (opB t) = 0 ∧ seB (opB t) = t := by
  have h1 := opB_length h
  have h2 := opE_zero h
  exact ⟨seE_small (by omega), by rw [seB_small (by omega)]; exact sealed_opB hb h⟩

set_option maxRecDepth 100000 in
set_option maxHeartbeats 1600000 in
theorem walk_CrcBack (a0 : Option Addr) (len0 cap0 : Nat) (z0 : List Int) (a1 : Option Addr) (len1 cap1 : Nat) (z1 : List Int) (w : World) (w0 : IsRow .u8 w a0 len0 cap0 z0) (w1 : IsRow .u8 w a1 len1 cap1 z1) :
    Calls Try.prog 7 #[.slice a0 len0 cap0, .slice a1 len1 cap1] w fun e w' => e = .returned (.bool true) ∧ Below w.heap.size w w' := by
  obtain ⟨a, ha, haw⟩ := w0.arg
  obtain ⟨b, hb, hbw⟩ := w1.arg
  have HAW := Lib.hid (fun z hz => wf_byte (haw z hz))
  have HBW := Lib.hid (fun z hz => wf_byte (hbw z hz))
  have HA := Lib.hid ha
  have HB := Lib.hid hb
  clear ha hb haw hbw w0 w1
  have AL := Lib.hid (alive_any w)
  by_cases g0 : 2000 < len0
  · go_enter Try.func7, Try.ntmps7
    go_wp2_with fail
    refine AL.out.mono ?_
    rintro e w1 ⟨rfl, hb1⟩
    go_wp2
    go_ret
    exact ⟨rfl, hb1⟩
  by_cases g1 : 2000 < len1
  · go_enter Try.func7, Try.ntmps7
    go_wp2_with fail
    refine AL.out.mono ?_
    rintro e w1 ⟨rfl, hb1⟩
    go_wp2
    go_ret
    exact ⟨rfl, hb1⟩
  have hla : a.length ≤ 4096 := by have := HA.out.len; omega
  go_enter Try.func7, Try.ntmps7
  go_wp2_with fail
  refine AL.out.mono ?_
  rintro e w1 ⟨rfl, hb1⟩
  have B1 := Lib.hid hb1
  have hse := seal_gen a0 len0 cap0 a w1 (HA.out.below hb1) HAW.out
  rw [seE_small hla, seB_small hla] at hse
  have SE := Lib.hid hse
  clear hb1 AL hse
  go_wp2_with fail
  refine SE.out.mono ?_
  intro e w2 hout
  obtain ⟨A2, c2, rfl, hown, hbel⟩ := hout.len rfl (show (sealed a).length = len0 + 4 by rw [sealed_length, HA.out.len])
  have O2 := Lib.hid hown
  have B2 := Lib.hid (B1.out.trans (hbel.mono B1.out.size))
  have hop := open_gen A2 _ c2 (sealed a) w2 (Arg.own hown) (sealed_byte HAW.out)
  rw [opE_sealed HAW.out hla, opB_sealed HAW.out hla] at hop
  have OP := Lib.hid hop
  clear hown hbel hout hop SE
  go_wp2_with fail
  refine OP.out.mono ?_
  intro e w3 hout
  obtain ⟨A3, c3, rfl, hown, hbel⟩ := hout.len rfl HA.out.len
  have O3 := Lib.hid hown
  have B3 := Lib.hid (B2.out.trans (hbel.mono B2.out.size))
  have hop := open_gen a1 len1 cap1 b w3 (HB.out.below B3.out) HBW.out
  clear hown hbel hout OP O2
  by_cases hE : opE b = 0
  · have hlb := opB_length hE
    obtain ⟨hs1, hs2⟩ := back_seB HBW.out hE
    rw [hE] at hop
    have OP := Lib.hid hop
    obtain ⟨d, hd⟩ : ∃ d, d = opB b := ⟨_, rfl⟩
    have hdb : ∀ z ∈ d, isByte z := by rw [hd]; exact opB_byte HBW.out
    rw [← hd] at OP hs1 hs2 hlb
    have HDB := Lib.hid hdb
    have HS1 := Lib.hid hs1
    have HS2 := Lib.hid hs2
    clear hop hE hd hdb hs1 hs2 hlb
    go_wp2_with fail
    refine OP.out.mono ?_
    rintro e w4 ⟨A4, c4, rfl, hown, hbel⟩
    have B4 := Lib.hid (B3.out.trans (hbel.mono B3.out.size))
    have O3' := Lib.hid (owns_below O3.out hbel)
    have hse := seal_gen A4 _ c4 d w4 (Arg.own hown) HDB.out
    rw [HS1.out, HS2.out] at hse
    have SE := Lib.hid hse
    clear hown hbel hse OP O3
    go_wp2_with fail
    refine SE.out.mono ?_
    intro e w5 hout
    obtain ⟨A5, c5, rfl, hown, hbel⟩ := hout.len rfl HB.out.len
    have B5 := Lib.hid (B4.out.trans (hbel.mono B4.out.size))
    have hst1 := run_str (P := Try.prog) w5 22 9 5 Try.underlying22 Try.underlying5 Try.underlying9 (c := c3) (Arg.own (owns_below O3'.out hbel)).seq HA.out.len
    have hst2 := run_str (P := Try.prog) w5 22 9 5 Try.underlying22 Try.underlying5 Try.underlying9 (c := cap0) (HA.out.below B5.out).seq HA.out.len
    have hst3 := run_str (P := Try.prog) w5 22 9 5 Try.underlying22 Try.underlying5 Try.underlying9 (c := c5) (Arg.own hown).seq HB.out.len
    have hst4 := run_str (P := Try.prog) w5 22 9 5 Try.underlying22 Try.underlying5 Try.underlying9 (c := cap1) (HB.out.below B5.out).seq HB.out.len
    clear hown hbel hout SE O3'
    go_wp2
    go_ret
    exact ⟨rfl, B5.out⟩
  · rw [opB_not hE] at hop
    have hne : (opE b == 0) = false := beq_eq_false_iff_ne.2 hE
    have hne2 : (opE b != 0) = true := by rw [bne_iff_ne]; exact hE
    obtain ⟨E, hEe⟩ : ∃ E, E = opE b := ⟨_, rfl⟩
    rw [← hEe] at hop hne hne2
    have OP := Lib.hid hop
    clear hop hE hEe
    go_wp2_with fail
    refine OP.out.mono ?_
    rintro e w4 ⟨A4, c4, rfl, hown, hbel⟩
    have B4 := Lib.hid (B3.out.trans (hbel.mono B3.out.size))
    have O3' := Lib.hid (owns_below O3.out hbel)
    have hse := seal_gen A4 _ c4 [] w4 (Arg.own hown) (by simp)
    rw [seE_small (by simp), seB_small (by simp)] at hse
    have SE := Lib.hid hse
    clear hown hbel hse OP O3
    go_wp2_with fail
    refine SE.out.mono ?_
    rintro e w5 ⟨A5, c5, rfl, hown, hbel⟩
    have B5 := Lib.hid (B4.out.trans (hbel.mono B4.out.size))
    have hst1 := run_str (P := Try.prog) w5 22 9 5 Try.underlying22 Try.underlying5 Try.underlying9 (c := c3) (Arg.own (owns_below O3'.out hbel)).seq HA.out.len
    have hst2 := run_str (P := Try.prog) w5 22 9 5 Try.underlying22 Try.underlying5 Try.underlying9 (c := cap0) (HA.out.below B5.out).seq HA.out.len
    clear hown hbel SE O3'
    go_wp2
    go_ret
    exact ⟨rfl, B5.out⟩

end Go.Proofs.Ytccmmbknbchmdaa
