/- Layer 2, CrcSeals: the walk: the program's sealed and opened texts are the document's, what is handed in stays, what is answered is new memory. -/
import Derived.Test.YtccmmbknbchmdaaCrcG
import Derived.Test.YtccmmbknbchmdaaCrcT
namespace Go.Proofs.Ytccmmbknbchmdaa
open Go.RowKit Go.OpenShut
set_option linter.unusedVariables false

theorem seB_len {b : List Int} (h : b.length ≤ 4200) : (seB b).length ≤ 4204 := by
  unfold seB
  split
  · simp
  · rw [sealed_length]; omega
theorem opB_len {b : List Int} (h : b.length ≤ 4200) : (opB b).length ≤ 4204 := by
  unfold opB
  split
  · rw [List.length_take]; omega
  · simp

set_option maxRecDepth 100000 in
set_option maxHeartbeats 3200000 in
theorem walk_CrcSeals (a0 : Option Addr) (len0 cap0 : Nat) (z0 : List Int) (w : World) (w0 : IsRow .u8 w a0 len0 cap0 z0) :
    Calls Try.prog 5 #[.slice a0 len0 cap0] w fun e w' => e = .returned (.bool true) ∧ Below w.heap.size w w' := by
  obtain ⟨b, hb, hbw⟩ := w0.arg
  have HBW := Lib.hid (fun z hz => wf_byte (hbw z hz))
  have HB := Lib.hid hb
  clear hb hbw w0
  by_cases g0 : 2000 < len0 ∧ len0 < 4097
  · obtain ⟨g1, g2⟩ := g0
    go_enter Try.func5, Try.ntmps5
    go_wp2
    go_ret
    exact ⟨rfl, Below.refl _ _⟩
  by_cases g3 : 4200 < len0
  · have g4 : 2000 < len0 := by omega
    have g5 : ¬ len0 < 4097 := by omega
    clear g0
    go_enter Try.func5, Try.ntmps5
    go_wp2
    go_ret
    exact ⟨rfl, Below.refl _ _⟩
  have hlen : len0 ≤ 2000 ∨ (2000 < len0 ∧ ¬ len0 < 4097) := by omega
  clear g0
  obtain ⟨i0, hi0, hz0, hz1, hz2⟩ := info_of u8_info
  have hml : (5004 : Nat) ≤ maxLen := by decide
  have HX := Lib.hid (seB_len (b := b) (by have := HB.out.len; omega))
  have HC := Lib.hid (opB_len (b := b) (by have := HB.out.len; omega))
  rcases hlen with hlen | ⟨hlen, hlen2⟩
  all_goals
    go_enter Try.func5, Try.ntmps5
    go_wp2_with (at_builtin; go_must (refine wpList_dup_g w rfl (.tmp 28) (.tmp 29) _ rfl 5 i0 _ 1 Try.underlying22 hi0 hz0 hz1 hz2 rfl rfl a0 len0 cap0 (ints .u8 b) rfl (by rw [ints_length, HB.out.len]) HB.out.seq (ints_one _ _) (by omega) (by omega) ?_); intro A1 c1 w1 hown1 hbel1; have O1 := Lib.hid hown1; have B1 := Lib.hid hbel1; clear hown1 hbel1)
    have OWN := Lib.hid (Arg.own O1.out)
    have HB1 := Lib.hid (HB.out.below B1.out)
    refine (seal_gen A1 len0 c1 b w1 OWN.out HBW.out).mono ?_
    rintro e w4 ⟨A4, c4, rfl, hown, hbel⟩
    have O4 := Lib.hid hown
    have B4 := Lib.hid hbel
    clear hown hbel
    go_wp2_with fail
    refine (rseal_gen a0 len0 cap0 b w4 (HB1.out.below B4.out) HBW.out).mono ?_
    rintro e w5 ⟨A5, c5, rfl, hown, hbel⟩
    have O5 := Lib.hid hown
    have B5 := Lib.hid hbel
    have B15 := Lib.hid (B4.out.trans (B5.out.mono B4.out.size))
    clear hown hbel
    go_wp2_with fail
    refine (open_gen A1 len0 c1 b w5 (OWN.out.below B15.out) HBW.out).mono ?_
    rintro e w6 ⟨A6, c6, rfl, hown, hbel⟩
    have O6 := Lib.hid hown
    have B6 := Lib.hid hbel
    have B16 := Lib.hid (B15.out.trans (B6.out.mono B15.out.size))
    clear hown hbel
    go_wp2_with fail
    refine (ropen_gen a0 len0 cap0 b w6 (HB1.out.below B16.out) HBW.out).mono ?_
    rintro e w7 ⟨A7, c7, rfl, hown, hbel⟩
    have O7 := Lib.hid hown
    have B7 := Lib.hid hbel
    have B17 := Lib.hid (B16.out.trans (B7.out.mono B16.out.size))
    clear hown hbel
    have OX := Lib.hid (owns_below (owns_below (owns_below O4.out B5.out) B6.out) B7.out)
    have OY := Lib.hid (owns_below (owns_below O5.out B6.out) B7.out)
    have OC := Lib.hid (owns_below O6.out B7.out)
    have hst1 := run_str (P := Try.prog) w7 22 9 5 Try.underlying22 Try.underlying5 Try.underlying9 (c := c4) (Arg.own OX.out).seq rfl
    have hst2 := run_str (P := Try.prog) w7 22 9 5 Try.underlying22 Try.underlying5 Try.underlying9 (c := c5) (Arg.own OY.out).seq rfl
    have hst3 := run_str (P := Try.prog) w7 22 9 5 Try.underlying22 Try.underlying5 Try.underlying9 (c := c6) (Arg.own OC.out).seq rfl
    have hst4 := run_str (P := Try.prog) w7 22 9 5 Try.underlying22 Try.underlying5 Try.underlying9 (c := c7) (Arg.own O7.out).seq rfl
    have hlx := HX.out
    have hlc := HC.out
    have hz14 := B4.out.size
    have hz45 := B5.out.size
    have hz17 := B17.out.size
    have hz57 : w5.heap.size ≤ w7.heap.size := Nat.le_trans B6.out.size B7.out.size
    have hxb := Lib.hid O4.out.lt
    go_wp2_with fail
    clear hst1 hst2 hst3 hst4
    go_loopw [13] (fun i wr => ∃ k : Nat, k ≤ (seB b).length ∧ i = .int .i64 k ∧ (∃ zs, wr.ownsRow w1.heap.size 5 1 (.slice A4 (seB b).length c4) (seB b).length (ints .u8 zs)) ∧ w7.grownBy wr (Value.slice A4 (seB b).length c4).ownBlock) (fun i _ => (seB b).length - (intOf i).toNat)
    case atStart => exact ⟨0, Nat.zero_le _, rfl, ⟨_, OX.out⟩, grownBy_refl _ _⟩
    case round =>
      obtain ⟨k, hk, rfl, ⟨zs, hown⟩, hgr⟩ := hrel
      by_cases hkn : k < (seB b).length
      · obtain ⟨g, rfl, hbg, hc, hf, hset⟩ := owns_int_at hown hkn
        have HSET := Lib.hid hset
        have HGR := Lib.hid hgr
        clear hown hgr hset
        go_wp2
        go_roundw
        case rel => exact ⟨k + 1, by omega, by go_num, ⟨_, HSET.out _⟩, grownBy_trans HGR.out (grownBy_set _ _ _ _)⟩
        case measure => simp [intOf]; omega
      · obtain rfl : k = (seB b).length := by omega
        have HGR := Lib.hid hgr
        have B18 := Lib.hid (B17.out.grown hgr hz17 (fun g e => (hxb.out g e).1))
        have hcc : (Value.slice A6 (opB b).length c6).ownBlock = none ∨ (Value.slice A6 (opB b).length c6).ownBlock ≠ (Value.slice A4 (seB b).length c4).ownBlock := by
          rcases hy : (Value.slice A6 (opB b).length c6).ownBlock with _ | gc
          · exact .inl rfl
          · refine .inr (fun e => ?_)
            have h1 := (O6.out.lt gc hy).1
            have h2 := (hxb.out gc e.symm).2
            omega
        have OC8 := Lib.hid (World.ownsRow.kept (w := w7) OC.out hgr hcc)
        have hcb := Lib.hid OC8.out.lt
        clear hown hgr hcc
        go_wp2_with fail
        obtain ⟨w9, hw9⟩ : ∃ x : World, x = wr := ⟨_, rfl⟩
        rw [← hw9] at B18 OC8 hcb
        subst hw9
        have hz18 := B18.out.size
        have hz58 : w5.heap.size ≤ w9.heap.size := Nat.le_trans hz57 HGR.out.size
        go_loopw [14] (fun i wt => ∃ k : Nat, k ≤ (opB b).length ∧ i = .int .i64 k ∧ (∃ zs, wt.ownsRow w5.heap.size 5 1 (.slice A6 (opB b).length c6) (opB b).length (ints .u8 zs)) ∧ w9.grownBy wt (Value.slice A6 (opB b).length c6).ownBlock) (fun i _ => (opB b).length - (intOf i).toNat)
        case atStart => exact ⟨0, Nat.zero_le _, rfl, ⟨_, OC8.out⟩, grownBy_refl _ _⟩
        case round =>
          obtain ⟨k, hk, rfl, ⟨zs, hown⟩, hgr⟩ := hrel
          by_cases hkn : k < (opB b).length
          · obtain ⟨g, rfl, hbg, hc, hf, hset⟩ := owns_int_at hown hkn
            have HSET := Lib.hid hset
            have HG2 := Lib.hid hgr
            clear hown hgr hset
            go_wp2
            go_roundw
            case rel => exact ⟨k + 1, by omega, by go_num, ⟨_, HSET.out _⟩, grownBy_trans HG2.out (grownBy_set _ _ _ _)⟩
            case measure => simp [intOf]; omega
          · obtain rfl : k = (opB b).length := by omega
            have B19 := Lib.hid (B18.out.grown hgr hz18 (fun g e => by have := (hcb.out g e).1; omega))
            have hst1 := run_str (P := Try.prog) _ 22 9 5 Try.underlying22 Try.underlying5 Try.underlying9 (c := c1) (OWN.out.below B19.out).seq HB.out.len
            have hst2 := run_str (P := Try.prog) _ 22 9 5 Try.underlying22 Try.underlying5 Try.underlying9 (c := cap0) (HB1.out.below B19.out).seq HB.out.len
            clear hown hgr
            go_wp2
            go_ret
            exact ⟨rfl, B1.out.trans (B19.out.mono B1.out.size)⟩

end Go.Proofs.Ytccmmbknbchmdaa
