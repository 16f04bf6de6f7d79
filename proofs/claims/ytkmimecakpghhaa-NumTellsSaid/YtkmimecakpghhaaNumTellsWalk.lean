/- Layer 1, NumTells: the walk: the program's answers are the document's, what is handed in stays, what is answered is new memory. -/
import Derived.Test.YtkmimecakpghhaaNumG
import Derived.Test.YtkmimecakpghhaaBase2
namespace Go.Proofs.Ytkmimecakpghhaa
open Go.RowKit
set_option linter.unusedVariables false

theorem sizes_info : (Try.prog.info? 3).map (fun i => (i.zero, i.size, i.bytes)) = some (some (.int .i64 0), 1, 8) := by kernel_rfl
theorem owns_lit0 (w : World) (base : Nat) (e : TypeId) (hb : base ≤ w.heap.size) : (w.alloc (.cells #[] e)).ownsRow base e 1 (.slice (some ⟨w.heap.size, 0, none⟩) 0 0) 0 [] :=
  World.ownsRow_lit w #[] 0 hb (by decide) rfl

set_option maxRecDepth 100000 in
set_option maxHeartbeats 1600000 in
theorem walk_NumTells (a0 : Option Addr) (len0 cap0 : Nat) (z0 : List Int) (a1 : Option Addr) (len1 cap1 : Nat) (z1 : List Int) (a2 : Option Addr) (len2 cap2 : Nat) (z2 : List Int) (w : World) (w0 : IsRow .u64 w a0 len0 cap0 z0) (w1 : IsRow .i64 w a1 len1 cap1 z1) (w2 : IsRow .u8 w a2 len2 cap2 z2) :
    Calls Try.prog 4 #[.slice a0 len0 cap0, .slice a1 len1 cap1, .slice a2 len2 cap2] w fun e w' => e = .returned (.bool true) ∧ Below w.heap.size w w' := by
  obtain ⟨l, hl, hlw⟩ := w0.arg
  obtain ⟨s, hs, _⟩ := w1.arg
  obtain ⟨b, hb, hbw⟩ := w2.arg
  have HLW := Lib.hid (fun z hz => wf_word (hlw z hz))
  have HBW := Lib.hid (fun z hz => wf_byte (hbw z hz))
  have HL := Lib.hid hl
  have HB := Lib.hid hb
  have HS := Lib.hid hs
  clear hl hb hs hlw hbw w0 w1 w2
  by_cases g0 : 100 < len0
  · go_enter Try.func4, Try.ntmps4
    go_wp2
    go_ret
    exact ⟨rfl, Below.refl _ _⟩
  by_cases g1 : 100 < len1
  · go_enter Try.func4, Try.ntmps4
    go_wp2
    go_ret
    exact ⟨rfl, Below.refl _ _⟩
  by_cases g2 : 100 < len2
  · go_enter Try.func4, Try.ntmps4
    go_wp2
    go_ret
    exact ⟨rfl, Below.refl _ _⟩
  obtain ⟨iw, hiw, hwz, hw1, hw2⟩ := info_parts rword_info
  obtain ⟨ii, hii, hiz, hi1, hi2⟩ := info_parts sizes_info
  obtain ⟨ib, hib, hbz, hb1, hb2⟩ := info_parts rbyte_info
  have hml : (1000 : Nat) ≤ maxLen := by decide
  go_enter Try.func4, Try.ntmps4
  go_wp2_with (first
    | (at_builtin; refine wpList_dup w rfl (.tmp 38) (.tmp 39) _ rfl 26 iw _ 8 Try.underlying27 hiw hwz hw1 hw2 rfl rfl a0 len0 cap0 (ints .u64 l) rfl (by rw [ints_length, HL.out.len]) HL.out.seq (ints_one _ _) (by omega) (by omega) ?_; intro A1 c1 w1 hown1 hbel1; have O1 := Lib.hid hown1; have B1 := Lib.hid hbel1; clear hown1 hbel1)
    | (at_builtin; refine wpList_dup w1 rfl (.tmp 41) (.tmp 42) _ rfl 3 ii _ 8 Try.underlying28 hii hiz hi1 hi2 rfl rfl a1 len1 cap1 (ints .i64 s) rfl (by rw [ints_length, HS.out.len]) (HS.out.below B1.out).seq (ints_one _ _) (by omega) (by omega) ?_; intro A2 c2 w2 hown2 hbel2; have O2 := Lib.hid hown2; have B2 := Lib.hid hbel2; clear hown2 hbel2)
    | (at_builtin; refine wpList_dup w2 rfl (.tmp 44) (.tmp 45) _ rfl 5 ib _ 1 Try.underlying22 hib hbz hb1 hb2 rfl rfl a2 len2 cap2 (ints .u8 b) rfl (by rw [ints_length, HB.out.len]) ((HB.out.below B1.out).below B2.out).seq (ints_one _ _) (by omega) (by omega) ?_; intro A3 c3 w3 hown3 hbel3; have O3 := Lib.hid hown3; have B3 := Lib.hid hbel3; clear hown3 hbel3))
  have B13 := Lib.hid ((B1.out.trans (B2.out.mono B1.out.size)).trans (B3.out.mono (Nat.le_trans B1.out.size B2.out.size)))
  have OWN := Lib.hid (Arg.own (owns_below (owns_below O1.out B2.out) B3.out))
  have MINE := Lib.hid (Arg.own (owns_below O2.out B3.out))
  have BYTES := Lib.hid (Arg.own O3.out)
  clear O1 O2 O3 B1 B2 B3
  refine (size_gen MINE.out (by omega)).mono ?_
  rintro e w' ⟨rfl, rfl⟩
  go_wp2_with fail
  refine (rsize_gen (HS.out.below B13.out) (by omega)).mono ?_
  rintro e w' ⟨rfl, rfl⟩
  go_wp2_with fail
  refine (write_gen OWN.out MINE.out (by omega) (by omega) HLW.out).mono ?_
  rintro e w4 ⟨A4, c4, rfl, hown, hbel⟩
  have O4 := Lib.hid hown
  have B4 := Lib.hid hbel
  clear hown hbel
  go_wp2_with fail
  refine (rwrite_gen ((HL.out.below B13.out).below B4.out) ((HS.out.below B13.out).below B4.out) (by omega) (by omega) HLW.out).mono ?_
  rintro e w5 ⟨A5, c5, rfl, hown, hbel⟩
  have O5 := Lib.hid hown
  have B5 := Lib.hid hbel
  have B35 := Lib.hid (B4.out.trans (B5.out.mono B4.out.size))
  clear hown hbel
  go_wp2_with fail
  refine (read_gen (BYTES.out.below B35.out) (MINE.out.below B35.out) (by omega) (by omega) HBW.out).mono ?_
  rintro e w6 ⟨A6, c6, rfl, hown, hbel⟩
  have O6 := Lib.hid hown
  have B6 := Lib.hid hbel
  have B36 := Lib.hid (B35.out.trans (B6.out.mono B35.out.size))
  clear hown hbel
  go_wp2_with fail
  refine (rread_gen ((HB.out.below B13.out).below B36.out) ((HS.out.below B13.out).below B36.out) (by omega) (by omega) HBW.out).mono ?_
  rintro e w7 ⟨A7, c7, rfl, hown, hbel⟩
  have O7 := Lib.hid hown
  have B7 := Lib.hid hbel
  have B37 := Lib.hid (B36.out.trans (B7.out.mono B36.out.size))
  clear hown hbel
  have OX := Lib.hid (owns_below (owns_below (owns_below O4.out B5.out) B6.out) B7.out)
  have OY := Lib.hid (owns_below (owns_below O5.out B6.out) B7.out)
  have OC := Lib.hid (owns_below O6.out B7.out)
  have hst1 := run_str (P := Try.prog) w7 22 9 5 Try.underlying22 Try.underlying5 Try.underlying9 (c := c4) (Arg.own OX.out).seq rfl
  have hst2 := run_str (P := Try.prog) w7 22 9 5 Try.underlying22 Try.underlying5 Try.underlying9 (c := c5) (Arg.own OY.out).seq rfl
  go_wp2_with fail
  refine (same_self A6 A7 _ c6 c7 (rdL b s) w7 _ (Arg.own OC.out).seq (Arg.own O7.out).seq rfl (by have := (rdL_length b s).1; omega)).mono ?_
  rintro e w8 ⟨rfl, q, rfl⟩
  clear hst1 hst2
  go_wp2_with fail
  have hlx := wrB_length l s
  have hly := (rdL_length b s).1
  have hz34 := B4.out.size
  have hz45 := B5.out.size
  have hz37 := B37.out.size
  have hz57 : w5.heap.size ≤ w7.heap.size := Nat.le_trans B6.out.size B7.out.size
  have hxb := Lib.hid O4.out.lt
  go_loopw [23] (fun i wr => ∃ k : Nat, k ≤ (wrB l s).length ∧ i = .int .i64 k ∧ (∃ xs, wr.ownsRow w3.heap.size 5 1 (.slice A4 (wrB l s).length c4) (wrB l s).length xs) ∧ (w7.drewN q).grownBy wr (Value.slice A4 (wrB l s).length c4).ownBlock) (fun i _ => (wrB l s).length - (intOf i).toNat)
  case atStart => exact ⟨0, Nat.zero_le _, rfl, ⟨_, OX.out⟩, grownBy_refl _ _⟩
  case round =>
    obtain ⟨k, hk, rfl, ⟨xs, hown⟩, hgr⟩ := hrel
    by_cases hkn : k < (wrB l s).length
    · obtain ⟨g, v, rfl, hbg, hc, hf, hset⟩ := owns_at hown hkn
      have HSET := Lib.hid hset
      have HGR := Lib.hid hgr
      clear hown hgr hset
      go_wp2
      go_roundw
      case rel => exact ⟨k + 1, by omega, by go_num, ⟨_, HSET.out _⟩, grownBy_trans HGR.out (grownBy_set _ _ _ _)⟩
      case measure => simp [intOf]; omega
    · obtain rfl : k = (wrB l s).length := by omega
      have HGR := Lib.hid hgr
      have B38 := Lib.hid ((below_drewN B37.out q).grown hgr hz37 (fun g e => (hxb.out g e).1))
      have hcc : (Value.slice A6 (rdL b s).length c6).ownBlock = none ∨ (Value.slice A6 (rdL b s).length c6).ownBlock ≠ (Value.slice A4 (wrB l s).length c4).ownBlock := by
        rcases hy : (Value.slice A6 (rdL b s).length c6).ownBlock with _ | gc
        · exact .inl rfl
        · refine .inr (fun e => ?_)
          have h1 := (O6.out.lt gc hy).1
          have h2 := (hxb.out gc e.symm).2
          omega
      have OC8 := Lib.hid (World.ownsRow.kept (w := w7.drewN q) OC.out hgr hcc)
      have hcb := Lib.hid OC8.out.lt
      clear hown hgr hcc
      go_wp2_with fail
      obtain ⟨w9, hw9⟩ : ∃ x : World, x = wr := ⟨_, rfl⟩
      rw [← hw9] at B38 OC8 hcb
      subst hw9
      have hz38 := B38.out.size
      go_loopw [24] (fun i wt => ∃ k : Nat, k ≤ (rdL b s).length ∧ i = .int .i64 k ∧ (∃ xs, wt.ownsRow w5.heap.size 26 1 (.slice A6 (rdL b s).length c6) (rdL b s).length xs) ∧ w9.grownBy wt (Value.slice A6 (rdL b s).length c6).ownBlock) (fun i _ => (rdL b s).length - (intOf i).toNat)
      case atStart => exact ⟨0, Nat.zero_le _, rfl, ⟨_, OC8.out⟩, grownBy_refl _ _⟩
      case round =>
        obtain ⟨k, hk, rfl, ⟨xs, hown⟩, hgr⟩ := hrel
        by_cases hkn : k < (rdL b s).length
        · obtain ⟨g, v, rfl, hbg, hc, hf, hset⟩ := owns_at hown hkn
          have HSET := Lib.hid hset
          have HGR := Lib.hid hgr
          clear hown hgr hset
          go_wp2
          go_roundw
          case rel => exact ⟨k + 1, by omega, by go_num, ⟨_, HSET.out _⟩, grownBy_trans HGR.out (grownBy_set _ _ _ _)⟩
          case measure => simp [intOf]; omega
        · obtain rfl : k = (rdL b s).length := by omega
          have B39 := Lib.hid (B38.out.grown hgr hz38 (fun g e => by have := (hcb.out g e).1; omega))
          clear hown hgr
          go_wp2_with fail
          refine (same_self A1 a0 len0 c1 cap0 l _ _ (OWN.out.below B39.out).seq ((HL.out.below B13.out).below B39.out).seq HL.out.len (by omega)).mono ?_
          rintro e w10 ⟨rfl, q2, rfl⟩
          have B310 := Lib.hid (below_drewN B39.out q2)
          go_wp2_with fail
          refine (same_ints A2 a1 len1 c2 cap1 s _ _ (MINE.out.below B310.out).seq ((HS.out.below B13.out).below B310.out).seq HS.out.len (by omega)).mono ?_
          rintro e w11 ⟨rfl, q3, rfl⟩
          have B311 := Lib.hid (below_drewN B310.out q3)
          have hst1 := run_str (P := Try.prog) _ 22 9 5 Try.underlying22 Try.underlying5 Try.underlying9 (c := c3) (BYTES.out.below B311.out).seq HB.out.len
          have hst2 := run_str (P := Try.prog) _ 22 9 5 Try.underlying22 Try.underlying5 Try.underlying9 (c := cap2) ((HB.out.below B13.out).below B311.out).seq HB.out.len
          simp only [World.drewN_drewN] at hst1 hst2
          go_wp2
          go_ret
          have hfin := B13.out.trans (B311.out.mono B13.out.size)
          simp only [World.drewN_drewN] at hfin
          exact ⟨rfl, hfin⟩

end Go.Proofs.Ytkmimecakpghhaa
