/- Layer 3, BitsMade: the walk: Check, Of and All, the program's answers and the document's; what is answered is new memory. -/
import Derived.Test.YtpkecbejnpkieaaBitsM4
namespace Go.Proofs.Ytpkecbejnpkieaa
open Go.RowKit
set_option linter.unusedVariables false

set_option maxRecDepth 100000 in
set_option maxHeartbeats 3200000 in
theorem walk_BitsMade (a0 : Int) (a1 : Option Addr) (len1 cap1 : Nat) (z1 : List Int) (a2 : Option Addr) (len2 cap2 : Nat) (z2 : List Int) (w : World) (w0 : (Lit.int .i64 a0).wf = true) (w1 : IsRow .u8 w a1 len1 cap1 z1) (w2 : IsRow .i64 w a2 len2 cap2 z2) :
    Calls Try.prog 4 #[.int .i64 a0, .slice a1 len1 cap1, .slice a2 len2 cap2] w fun e w' => e = .returned (.bool true) ∧ Below w.heap.size w w' := by
  obtain ⟨s, hs, hsw⟩ := w1.arg
  obtain ⟨l, hl, _⟩ := w2.arg
  have HSW := Lib.hid (fun z hz => wf_byte (hsw z hz))
  have HS := Lib.hid hs
  have HL := Lib.hid hl
  clear hs hsw hl w1 w0 w2
  by_cases g0 : 100 < len1
  · go_enter Try.func4, Try.ntmps4
    go_wp2
    go_ret
    exact ⟨rfl, Below.refl _ _⟩
  by_cases g1 : 100 < len2
  · go_enter Try.func4, Try.ntmps4
    go_wp2
    go_ret
    exact ⟨rfl, Below.refl _ _⟩
  obtain ⟨ib, hib, hbz, hb1, hb2⟩ := info_parts byte_info
  obtain ⟨ii, hii, hiz, hi1, hi2⟩ := info_parts int_info
  have hml : (1000 : Nat) ≤ maxLen := by decide
  go_enter Try.func4, Try.ntmps4
  go_wp2_with (first
    | (at_builtin; refine wpList_dup_g w rfl (.tmp 27) (.tmp 28) _ rfl 5 ib _ 1 Try.underlying25 hib hbz hb1 hb2 rfl rfl a1 len1 cap1 (ints .u8 s) rfl (by rw [ints_length, HS.out.len]) HS.out.seq (ints_one _ _) (by omega) (by omega) ?_; intro A1 c1 w1 hown1 hbel1; have O1 := Lib.hid hown1; have B1 := Lib.hid hbel1; clear hown1 hbel1)
    | (at_builtin; refine wpList_dup_g w1 rfl (.tmp 30) (.tmp 31) _ rfl 3 ii _ 8 Try.underlying29 hii hiz hi1 hi2 rfl rfl a2 len2 cap2 (ints .i64 l) rfl (by rw [ints_length, HL.out.len]) (HL.out.below B1.out).seq (ints_one _ _) (by omega) (by omega) ?_; intro A2 c2 w2 hown2 hbel2; have O2 := Lib.hid hown2; have B2 := Lib.hid hbel2; clear hown2 hbel2))
  have B12 := Lib.hid (B1.out.trans (B2.out.mono B1.out.size))
  have OWN := Lib.hid (Arg.own (owns_below O1.out B2.out))
  have MINE := Lib.hid (Arg.own O2.out)
  have SS := Lib.hid (HS.out.below B12.out)
  have LL := Lib.hid (HL.out.below B12.out)
  clear O1 O2 B1 B2 HS HL
  have X3 := Of_any a0 A2 len2 c2 l w2 MINE.out
  have X4 := fun wx hx => rOf_any a0 a2 len2 cap2 l wx hx
  have X5 := fun wx => All_any a0 wx
  have X6 := fun wx => rAll_any a0 wx
  have X7 := fun wx hx => check_any a0 A1 len1 c1 s wx hx HSW.out
  have X8 := fun wx hx => rcheck_any a0 a1 len1 cap1 s wx hx HSW.out
  have hlR := ofB_length a0 l
  obtain ⟨R, hRe⟩ : ∃ R, R = ofB a0 l := ⟨_, rfl⟩
  obtain ⟨E, hEe⟩ : ∃ E, E = ofE a0 l := ⟨_, rfl⟩
  obtain ⟨T, hTe⟩ : ∃ T, T = allB a0 := ⟨_, rfl⟩
  obtain ⟨F, hFe⟩ : ∃ F, F = manyE a0 := ⟨_, rfl⟩
  obtain ⟨C, hCe⟩ : ∃ C, C = chk a0 s := ⟨_, rfl⟩
  rw [← hRe] at X3 X4 hlR
  rw [← hEe] at X3 X4
  rw [← hTe, ← hFe] at X5 X6
  rw [← hCe] at X7 X8
  have X3 := Lib.hid X3
  have X4 := Lib.hid X4
  have X5 := Lib.hid X5
  have X6 := Lib.hid X6
  have X7 := Lib.hid X7
  have X8 := Lib.hid X8
  clear hRe hEe hTe hFe hCe hib hbz hb1 hb2 hii hiz hi1 hi2 HSW
  refine X3.out.mono ?_
  rintro e w3 ⟨A3, c3, rfl, hown, hbel⟩
  have B3 := Lib.hid hbel
  have O3 := Lib.hid hown
  clear hown hbel X3
  go_wp2_with fail
  refine (X4.out w3 (LL.out.below B3.out)).mono ?_
  rintro e w4 ⟨A4, c4, rfl, hown, hbel⟩
  have B4 := Lib.hid (B3.out.trans (hbel.mono B3.out.size))
  have O3 := Lib.hid (owns_below O3.out hbel)
  have P4 := Lib.hid (Arg.own hown)
  clear hown hbel X4 B3
  go_wp2_with fail
  refine (X5.out w4).mono ?_
  rintro e w5 ⟨A5, c5, rfl, hown, hbel⟩
  have B5 := Lib.hid (B4.out.trans (hbel.mono B4.out.size))
  have O3 := Lib.hid (owns_below O3.out hbel)
  have P4 := Lib.hid (P4.out.below hbel)
  have P5 := Lib.hid (Arg.own hown)
  clear hown hbel X5 B4
  go_wp2_with fail
  refine (X6.out w5).mono ?_
  rintro e w6 ⟨A6, c6, rfl, hown, hbel⟩
  have B6 := Lib.hid (B5.out.trans (hbel.mono B5.out.size))
  have O3 := Lib.hid (owns_below O3.out hbel)
  have P4 := Lib.hid (P4.out.below hbel)
  have P5 := Lib.hid (P5.out.below hbel)
  have P6 := Lib.hid (Arg.own hown)
  clear hown hbel X6 B5
  have hst1 := run_str (P := Try.prog) w6 25 9 5 Try.underlying25 Try.underlying5 Try.underlying9 (c := c3) (Arg.own O3.out).seq rfl
  have hst2 := run_str (P := Try.prog) w6 25 9 5 Try.underlying25 Try.underlying5 Try.underlying9 (c := c4) P4.out.seq rfl
  have hst3 := run_str (P := Try.prog) w6 25 9 5 Try.underlying25 Try.underlying5 Try.underlying9 (c := c5) P5.out.seq rfl
  have hst4 := run_str (P := Try.prog) w6 25 9 5 Try.underlying25 Try.underlying5 Try.underlying9 (c := c6) P6.out.seq rfl
  go_wp2_with fail
  refine (X7.out w6 (OWN.out.below B6.out)).mono ?_
  rintro e w7 ⟨rfl, rfl⟩
  go_wp2_with fail
  refine (X8.out w6 (SS.out.below B6.out)).mono ?_
  rintro e w8 ⟨rfl, q, rfl⟩
  have B7 := Lib.hid (below_drewN B6.out q)
  have O3 := Lib.hid (owns_below O3.out (below_drewN (Below.refl w6.heap.size w6) q))
  obtain ⟨w7, hw7⟩ : ∃ x : World, x = w6.drewN q := ⟨_, rfl⟩
  rw [← hw7] at B7 O3 ⊢
  clear hst1 hst2 hst3 hst4 hw7 X7 X8 B6 P4 P5 P6
  go_wp2_with fail
  have hxb := Lib.hid O3.out.lt
  have hz27 := B7.out.size
  go_loopw [18] (fun i wr => ∃ k : Nat, k ≤ R.length ∧ i = .int .i64 k ∧ (∃ xs, wr.ownsRow w2.heap.size 5 1 (.slice A3 R.length c3) R.length xs) ∧ w7.grownBy wr (Value.slice A3 R.length c3).ownBlock) (fun i _ => R.length - (intOf i).toNat)
  case atStart => exact ⟨0, Nat.zero_le _, rfl, ⟨_, O3.out⟩, grownBy_refl _ _⟩
  case round =>
    obtain ⟨k, hk, rfl, ⟨xs, hown⟩, hgr⟩ := hrel
    by_cases hkn : k < R.length
    · obtain ⟨g, v, rfl, hbg, hc, hf, hset⟩ := owns_at hown hkn
      have HSET := Lib.hid hset
      have HGR := Lib.hid hgr
      clear hown hgr hset
      go_wp2
      go_roundw
      case rel => exact ⟨k + 1, by omega, by go_num, ⟨_, HSET.out _⟩, grownBy_trans HGR.out (grownBy_set _ _ _ _)⟩
      case measure => simp [intOf]; omega
    · obtain rfl : k = R.length := by omega
      have B8 := Lib.hid (B7.out.grown hgr hz27 (fun g e => (hxb.out g e).1))
      have hst1 := run_str (P := Try.prog) wr 25 9 5 Try.underlying25 Try.underlying5 Try.underlying9 (c := c1) (OWN.out.below B8.out).seq OWN.out.len
      have hst2 := run_str (P := Try.prog) wr 25 9 5 Try.underlying25 Try.underlying5 Try.underlying9 (c := cap1) (SS.out.below B8.out).seq SS.out.len
      clear hown hgr
      go_wp2_with fail
      refine (same_ints A2 a2 len2 c2 cap2 l wr _ (MINE.out.below B8.out).seq (LL.out.below B8.out).seq LL.out.len (by omega)).mono ?_
      rintro e w9 ⟨rfl, q4, rfl⟩
      clear hst1 hst2
      go_wp2
      go_ret
      exact ⟨rfl, B12.out.trans ((below_drewN B8.out q4).mono B12.out.size)⟩

end Go.Proofs.Ytpkecbejnpkieaa
