/- Layer 3, BitsTurned: the walk: Put, Or and Minus, the program's answers and the document's; what is answered is new memory. -/
import Derived.Test.YtpkecbejnpkieaaBitsM4
namespace Go.Proofs.Ytpkecbejnpkieaa
open Go.RowKit
set_option linter.unusedVariables false

theorem putB_length (n : Int) (s : List Int) (t : Int) (is : Bool) : (putB n s t is).length ≤ 2 := by
  unfold putB
  split
  · rename_i h
    have h1 : n ≤ 16 := by
      by_cases hh : 1 ≤ n ∧ n ≤ 16
      · exact hh.2
      · unfold trkE chk at h
        rw [if_neg hh, if_neg (by decide)] at h
        omega
    rw [(made_isSet _ _).len]; unfold pgs; omega
  · simp
theorem both_length {n : Int} {a b : List Int} (h : bothE n a b = 0) : n ≤ 16 := by
  by_cases hh : 1 ≤ n ∧ n ≤ 16
  · exact hh.2
  · unfold bothE chk at h
    rw [if_neg hh, if_neg (by decide)] at h
    omega
theorem orB_length (n : Int) (a b : List Int) : (orB n a b).length ≤ 2 := by
  unfold orB
  split
  · rename_i h
    have := both_length h
    rw [(made_isSet _ _).len]; unfold pgs; omega
  · simp
theorem minusB_length (n : Int) (a b : List Int) : (minusB n a b).length ≤ 2 := by
  unfold minusB
  split
  · rename_i h
    have := both_length h
    rw [(made_isSet _ _).len]; unfold pgs; omega
  · simp

/-- A row of the call's own stays where an elder one is written over. -/
theorem own_apart {w w' : World} {base n : Nat} {A : Option Addr} {c : Nat} {xs : List Value} {v : Value} (h : w.ownsRow base 5 1 (.slice A n c) n xs) (hg : w.grownBy w' v.ownBlock) (hv : ∀ g, v.ownBlock = some g → g < base) : w'.ownsRow base 5 1 (.slice A n c) n xs := by
  refine World.ownsRow.kept h hg ?_
  rcases hy : (Value.slice A n c).ownBlock with _ | gc
  · exact .inl rfl
  · refine .inr (fun e => ?_)
    have h1 := (h.lt gc hy).1
    have h2 := hv gc e.symm
    omega

set_option maxRecDepth 100000 in
set_option maxHeartbeats 3200000 in
theorem walk_BitsTurned (a0 : Int) (a1 : Option Addr) (len1 cap1 : Nat) (z1 : List Int) (a2 : Option Addr) (len2 cap2 : Nat) (z2 : List Int) (a3 : Int) (a4 : Bool) (w : World) (w0 : (Lit.int .i64 a0).wf = true) (w1 : IsRow .u8 w a1 len1 cap1 z1) (w2 : IsRow .u8 w a2 len2 cap2 z2) (w3 : (Lit.int .i64 a3).wf = true) :
    Calls Try.prog 6 #[.int .i64 a0, .slice a1 len1 cap1, .slice a2 len2 cap2, .int .i64 a3, .bool a4] w fun e w' => e = .returned (.bool true) ∧ Below w.heap.size w w' := by
  obtain ⟨a, ha, haw⟩ := w1.arg
  obtain ⟨b, hb, hbw⟩ := w2.arg
  have HAW := Lib.hid (fun z hz => wf_byte (haw z hz))
  have HBW := Lib.hid (fun z hz => wf_byte (hbw z hz))
  have HA := Lib.hid ha
  have HB := Lib.hid hb
  clear ha hb haw hbw w1 w2 w0 w3
  by_cases g0 : 100 < len1
  · go_enter Try.func6, Try.ntmps6
    go_wp2
    go_ret
    exact ⟨rfl, Below.refl _ _⟩
  by_cases g1 : 100 < len2
  · go_enter Try.func6, Try.ntmps6
    go_wp2
    go_ret
    exact ⟨rfl, Below.refl _ _⟩
  obtain ⟨ib, hib, hbz, hb1, hb2⟩ := info_parts byte_info
  have hml : (1000 : Nat) ≤ maxLen := by decide
  go_enter Try.func6, Try.ntmps6
  go_wp2_with (first
    | (at_builtin; refine wpList_dup_g w rfl (.tmp 37) (.tmp 38) _ rfl 5 ib _ 1 Try.underlying25 hib hbz hb1 hb2 rfl rfl a1 len1 cap1 (ints .u8 a) rfl (by rw [ints_length, HA.out.len]) HA.out.seq (ints_one _ _) (by omega) (by omega) ?_; intro A1 c1 w1 hown1 hbel1; have O1 := Lib.hid hown1; have B1 := Lib.hid hbel1; clear hown1 hbel1)
    | (at_builtin; refine wpList_dup_g w1 rfl (.tmp 40) (.tmp 41) _ rfl 5 ib _ 1 Try.underlying25 hib hbz hb1 hb2 rfl rfl a2 len2 cap2 (ints .u8 b) rfl (by rw [ints_length, HB.out.len]) (HB.out.below B1.out).seq (ints_one _ _) (by omega) (by omega) ?_; intro A2 c2 w2 hown2 hbel2; have O2 := Lib.hid hown2; have B2 := Lib.hid hbel2; clear hown2 hbel2))
  have B12 := Lib.hid (B1.out.trans (B2.out.mono B1.out.size))
  have OWN := Lib.hid (Arg.own (owns_below O1.out B2.out))
  have MINE := Lib.hid (Arg.own O2.out)
  have SA := Lib.hid (HA.out.below B12.out)
  have SB := Lib.hid (HB.out.below B12.out)
  clear O1 O2 B1 B2 HA HB
  have X3 := Put_any a0 A1 len1 c1 a a3 a4 w2 OWN.out HAW.out
  have X4 := fun wx hx => rPut_any a0 a1 len1 cap1 a a3 a4 wx hx HAW.out
  have X5 := fun wx hx hy => Or_any a0 A1 len1 c1 a A2 len2 c2 b wx hx HAW.out hy HBW.out
  have X6 := fun wx hx hy => rOr_any a0 a1 len1 cap1 a a2 len2 cap2 b wx hx HAW.out hy HBW.out
  have X7 := fun wx hx hy => Minus_any a0 A1 len1 c1 a A2 len2 c2 b wx hx HAW.out hy HBW.out
  have X8 := fun wx hx hy => rMinus_any a0 a1 len1 cap1 a a2 len2 cap2 b wx hx HAW.out hy HBW.out
  have hlP := putB_length a0 a a3 a4
  have hlO := orB_length a0 a b
  have hlM := minusB_length a0 a b
  obtain ⟨R, hRe⟩ : ∃ R, R = putB a0 a a3 a4 := ⟨_, rfl⟩
  obtain ⟨E, hEe⟩ : ∃ E, E = trkE a0 a a3 := ⟨_, rfl⟩
  obtain ⟨O, hOe⟩ : ∃ O, O = orB a0 a b := ⟨_, rfl⟩
  obtain ⟨M, hMe⟩ : ∃ M, M = minusB a0 a b := ⟨_, rfl⟩
  obtain ⟨F, hFe⟩ : ∃ F, F = bothE a0 a b := ⟨_, rfl⟩
  rw [← hRe] at X3 X4 hlP
  rw [← hEe] at X3 X4
  rw [← hOe] at X5 X6 hlO
  rw [← hMe] at X7 X8 hlM
  rw [← hFe] at X5 X6 X7 X8
  have X3 := Lib.hid X3
  have X4 := Lib.hid X4
  have X5 := Lib.hid X5
  have X6 := Lib.hid X6
  have X7 := Lib.hid X7
  have X8 := Lib.hid X8
  clear hRe hEe hOe hMe hFe hib hbz hb1 hb2 HAW HBW
  refine X3.out.mono ?_
  rintro e w3 ⟨A3, c3, rfl, hown, hbel⟩
  have B3 := Lib.hid hbel
  have O3 := Lib.hid hown
  clear hown hbel X3
  go_wp2_with fail
  refine (X4.out w3 (SA.out.below B3.out)).mono ?_
  rintro e w4 ⟨A4, c4, rfl, hown, hbel⟩
  have B4 := Lib.hid (B3.out.trans (hbel.mono B3.out.size))
  have O3 := Lib.hid (owns_below O3.out hbel)
  have P4 := Lib.hid (Arg.own hown)
  have L34 := Lib.hid (fun g e => (O3.out.lt g e).2)
  have hz24 := B4.out.size
  clear hown hbel X4 B3
  go_wp2_with fail
  refine (X5.out w4 (OWN.out.below B4.out) (MINE.out.below B4.out)).mono ?_
  rintro e w5 ⟨A5, c5, rfl, hown, hbel⟩
  have B5 := Lib.hid (B4.out.trans (hbel.mono B4.out.size))
  have O3 := Lib.hid (owns_below O3.out hbel)
  have P4 := Lib.hid (P4.out.below hbel)
  have O5 := Lib.hid hown
  have hz45 := hbel.size
  clear hown hbel X5
  go_wp2_with fail
  refine (X6.out w5 (SA.out.below B5.out) (SB.out.below B5.out)).mono ?_
  rintro e w6 ⟨A6, c6, rfl, hown, hbel⟩
  have B6 := Lib.hid (B5.out.trans (hbel.mono B5.out.size))
  have O3 := Lib.hid (owns_below O3.out hbel)
  have P4 := Lib.hid (P4.out.below hbel)
  have O5 := Lib.hid (owns_below O5.out hbel)
  have P6 := Lib.hid (Arg.own hown)
  have hz56 := hbel.size
  clear hown hbel X6
  have L56 := Lib.hid (fun g e => (O5.out.lt g e).2)
  have hz46 : w4.heap.size ≤ w6.heap.size := Nat.le_trans hz45 hz56
  go_wp2_with fail
  refine (X7.out w6 (OWN.out.below B6.out) (MINE.out.below B6.out)).mono ?_
  rintro e w7 ⟨A7, c7, rfl, hown, hbel⟩
  have B7 := Lib.hid (B6.out.trans (hbel.mono B6.out.size))
  have O3 := Lib.hid (owns_below O3.out hbel)
  have P4 := Lib.hid (P4.out.below hbel)
  have O5 := Lib.hid (owns_below O5.out hbel)
  have P6 := Lib.hid (P6.out.below hbel)
  have O7 := Lib.hid hown
  clear hown hbel X7
  go_wp2_with fail
  refine (X8.out w7 (SA.out.below B7.out) (SB.out.below B7.out)).mono ?_
  rintro e w8 ⟨A8, c8, rfl, hown, hbel⟩
  have B8 := Lib.hid (B7.out.trans (hbel.mono B7.out.size))
  have O3 := Lib.hid (owns_below O3.out hbel)
  have P4 := Lib.hid (P4.out.below hbel)
  have O5 := Lib.hid (owns_below O5.out hbel)
  have P6 := Lib.hid (P6.out.below hbel)
  have O7 := Lib.hid (owns_below O7.out hbel)
  have P8 := Lib.hid (Arg.own hown)
  clear hown hbel X8
  have hst1 := run_str (P := Try.prog) w8 25 9 5 Try.underlying25 Try.underlying5 Try.underlying9 (c := c3) (Arg.own O3.out).seq rfl
  have hst2 := run_str (P := Try.prog) w8 25 9 5 Try.underlying25 Try.underlying5 Try.underlying9 (c := c4) P4.out.seq rfl
  have hst3 := run_str (P := Try.prog) w8 25 9 5 Try.underlying25 Try.underlying5 Try.underlying9 (c := c5) (Arg.own O5.out).seq rfl
  have hst4 := run_str (P := Try.prog) w8 25 9 5 Try.underlying25 Try.underlying5 Try.underlying9 (c := c6) P6.out.seq rfl
  have hst5 := run_str (P := Try.prog) w8 25 9 5 Try.underlying25 Try.underlying5 Try.underlying9 (c := c7) (Arg.own O7.out).seq rfl
  have hst6 := run_str (P := Try.prog) w8 25 9 5 Try.underlying25 Try.underlying5 Try.underlying9 (c := c8) P8.out.seq rfl
  have hz28 := B8.out.size
  have hz26 := B6.out.size
  go_wp2_with fail
  clear hst1 hst2 hst3 hst4 hst5 hst6 P4 P6 P8
  go_loopw [26] (fun i wr => ∃ k : Nat, k ≤ R.length ∧ i = .int .i64 k ∧ (∃ xs, wr.ownsRow w2.heap.size 5 1 (.slice A3 R.length c3) R.length xs) ∧ w8.grownBy wr (Value.slice A3 R.length c3).ownBlock) (fun i _ => R.length - (intOf i).toNat)
  case atStart => exact ⟨0, Nat.zero_le _, rfl, ⟨_, O3.out⟩, grownBy_refl _ _⟩
  case round =>
    obtain ⟨k, hk, rfl, ⟨xs, hown⟩, hgr⟩ := hrel
    by_cases hkn : k < R.length
    · obtain ⟨g, v, rfl, hbg, hc, hf, hset⟩ := owns_at hown hkn
      have HSET := Lib.hid hset
      have HGR := Lib.hid hgr
      clear hown hgr hset
      go_wp2
      go_roundw
      case rel => exact ⟨k + 1, by omega, by go_num, ⟨_, HSET.out _⟩, grownBy_trans HGR.out (grownBy_set _ _ _ _)⟩
      case measure => simp [intOf]; omega
    · obtain rfl : k = R.length := by omega
      have B9 := Lib.hid (B8.out.grown hgr hz28 (fun g e => (O3.out.lt g e).1))
      have O5 := Lib.hid (own_apart O5.out hgr (fun g e => L34.out g e))
      have O7 := Lib.hid (own_apart O7.out hgr (fun g e => by have := L34.out g e; omega))
      clear hown hgr
      go_wp2_with fail
      obtain ⟨w9, hw9⟩ : ∃ x : World, x = wr := ⟨_, rfl⟩
      rw [← hw9] at B9 O5 O7
      subst hw9
      have hz29 := B9.out.size
      go_loopw [27] (fun i wr => ∃ k : Nat, k ≤ O.length ∧ i = .int .i64 k ∧ (∃ xs, wr.ownsRow w4.heap.size 5 1 (.slice A5 O.length c5) O.length xs) ∧ w9.grownBy wr (Value.slice A5 O.length c5).ownBlock) (fun i _ => O.length - (intOf i).toNat)
      case atStart => exact ⟨0, Nat.zero_le _, rfl, ⟨_, O5.out⟩, grownBy_refl _ _⟩
      case round =>
        obtain ⟨k, hk, rfl, ⟨xs, hown⟩, hgr⟩ := hrel
        by_cases hkn : k < O.length
        · obtain ⟨g, v, rfl, hbg, hc, hf, hset⟩ := owns_at hown hkn
          have HSET := Lib.hid hset
          have HGR := Lib.hid hgr
          clear hown hgr hset
          go_wp2
          go_roundw
          case rel => exact ⟨k + 1, by omega, by go_num, ⟨_, HSET.out _⟩, grownBy_trans HGR.out (grownBy_set _ _ _ _)⟩
          case measure => simp [intOf]; omega
        · obtain rfl : k = O.length := by omega
          have B10 := Lib.hid (B9.out.grown hgr hz29 (fun g e => by have := (O5.out.lt g e).1; omega))
          have O7 := Lib.hid (own_apart O7.out hgr (fun g e => L56.out g e))
          clear hown hgr
          go_wp2_with fail
          obtain ⟨w10, hw10⟩ : ∃ x : World, x = wr := ⟨_, rfl⟩
          rw [← hw10] at B10 O7
          subst hw10
          have hz210 := B10.out.size
          go_loopw [28] (fun i wr => ∃ k : Nat, k ≤ M.length ∧ i = .int .i64 k ∧ (∃ xs, wr.ownsRow w6.heap.size 5 1 (.slice A7 M.length c7) M.length xs) ∧ w10.grownBy wr (Value.slice A7 M.length c7).ownBlock) (fun i _ => M.length - (intOf i).toNat)
          case atStart => exact ⟨0, Nat.zero_le _, rfl, ⟨_, O7.out⟩, grownBy_refl _ _⟩
          case round =>
            obtain ⟨k, hk, rfl, ⟨xs, hown⟩, hgr⟩ := hrel
            by_cases hkn : k < M.length
            · obtain ⟨g, v, rfl, hbg, hc, hf, hset⟩ := owns_at hown hkn
              have HSET := Lib.hid hset
              have HGR := Lib.hid hgr
              clear hown hgr hset
              go_wp2
              go_roundw
              case rel => exact ⟨k + 1, by omega, by go_num, ⟨_, HSET.out _⟩, grownBy_trans HGR.out (grownBy_set _ _ _ _)⟩
              case measure => simp [intOf]; omega
            · obtain rfl : k = M.length := by omega
              have B11 := Lib.hid (B10.out.grown hgr hz210 (fun g e => by have := (O7.out.lt g e).1; omega))
              have hst1 := run_str (P := Try.prog) wr 25 9 5 Try.underlying25 Try.underlying5 Try.underlying9 (c := c1) (OWN.out.below B11.out).seq OWN.out.len
              have hst2 := run_str (P := Try.prog) wr 25 9 5 Try.underlying25 Try.underlying5 Try.underlying9 (c := cap1) (SA.out.below B11.out).seq SA.out.len
              have hst3 := run_str (P := Try.prog) wr 25 9 5 Try.underlying25 Try.underlying5 Try.underlying9 (c := c2) (MINE.out.below B11.out).seq MINE.out.len
              have hst4 := run_str (P := Try.prog) wr 25 9 5 Try.underlying25 Try.underlying5 Try.underlying9 (c := cap2) (SB.out.below B11.out).seq SB.out.len
              clear hown hgr
              go_wp2
              go_ret
              exact ⟨rfl, B12.out.trans (B11.out.mono B12.out.size)⟩

end Go.Proofs.Ytpkecbejnpkieaa
