/- Layer 3, BitsAsked: the walk: what a set is asked, the program's answers and the document's. -/
import Derived.Test.YtpkecbejnpkieaaBitsM4
namespace Go.Proofs.Ytpkecbejnpkieaa
open Go.RowKit
set_option linter.unusedVariables false

set_option maxRecDepth 100000 in
set_option maxHeartbeats 3200000 in
theorem walk_BitsAsked (a0 : Int) (a1 : Option Addr) (len1 cap1 : Nat) (z1 : List Int) (a2 : Int) (w : World) (w0 : (Lit.int .i64 a0).wf = true) (w1 : IsRow .u8 w a1 len1 cap1 z1) (w2 : (Lit.int .i64 a2).wf = true) :
    Calls Try.prog 5 #[.int .i64 a0, .slice a1 len1 cap1, .int .i64 a2] w fun e w' => e = .returned (.bool true) ∧ Below w.heap.size w w' := by
  obtain ⟨s, hs, hsw⟩ := w1.arg
  have HSW := Lib.hid (fun z hz => wf_byte (hsw z hz))
  have HS := Lib.hid hs
  clear hs hsw w1 w0 w2
  by_cases g0 : 100 < len1
  · go_enter Try.func5, Try.ntmps5
    go_wp2
    go_ret
    exact ⟨rfl, Below.refl _ _⟩
  obtain ⟨ib, hib, hbz, hb1, hb2⟩ := info_parts byte_info
  have hml : (1000 : Nat) ≤ maxLen := by decide
  go_enter Try.func5, Try.ntmps5
  go_wp2_with (at_builtin; refine wpList_dup_g w rfl (.tmp 27) (.tmp 28) _ rfl 5 ib _ 1 Try.underlying25 hib hbz hb1 hb2 rfl rfl a1 len1 cap1 (ints .u8 s) rfl (by rw [ints_length, HS.out.len]) HS.out.seq (ints_one _ _) (by omega) (by omega) ?_; intro A1 c1 w1 hown1 hbel1; have O1 := Lib.hid hown1; have B1 := Lib.hid hbel1; clear hown1 hbel1)
  have OWN := Lib.hid (Arg.own O1.out)
  have SS := Lib.hid (HS.out.below B1.out)
  clear O1
  have X2 := List_any a0 A1 len1 c1 s w1 OWN.out HSW.out
  have X3 := fun wx hx => rList_any a0 a1 len1 cap1 s wx hx HSW.out
  have X4 := fun wx hx => Count_any a0 A1 len1 c1 s wx hx HSW.out
  have X5 := fun wx hx => rCount_any a0 a1 len1 cap1 s wx hx HSW.out
  have X6 := fun wx hx => Has_any a0 A1 len1 c1 s a2 wx hx HSW.out
  have X7 := fun wx hx => rHas_any a0 a1 len1 cap1 s a2 wx hx HSW.out
  have X8 := fun wx hx => Next_any a0 A1 len1 c1 s a2 wx hx HSW.out
  have X9 := fun wx hx => rNext_any a0 a1 len1 cap1 s a2 wx hx HSW.out
  have hL := listN_length a0 s
  have hLL : (listL a0 s).length = (listN a0 s).length := by unfold listL; rw [List.length_map]
  obtain ⟨L, hLe⟩ : ∃ L, L = listL a0 s := ⟨_, rfl⟩
  obtain ⟨E, hEe⟩ : ∃ E, E = chk a0 s := ⟨_, rfl⟩
  obtain ⟨N, hNe⟩ : ∃ N, N = (listN a0 s).length := ⟨_, rfl⟩
  obtain ⟨F, hFe⟩ : ∃ F, F = trkE a0 s a2 := ⟨_, rfl⟩
  obtain ⟨V, hVe⟩ : ∃ V, V = hasV a0 s a2 := ⟨_, rfl⟩
  obtain ⟨M, hMe⟩ : ∃ M, M = nextV a0 s a2 := ⟨_, rfl⟩
  rw [← hLe] at X2 X3 hLL
  rw [← hEe] at X2 X3 X4 X5
  rw [← hNe] at X4 X5 hL hLL
  rw [← hFe] at X6 X7 X8 X9
  rw [← hVe] at X6 X7
  rw [← hMe] at X8 X9
  have hL16 : L.length ≤ 16 := by omega
  clear hLL hL
  have X2 := Lib.hid X2
  have X3 := Lib.hid X3
  have X4 := Lib.hid X4
  have X5 := Lib.hid X5
  have X6 := Lib.hid X6
  have X7 := Lib.hid X7
  have X8 := Lib.hid X8
  have X9 := Lib.hid X9
  clear hLe hEe hNe hFe hVe hMe hib hbz hb1 hb2 HSW HS
  refine X2.out.mono ?_
  rintro e w2 ⟨A2, c2, rfl, hown, hbel⟩
  have B2 := Lib.hid hbel
  have P2 := Lib.hid (Arg.own hown)
  clear hown hbel X2
  go_wp2_with fail
  refine (X3.out w2 (SS.out.below B2.out)).mono ?_
  rintro e w3 ⟨A3, c3, rfl, hown, hbel⟩
  have B3 := Lib.hid (B2.out.trans (hbel.mono B2.out.size))
  have P2 := Lib.hid (P2.out.below hbel)
  have P3 := Lib.hid (Arg.own hown)
  clear hown hbel X3 B2
  go_wp2_with fail
  refine (X4.out w3 (OWN.out.below B3.out)).mono ?_
  rintro e w4 ⟨rfl, hbel⟩
  have B4 := Lib.hid (B3.out.trans (hbel.mono B3.out.size))
  have P2 := Lib.hid (P2.out.below hbel)
  have P3 := Lib.hid (P3.out.below hbel)
  clear hbel X4 B3
  go_wp2_with fail
  refine (X5.out w4 (SS.out.below B4.out)).mono ?_
  rintro e w5 ⟨rfl, hbel⟩
  have B5 := Lib.hid (B4.out.trans (hbel.mono B4.out.size))
  have P2 := Lib.hid (P2.out.below hbel)
  have P3 := Lib.hid (P3.out.below hbel)
  clear hbel X5 B4
  go_wp2_with fail
  refine (X6.out w5 (OWN.out.below B5.out)).mono ?_
  rintro e w6 ⟨rfl, q1, rfl⟩
  have hbel := below_drewN (Below.refl w5.heap.size w5) q1
  have B6 := Lib.hid (B5.out.trans (hbel.mono B5.out.size))
  have P2 := Lib.hid (P2.out.below hbel)
  have P3 := Lib.hid (P3.out.below hbel)
  obtain ⟨w6, hw6⟩ : ∃ x : World, x = w5.drewN q1 := ⟨_, rfl⟩
  rw [← hw6] at B6 P2 P3 ⊢
  clear hbel X6 B5 hw6
  go_wp2_with fail
  refine (X7.out w6 (SS.out.below B6.out)).mono ?_
  rintro e w7 ⟨rfl, q2, rfl⟩
  have hbel := below_drewN (Below.refl w6.heap.size w6) q2
  have B7 := Lib.hid (B6.out.trans (hbel.mono B6.out.size))
  have P2 := Lib.hid (P2.out.below hbel)
  have P3 := Lib.hid (P3.out.below hbel)
  obtain ⟨w7, hw7⟩ : ∃ x : World, x = w6.drewN q2 := ⟨_, rfl⟩
  rw [← hw7] at B7 P2 P3 ⊢
  clear hbel X7 B6 hw7
  go_wp2_with fail
  refine (X8.out w7 (OWN.out.below B7.out)).mono ?_
  rintro e w8 ⟨rfl, hbel⟩
  have B8 := Lib.hid (B7.out.trans (hbel.mono B7.out.size))
  have P2 := Lib.hid (P2.out.below hbel)
  have P3 := Lib.hid (P3.out.below hbel)
  clear hbel X8 B7
  go_wp2_with fail
  refine (X9.out w8 (SS.out.below B8.out)).mono ?_
  rintro e w9 ⟨rfl, q3, rfl⟩
  have hbel := below_drewN (Below.refl w8.heap.size w8) q3
  have B9 := Lib.hid (B8.out.trans (hbel.mono B8.out.size))
  have P2 := Lib.hid (P2.out.below hbel)
  have P3 := Lib.hid (P3.out.below hbel)
  obtain ⟨w9, hw9⟩ : ∃ x : World, x = w8.drewN q3 := ⟨_, rfl⟩
  rw [← hw9] at B9 P2 P3 ⊢
  clear hbel X9 B8 hw9
  go_wp2_with fail
  refine (same_ints A2 A3 _ c2 c3 L w9 _ P2.out.seq P3.out.seq rfl (by omega)).mono ?_
  rintro e w10 ⟨rfl, q4, rfl⟩
  have B10 := Lib.hid (below_drewN B9.out q4)
  have hst1 := run_str (P := Try.prog) _ 25 9 5 Try.underlying25 Try.underlying5 Try.underlying9 (c := c1) (OWN.out.below B10.out).seq OWN.out.len
  have hst2 := run_str (P := Try.prog) _ 25 9 5 Try.underlying25 Try.underlying5 Try.underlying9 (c := cap1) (SS.out.below B10.out).seq SS.out.len
  go_wp2
  go_ret
  exact ⟨rfl, B1.out.trans (B10.out.mono B1.out.size)⟩

end Go.Proofs.Ytpkecbejnpkieaa
