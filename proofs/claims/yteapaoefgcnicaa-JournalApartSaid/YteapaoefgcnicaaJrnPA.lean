/- Layer 10, JournalApart: the walk, given what the program's calls do. -/
import Derived.Test.YteapaoefgcnicaaJrnW
namespace Go.Proofs.Yteapaoefgcnicaa
open Go.RowKit
set_option linter.unusedVariables false

set_option maxRecDepth 100000 in
set_option maxHeartbeats 12800000 in
theorem japart_of (JD : JrnDoes) (AL : ∀ w, Calls Try.prog 14 #[] w fun e w' => e = .returned (.bool true) ∧ Below w.heap.size w w') (g n : Int) (a2 : Option Addr) (len2 cap2 : Nat) (z2 : List Int) (g' n' : Int) (a5 : Option Addr) (len5 cap5 : Nat) (z5 : List Int) (w : World) (hg : isG g) (w2 : IsRow .u8 w a2 len2 cap2 z2) (hg' : isG g') (w5 : IsRow .u8 w a5 len5 cap5 z5) :
    Calls Try.prog 6 #[.int .u64 g, .int .i64 n, .slice a2 len2 cap2, .int .u64 g', .int .i64 n', .slice a5 len5 cap5] w fun e w' => e = .returned (.bool true) ∧ Below w.heap.size w w' := by
  obtain ⟨b, hb, hbw⟩ := w2.arg
  obtain ⟨a, ha, haw⟩ := w5.arg
  have hby : ∀ z ∈ b, isByte z := fun z hz => wf_byte (hbw z hz)
  have hay : ∀ z ∈ a, isByte z := fun z hz => wf_byte (haw z hz)
  have hbl := hb.len
  have hal := ha.len
  have RB := Lib.hid hb
  have RA := Lib.hid ha
  have B := Lib.hid (Below.refl w.heap.size w)
  clear w2 w5 hb hbw ha haw
  by_cases hl1 : 100 < len2
  · have hl2 : (100 : Int) < (len2 : Int) := by omega
    clear hl1 hbl hal hby hay hg hg'
    go_enter Try.func6, Try.ntmps6
    go_wp2_with fail
    refine (AL _).mono ?_
    rintro e w1 ⟨rfl, hb⟩
    have B := Lib.hid (B.out.trans (hb.mono B.out.size))
    have RB := Lib.hid (RB.out.below hb)
    have RA := Lib.hid (RA.out.below hb)
    clear hb
    go_wp2
    go_ret
    exact ⟨rfl, B.out⟩
  have hl2 : ¬ (100 : Int) < (len2 : Int) := by omega
  by_cases hk1 : 100 < len5
  · have hk2 : (100 : Int) < (len5 : Int) := by omega
    clear hl1 hk1 hbl hal hby hay hg hg'
    go_enter Try.func6, Try.ntmps6
    go_wp2_with fail
    refine (AL _).mono ?_
    rintro e w1 ⟨rfl, hb⟩
    have B := Lib.hid (B.out.trans (hb.mono B.out.size))
    have RB := Lib.hid (RB.out.below hb)
    have RA := Lib.hid (RA.out.below hb)
    clear hb
    go_wp2
    go_ret
    exact ⟨rfl, B.out⟩
  have hk2 : ¬ (100 : Int) < (len5 : Int) := by omega
  have T1 := Lib.hid (fun wx (hr : Arg wx .u8 a2 len2 cap2 b) => JD.text g n a2 len2 cap2 b wx hg hr hby (by omega))
  have T2 := Lib.hid (fun wx (hr : Arg wx .u8 a5 len5 cap5 a) => JD.text g' n' a5 len5 cap5 a wx hg' hr hay (by omega))
  unfold TxtOut at T1 T2
  by_cases he1 : jtE n b = 0
  · rw [he1] at T1
    obtain ⟨t, ht⟩ : ∃ t, t = jtB g n b := ⟨_, rfl⟩
    rw [← ht] at T1
    obtain ⟨m1, hm1⟩ : ∃ m, m = t.length := ⟨_, rfl⟩
    rw [← hm1] at T1
    by_cases he2 : jtE n' a = 0
    · rw [he2] at T2
      obtain ⟨u, hu⟩ : ∃ t, t = jtB g' n' a := ⟨_, rfl⟩
      rw [← hu] at T2
      obtain ⟨m2, hm2⟩ : ∃ m, m = u.length := ⟨_, rfl⟩
      rw [← hm2] at T2
      have htT : t = jT g n b := ht.trans (if_pos he1)
      have huT : u = jT g' n' a := hu.trans (if_pos he2)
      have q1 : (1 ≤ b.length ∧ b.length ≤ 20) ∧ (0 ≤ n ∧ n ≤ 255) := by
        unfold jtE at he1
        split at he1
        · split at he1
          · exact ⟨by assumption, by assumption⟩
          · cases he1
        · cases he1
      have q2 : (1 ≤ a.length ∧ a.length ≤ 20) ∧ (0 ≤ n' ∧ n' ≤ 255) := by
        unfold jtE at he2
        split at he2
        · split at he2
          · exact ⟨by assumption, by assumption⟩
          · cases he2
        · cases he2
      have hinj : t = u → g = g' ∧ n = n' ∧ b = a := fun h => jT_inj hg q1.2 q1.1.2 hg' q2.2 q2.1.2 (by rw [← htT, ← huT]; exact h)
      have htb : ∀ z ∈ t, isByte z := by rw [htT]; exact jT_byte g n hby
      have hub : ∀ z ∈ u, isByte z := by rw [huT]; exact jT_byte g' n' hay
      have hsT := strs_eq htb hub
      have hsB := strs_eq hay hby
      have hall : g = g' → n = n' → b = a → t = u := fun h1 h2 h3 => by rw [htT, huT, h1, h2, h3]
      obtain ⟨st, hst⟩ : ∃ s, s = strOfNums t := ⟨_, rfl⟩
      obtain ⟨su, hsu⟩ : ∃ s, s = strOfNums u := ⟨_, rfl⟩
      obtain ⟨sa, hsa⟩ : ∃ s, s = strOfNums a := ⟨_, rfl⟩
      obtain ⟨sb, hsb⟩ : ∃ s, s = strOfNums b := ⟨_, rfl⟩
      rw [← hst, ← hsu] at hsT
      rw [← hsa, ← hsb] at hsB
      have HST := Lib.hid hst
      have HSU := Lib.hid hsu
      have HSA := Lib.hid hsa
      have HSB := Lib.hid hsb
      clear he1 he2 hm1 hm2 ht hu htT huT q1 q2 htb hub hst hsu hsa hsb hby hay hg hg' hbl hal hl1 hk1
      by_cases k1 : g = g'
      · have k1b : (g == g') = true := beq_iff_eq.2 k1
        by_cases k2 : n = n'
        · have k2b : (n == n') = true := beq_iff_eq.2 k2
          by_cases k3 : b = a
          · rw [decide_eq_true (hall k1 k2 k3)] at hsT
            rw [decide_eq_true k3.symm] at hsB
            clear hinj hall k1 k2 k3
            go_enter Try.func6, Try.ntmps6
            go_wp2_with fail
            refine (AL _).mono ?_
            rintro e w1 ⟨rfl, hb⟩
            have B := Lib.hid (B.out.trans (hb.mono B.out.size))
            have RB := Lib.hid (RB.out.below hb)
            have RA := Lib.hid (RA.out.below hb)
            clear hb
            go_wp2_with fail
            refine (T1.out _ RB.out).mono ?_
            rintro e w3 ⟨A3, c3, rfl, h3, hb⟩
            have B := Lib.hid (B.out.trans (hb.mono B.out.size))
            have RB := Lib.hid (RB.out.below hb)
            have RA := Lib.hid (RA.out.below hb)
            have V1 := Lib.hid h3
            clear hb h3 T1
            go_wp2_with fail
            refine (T2.out _ RA.out).mono ?_
            rintro e w4 ⟨A4, c4, rfl, h4, hb⟩
            have B := Lib.hid (B.out.trans (hb.mono B.out.size))
            have es1 := str_arg (V1.out.below hb).arg
            have es2 := str_arg h4.arg
            have es3 := str_arg (RA.out.below hb)
            have es4 := str_arg (RB.out.below hb)
            clear hb h4 T2 V1 RB RA
            rw [← HST.out] at es1
            rw [← HSU.out] at es2
            rw [← HSA.out] at es3
            rw [← HSB.out] at es4
            go_wp2
            go_ret
            exact ⟨rfl, B.out⟩
          · rw [decide_eq_false (fun h => k3 (hinj h).2.2)] at hsT
            rw [decide_eq_false (fun h => k3 h.symm)] at hsB
            clear hinj hall k1 k2 k3
            go_enter Try.func6, Try.ntmps6
            go_wp2_with fail
            refine (AL _).mono ?_
            rintro e w1 ⟨rfl, hb⟩
            have B := Lib.hid (B.out.trans (hb.mono B.out.size))
            have RB := Lib.hid (RB.out.below hb)
            have RA := Lib.hid (RA.out.below hb)
            clear hb
            go_wp2_with fail
            refine (T1.out _ RB.out).mono ?_
            rintro e w3 ⟨A3, c3, rfl, h3, hb⟩
            have B := Lib.hid (B.out.trans (hb.mono B.out.size))
            have RB := Lib.hid (RB.out.below hb)
            have RA := Lib.hid (RA.out.below hb)
            have V1 := Lib.hid h3
            clear hb h3 T1
            go_wp2_with fail
            refine (T2.out _ RA.out).mono ?_
            rintro e w4 ⟨A4, c4, rfl, h4, hb⟩
            have B := Lib.hid (B.out.trans (hb.mono B.out.size))
            have es1 := str_arg (V1.out.below hb).arg
            have es2 := str_arg h4.arg
            have es3 := str_arg (RA.out.below hb)
            have es4 := str_arg (RB.out.below hb)
            clear hb h4 T2 V1 RB RA
            rw [← HST.out] at es1
            rw [← HSU.out] at es2
            rw [← HSA.out] at es3
            rw [← HSB.out] at es4
            go_wp2
            go_ret
            exact ⟨rfl, B.out⟩
        · have k2b : (n == n') = false := beq_eq_false_iff_ne.2 k2
          rw [decide_eq_false (fun h => k2 (hinj h).2.1)] at hsT
          clear hinj hall k1 k2 hsB
          go_enter Try.func6, Try.ntmps6
          go_wp2_with fail
          refine (AL _).mono ?_
          rintro e w1 ⟨rfl, hb⟩
          have B := Lib.hid (B.out.trans (hb.mono B.out.size))
          have RB := Lib.hid (RB.out.below hb)
          have RA := Lib.hid (RA.out.below hb)
          clear hb
          go_wp2_with fail
          refine (T1.out _ RB.out).mono ?_
          rintro e w3 ⟨A3, c3, rfl, h3, hb⟩
          have B := Lib.hid (B.out.trans (hb.mono B.out.size))
          have RB := Lib.hid (RB.out.below hb)
          have RA := Lib.hid (RA.out.below hb)
          have V1 := Lib.hid h3
          clear hb h3 T1
          go_wp2_with fail
          refine (T2.out _ RA.out).mono ?_
          rintro e w4 ⟨A4, c4, rfl, h4, hb⟩
          have B := Lib.hid (B.out.trans (hb.mono B.out.size))
          have es1 := str_arg (V1.out.below hb).arg
          have es2 := str_arg h4.arg
          have es3 := str_arg (RA.out.below hb)
          have es4 := str_arg (RB.out.below hb)
          clear hb h4 T2 V1 RB RA
          rw [← HST.out] at es1
          rw [← HSU.out] at es2
          rw [← HSA.out] at es3
          rw [← HSB.out] at es4
          go_wp2
          go_ret
          exact ⟨rfl, B.out⟩
      · have k1b : (g == g') = false := beq_eq_false_iff_ne.2 k1
        rw [decide_eq_false (fun h => k1 (hinj h).1)] at hsT
        clear hinj hall k1 hsB
        go_enter Try.func6, Try.ntmps6
        go_wp2_with fail
        refine (AL _).mono ?_
        rintro e w1 ⟨rfl, hb⟩
        have B := Lib.hid (B.out.trans (hb.mono B.out.size))
        have RB := Lib.hid (RB.out.below hb)
        have RA := Lib.hid (RA.out.below hb)
        clear hb
        go_wp2_with fail
        refine (T1.out _ RB.out).mono ?_
        rintro e w3 ⟨A3, c3, rfl, h3, hb⟩
        have B := Lib.hid (B.out.trans (hb.mono B.out.size))
        have RB := Lib.hid (RB.out.below hb)
        have RA := Lib.hid (RA.out.below hb)
        have V1 := Lib.hid h3
        clear hb h3 T1
        go_wp2_with fail
        refine (T2.out _ RA.out).mono ?_
        rintro e w4 ⟨A4, c4, rfl, h4, hb⟩
        have B := Lib.hid (B.out.trans (hb.mono B.out.size))
        have es1 := str_arg (V1.out.below hb).arg
        have es2 := str_arg h4.arg
        have es3 := str_arg (RA.out.below hb)
        have es4 := str_arg (RB.out.below hb)
        clear hb h4 T2 V1 RB RA
        rw [← HST.out] at es1
        rw [← HSU.out] at es2
        rw [← HSA.out] at es3
        rw [← HSB.out] at es4
        go_wp2
        go_ret
        exact ⟨rfl, B.out⟩
    · obtain ⟨E2, hE2⟩ : ∃ E, E = jtE n' a := ⟨_, rfl⟩
      obtain ⟨m2, hm2⟩ : ∃ m, m = (jtB g' n' a).length := ⟨_, rfl⟩
      rw [← hE2] at he2 T2
      rw [← hm2] at T2
      have q : (E2 != 0) = true := bne_iff_ne.2 he2
      clear he1 he2 hE2 hm1 hm2 ht hby hay hg hg' hbl hal hl1 hk1
      go_enter Try.func6, Try.ntmps6
      go_wp2_with fail
      refine (AL _).mono ?_
      rintro e w1 ⟨rfl, hb⟩
      have B := Lib.hid (B.out.trans (hb.mono B.out.size))
      have RB := Lib.hid (RB.out.below hb)
      have RA := Lib.hid (RA.out.below hb)
      clear hb
      go_wp2_with fail
      refine (T1.out _ RB.out).mono ?_
      rintro e w3 ⟨A3, c3, rfl, h3, hb⟩
      have B := Lib.hid (B.out.trans (hb.mono B.out.size))
      have RB := Lib.hid (RB.out.below hb)
      have RA := Lib.hid (RA.out.below hb)
      have V1 := Lib.hid h3
      clear hb h3 T1
      go_wp2_with fail
      refine (T2.out _ RA.out).mono ?_
      rintro e w4 ⟨A4, c4, rfl, h4, hb⟩
      have B := Lib.hid (B.out.trans (hb.mono B.out.size))
      clear hb h4 T2 V1 RB RA
      go_wp2
      go_ret
      exact ⟨rfl, B.out⟩
  · obtain ⟨E1, hE1⟩ : ∃ E, E = jtE n b := ⟨_, rfl⟩
    rw [show jtB g n b = [] from if_neg he1] at T1
    rw [← hE1] at he1 T1
    obtain ⟨E2, hE2⟩ : ∃ E, E = jtE n' a := ⟨_, rfl⟩
    obtain ⟨m2, hm2⟩ : ∃ m, m = (jtB g' n' a).length := ⟨_, rfl⟩
    rw [← hE2] at T2
    rw [← hm2] at T2
    have q : (E1 != 0) = true := bne_iff_ne.2 he1
    have q2 : (E1 == 0) = false := beq_eq_false_iff_ne.2 he1
    simp only [List.length_nil] at T1
    clear he1 hE1 hE2 hm2 hby hay hg hg' hbl hal hl1 hk1
    go_enter Try.func6, Try.ntmps6
    go_wp2_with fail
    refine (AL _).mono ?_
    rintro e w1 ⟨rfl, hb⟩
    have B := Lib.hid (B.out.trans (hb.mono B.out.size))
    have RB := Lib.hid (RB.out.below hb)
    have RA := Lib.hid (RA.out.below hb)
    clear hb
    go_wp2_with fail
    refine (T1.out _ RB.out).mono ?_
    rintro e w3 ⟨A3, c3, rfl, h3, hb⟩
    have B := Lib.hid (B.out.trans (hb.mono B.out.size))
    have RB := Lib.hid (RB.out.below hb)
    have RA := Lib.hid (RA.out.below hb)
    have V1 := Lib.hid h3
    clear hb h3 T1
    go_wp2_with fail
    refine (T2.out _ RA.out).mono ?_
    rintro e w4 ⟨A4, c4, rfl, h4, hb⟩
    have B := Lib.hid (B.out.trans (hb.mono B.out.size))
    clear hb h4 T2 V1 RB RA
    go_wp2
    go_ret
    exact ⟨rfl, B.out⟩
end Go.Proofs.Yteapaoefgcnicaa
