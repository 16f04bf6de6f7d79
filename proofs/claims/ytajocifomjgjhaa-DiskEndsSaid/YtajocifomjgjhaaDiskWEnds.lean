/- Layer 5, DiskEnds: the walk: a flush, a crash, a new disk, whether two are the same: the program's answers and the document's; what is answered is new memory. -/
import Derived.Test.YtajocifomjgjhaaDiskNew
import Derived.Deep.RegionHeld3
namespace Go.Proofs.Ytajocifomjgjhaa
open Go.RowKit
set_option linter.unusedVariables false

set_option maxRecDepth 100000 in
set_option maxHeartbeats 12800000 in
theorem ends_of (P : DskDoes) (a0 : Option Addr) (len0 cap0 : Nat) (b0 : Option Addr) (len1 cap1 : Nat) (S : List Sec) (C : List Pnd) (a1 : Option Addr) (len2 cap2 : Nat) (b1 : Option Addr) (len3 cap3 : Nat) (T : List Sec) (D0 : List Pnd) (a2 : Option Addr) (len4 cap4 : Nat) (z2 : List Int) (m : Int) (w : World) (w0 : Dsk w a0 len0 cap0 b0 len1 cap1 S C) (w1a : Dsk w a1 len2 cap2 b1 len3 cap3 T D0) (w2 : IsRow .u8 w a2 len4 cap4 z2) :
    Calls Try.prog 5 #[diskV a0 len0 cap0 b0 len1 cap1, diskV a1 len2 cap2 b1 len3 cap3, .slice a2 len4 cap4, .int .i64 m] w fun e w' => e = .returned (.bool true) ∧ Below w.heap.size w w' := by
  have PP := Lib.hid P
  obtain ⟨b, hb, hbw⟩ := w2.arg
  have hby : ∀ z ∈ b, isByte z := fun z hz => wf_byte (hbw z hz)
  have BY8 := Lib.hid hby
  have hb1 : Below w.heap.size w (w.alloc (.cells #[.slice a0 len0 cap0, .slice b0 len1 cap1] 25)) := (Below.refl _ _).alloc (Nat.le_refl _) _
  have hbel : Below w.heap.size w ((w.alloc (.cells #[.slice a0 len0 cap0, .slice b0 len1 cap1] 25)).alloc (.cells #[.slice a1 len2 cap2, .slice b1 len3 cap3] 25)) := hb1.alloc hb1.size _
  have xq : DBox ((w.alloc (.cells #[.slice a0 len0 cap0, .slice b0 len1 cap1] 25)).alloc (.cells #[.slice a1 len2 cap2, .slice b1 len3 cap3] 25)) w.heap.size a0 len0 cap0 b0 len1 cap1 S C := (DBox.new w0).below ((Below.refl _ _).alloc (Nat.le_refl _) _)
  have xp : DBox ((w.alloc (.cells #[.slice a0 len0 cap0, .slice b0 len1 cap1] 25)).alloc (.cells #[.slice a1 len2 cap2, .slice b1 len3 cap3] 25)) (w.heap.size + 1) a1 len2 cap2 b1 len3 cap3 T D0 := by have := DBox.new (w1a.below hb1); rwa [World.size_alloc] at this
  have G1 := great_any a0 len0 cap0 b0 len1 cap1 S C 60 _ (w0.below hbel)
  have HW1 := Lib.hid w1a
  have RB := Lib.hid (hb.below hbel)
  have B2 := Lib.hid hbel
  obtain ⟨c0, c1⟩ := xq.cells
  obtain ⟨c2, c3⟩ := xp.cells
  have XQ := Lib.hid xq
  have XP := Lib.hid xp
  have hbl := hb.len
  have hbc := Nat.le_trans hb.cap hb.max
  unfold maxLen at hbc
  clear P w0 w1a w2 hb hbw hby hbel hb1 xq xp
  cases hg1 : greatD S C 60 with
  | true =>
    rw [hg1] at G1
    have G1 := Lib.hid G1
    clear hg1 hbl
    go_enter Try.func5, Try.ntmps5
    go_wp2_with fail
    refine G1.out.mono ?_
    rintro e w3 ⟨rfl, hb3⟩
    have B3 := Lib.hid (B2.out.trans (hb3.mono B2.out.size))
    clear hb3
    go_wp2
    go_ret
    exact ⟨rfl, B3.out⟩
  | false =>
    rw [hg1] at G1
    have G1 := Lib.hid G1
    have SZ := Lib.hid (small_ofD (by decide) (by decide) hg1)
    clear hg1
    have gg := fun w hx => great_any a1 len2 cap2 b1 len3 cap3 T D0 60 w hx
    cases hg2 : greatD T D0 60 with
    | true =>
      rw [hg2] at gg
      have GG := Lib.hid gg
      clear gg hg2 hbl
      go_enter Try.func5, Try.ntmps5
      go_wp2_with fail
      refine G1.out.mono ?_
      rintro e w3 ⟨rfl, hb3⟩
      have B3 := Lib.hid (B2.out.trans (hb3.mono B2.out.size))
      have XQ := Lib.hid (XQ.out.below hb3)
      have XP := Lib.hid (XP.out.below hb3)
      have RB := Lib.hid (RB.out.below hb3)
      clear hb3 c0 c1 c2 c3
      obtain ⟨c2, c3⟩ := XP.out.cells
      have G2 := Lib.hid (GG.out w3 (HW1.out.below B3.out))
      go_wp2_with fail
      refine G2.out.mono ?_
      rintro e w4 ⟨rfl, hb4⟩
      have B4 := Lib.hid (B3.out.trans (hb4.mono B3.out.size))
      have XQ := Lib.hid (XQ.out.below hb4)
      have XP := Lib.hid (XP.out.below hb4)
      have RB := Lib.hid (RB.out.below hb4)
      clear hb4 c2 c3 G2
      go_wp2
      go_ret
      exact ⟨rfl, B4.out⟩
    | false =>
      rw [hg2] at gg
      have GG := Lib.hid gg
      have SY := Lib.hid (small_ofD (by decide) (by decide) hg2)
      clear gg hg2
      by_cases hl1 : 200 < len4
      · have hl2 : (200 : Int) < (len4 : Int) := by omega
        clear hbl hl1
        go_enter Try.func5, Try.ntmps5
        go_wp2_with fail
        refine G1.out.mono ?_
        rintro e w3 ⟨rfl, hb3⟩
        have B3 := Lib.hid (B2.out.trans (hb3.mono B2.out.size))
        have XQ := Lib.hid (XQ.out.below hb3)
        have XP := Lib.hid (XP.out.below hb3)
        have RB := Lib.hid (RB.out.below hb3)
        clear hb3 c0 c1 c2 c3
        obtain ⟨c2, c3⟩ := XP.out.cells
        have G2 := Lib.hid (GG.out w3 (HW1.out.below B3.out))
        go_wp2_with fail
        refine G2.out.mono ?_
        rintro e w4 ⟨rfl, hb4⟩
        have B4 := Lib.hid (B3.out.trans (hb4.mono B3.out.size))
        have XQ := Lib.hid (XQ.out.below hb4)
        have XP := Lib.hid (XP.out.below hb4)
        have RB := Lib.hid (RB.out.below hb4)
        clear hb4 c2 c3 G2
        go_wp2
        go_ret
        exact ⟨rfl, B4.out⟩
      have hl2 : ¬ (200 : Int) < (len4 : Int) := by omega
      by_cases hm : 100 < m ∧ m ≤ 1024
      · have hm1 : 100 < m := hm.1
        have hm2 : m ≤ 1024 := hm.2
        clear hbl hl1 hm
        go_enter Try.func5, Try.ntmps5
        go_wp2_with fail
        refine G1.out.mono ?_
        rintro e w3 ⟨rfl, hb3⟩
        have B3 := Lib.hid (B2.out.trans (hb3.mono B2.out.size))
        have XQ := Lib.hid (XQ.out.below hb3)
        have XP := Lib.hid (XP.out.below hb3)
        have RB := Lib.hid (RB.out.below hb3)
        clear hb3 c0 c1 c2 c3
        obtain ⟨c2, c3⟩ := XP.out.cells
        have G2 := Lib.hid (GG.out w3 (HW1.out.below B3.out))
        go_wp2_with fail
        refine G2.out.mono ?_
        rintro e w4 ⟨rfl, hb4⟩
        have B4 := Lib.hid (B3.out.trans (hb4.mono B3.out.size))
        have XQ := Lib.hid (XQ.out.below hb4)
        have XP := Lib.hid (XP.out.below hb4)
        have RB := Lib.hid (RB.out.below hb4)
        clear hb4 c2 c3 G2
        go_wp2
        go_ret
        exact ⟨rfl, B4.out⟩
      have hmm : m ≤ 100 ∨ 1024 < m := by omega
      obtain ⟨I1, E1, hu, hru, hsu⟩ := ends_flush PP.out SZ.out
      obtain ⟨I2, E2, ho, hro, hso⟩ := ends_crash PP.out SZ.out BY8.out (by rw [hbl]; omega)
      obtain ⟨I3, E3, hn, hrn⟩ := ends_new PP.out hmm
      obtain ⟨V, hps, hrs⟩ := ends_same PP.out SZ.out SY.out
      have HU := Lib.hid hu
      have HRU := Lib.hid hru
      have HSU := Lib.hid hsu
      have HO := Lib.hid ho
      have HRO := Lib.hid hro
      have HSO := Lib.hid hso
      have HN := Lib.hid hn
      have HRN := Lib.hid hrn
      have HPS := Lib.hid hps
      have HRS := Lib.hid hrs
      have HBL := Lib.hid hbl
      have HMM := Lib.hid hmm
      clear hu hru hsu ho hro hso hn hrn hps hrs hbl hl1 hbc hmm hm
      by_cases hm1 : 100 < m
      · have hm2 : 1024 < m := by have := HMM.out; omega
        go_enter Try.func5, Try.ntmps5
        go_wp2_with fail
        refine G1.out.mono ?_
        rintro e w3 ⟨rfl, hb3⟩
        have B3 := Lib.hid (B2.out.trans (hb3.mono B2.out.size))
        have XQ := Lib.hid (XQ.out.below hb3)
        have XP := Lib.hid (XP.out.below hb3)
        have RB := Lib.hid (RB.out.below hb3)
        clear hb3 c0 c1 c2 c3
        obtain ⟨c2, c3⟩ := XP.out.cells
        have G2 := Lib.hid (GG.out w3 (HW1.out.below B3.out))
        go_wp2_with fail
        refine G2.out.mono ?_
        rintro e w4 ⟨rfl, hb4⟩
        have B4 := Lib.hid (B3.out.trans (hb4.mono B3.out.size))
        have XQ := Lib.hid (XQ.out.below hb4)
        have XP := Lib.hid (XP.out.below hb4)
        have RB := Lib.hid (RB.out.below hb4)
        clear hb4 c2 c3 G2
        obtain ⟨c0, c1⟩ := XQ.out.cells
        have D := Lib.hid (Below.refl w4.heap.size w4)
        go_wp2_with fail
        have N := Lib.hid (twin_any a0 len0 cap0 b0 len1 cap1 S C w4 XQ.out.dsk SZ.out)
        clear c0 c1
        refine N.out.mono ?_
        rintro e w7 ⟨AO, cO, BO', dO, rfl, hown, hbn⟩
        have hb2 : Below w4.heap.size w4 (w7.alloc (.cells #[.slice AO len0 cO, .slice BO' len1 dO] 25)) := hbn.alloc hbn.size _
        have hb3 : Below w7.heap.size w7 (w7.alloc (.cells #[.slice AO len0 cO, .slice BO' len1 dO] 25)) := (Below.refl _ _).alloc (Nat.le_refl _) _
        have XQ := XQ.out.below hb2
        have XP := XP.out.below hb2
        have RB := RB.out.below hb2
        have XO := DBox.new (Dsk.of_own hown)
        have OO := (hown.below hb3).lower D.out.size
        have D := D.out.trans (hb2.mono D.out.size)
        have XQ := Lib.hid XQ
        have XP := Lib.hid XP
        have RB := Lib.hid RB
        have XO := Lib.hid XO
        have OO := Lib.hid OO
        have D := Lib.hid D
        obtain ⟨c0, c1⟩ := XO.out.cells
        clear hown hbn hb2 hb3 N
        go_wp2_with fail
        obtain ⟨BO, hB⟩ : ∃ x, x = w7.heap.size := ⟨_, rfl⟩
        rw [← hB] at XO c0 c1 ⊢
        obtain ⟨w8, hW⟩ : ∃ x : World, x = (w7.alloc (.cells #[.slice AO len0 cO, .slice BO' len1 dO] 25)) := ⟨_, rfl⟩
        rw [← hW] at XQ XP RB XO OO D  c0 c1 ⊢
        clear hB hW
        have B6 := Lib.hid (B4.out.trans (D.out.mono B4.out.size))
        have D := Lib.hid (Below.refl w8.heap.size w8)
        have XQ6 := Lib.hid XQ.out
        have XO6 := Lib.hid XO.out
        have N := Lib.hid (HU.out AO len0 cO BO' len1 dO w8 XO.out.dsk)
        clear c0 c1
        refine N.out.mono ?_
        rintro e w9 ⟨AF, cF, AF', dF, rfl, hown, hbn⟩
        simp only [List.length_nil] at hown
        have hb2 : Below w8.heap.size w8 (w9.alloc (.cells #[.slice AF I1.length cF, .slice AF' 0 dF] 25)) := hbn.alloc hbn.size _
        have hb3 : Below w9.heap.size w9 (w9.alloc (.cells #[.slice AF I1.length cF, .slice AF' 0 dF] 25)) := (Below.refl _ _).alloc (Nat.le_refl _) _
        have XQ := XQ.out.below hb2
        have XP := XP.out.below hb2
        have RB := RB.out.below hb2
        have XO := XO.out.below hb2
        have OO := OO.out.below hb2
        have XF := DBox.new (Dsk.of_own hown)
        have OF := (hown.below hb3).lower D.out.size
        have D := D.out.trans (hb2.mono D.out.size)
        have XQ := Lib.hid XQ
        have XP := Lib.hid XP
        have RB := Lib.hid RB
        have XO := Lib.hid XO
        have OO := Lib.hid OO
        have XF := Lib.hid XF
        have OF := Lib.hid OF
        have D := Lib.hid D
        obtain ⟨c0, c1⟩ := XQ.out.cells
        clear hown hbn hb2 hb3 N
        go_wp2_with fail
        obtain ⟨BF, hB⟩ : ∃ x, x = w9.heap.size := ⟨_, rfl⟩
        rw [← hB] at XF ⊢
        obtain ⟨w10, hW⟩ : ∃ x : World, x = (w9.alloc (.cells #[.slice AF I1.length cF, .slice AF' 0 dF] 25)) := ⟨_, rfl⟩
        rw [← hW] at XQ XP RB XO OO XF OF D  c0 c1 ⊢
        clear hB hW
        have N := Lib.hid (HRU.out a0 len0 cap0 b0 len1 cap1 w10 XQ.out.dsk)
        clear c0 c1
        refine N.out.mono ?_
        rintro e w11 ⟨AG, cG, AG', dG, rfl, hown, hbn⟩
        simp only [List.length_nil] at hown
        have hb2 : Below w10.heap.size w10 (w11.alloc (.cells #[.slice AG I1.length cG, .slice AG' 0 dG] 25)) := hbn.alloc hbn.size _
        have hb3 : Below w11.heap.size w11 (w11.alloc (.cells #[.slice AG I1.length cG, .slice AG' 0 dG] 25)) := (Below.refl _ _).alloc (Nat.le_refl _) _
        have XQ := XQ.out.below hb2
        have XP := XP.out.below hb2
        have RB := RB.out.below hb2
        have XO := XO.out.below hb2
        have OO := OO.out.below hb2
        have XF := XF.out.below hb2
        have OF := OF.out.below hb2
        have XG := DBox.new (Dsk.of_own hown)
        have OG := (hown.below hb3).lower D.out.size
        have D := D.out.trans (hb2.mono D.out.size)
        have XQ := Lib.hid XQ
        have XP := Lib.hid XP
        have RB := Lib.hid RB
        have XO := Lib.hid XO
        have OO := Lib.hid OO
        have XF := Lib.hid XF
        have OF := Lib.hid OF
        have XG := Lib.hid XG
        have OG := Lib.hid OG
        have D := Lib.hid D
        obtain ⟨c0, c1⟩ := XO.out.cells
        clear hown hbn hb2 hb3 N
        go_wp2_with fail
        obtain ⟨BG, hB⟩ : ∃ x, x = w11.heap.size := ⟨_, rfl⟩
        rw [← hB] at XG ⊢
        obtain ⟨w12, hW⟩ : ∃ x : World, x = (w11.alloc (.cells #[.slice AG I1.length cG, .slice AG' 0 dG] 25)) := ⟨_, rfl⟩
        rw [← hW] at XQ XP RB XO OO XF OF XG OG D  c0 c1 ⊢
        clear hB hW
        have N := Lib.hid (HO.out AO len0 cO BO' len1 dO a2 len4 cap4 w12 XO.out.dsk RB.out)
        clear c0 c1
        refine N.out.mono ?_
        rintro e w13 ⟨AC, cC, AC', dC, rfl, hown, hbn⟩
        simp only [List.length_nil] at hown
        have hb2 : Below w12.heap.size w12 (w13.alloc (.cells #[.slice AC I2.length cC, .slice AC' 0 dC] 25)) := hbn.alloc hbn.size _
        have hb3 : Below w13.heap.size w13 (w13.alloc (.cells #[.slice AC I2.length cC, .slice AC' 0 dC] 25)) := (Below.refl _ _).alloc (Nat.le_refl _) _
        have XQ := XQ.out.below hb2
        have XP := XP.out.below hb2
        have RB := RB.out.below hb2
        have XO := XO.out.below hb2
        have OO := OO.out.below hb2
        have XF := XF.out.below hb2
        have OF := OF.out.below hb2
        have XG := XG.out.below hb2
        have OG := OG.out.below hb2
        have XC := DBox.new (Dsk.of_own hown)
        have OC := (hown.below hb3).lower D.out.size
        have D := D.out.trans (hb2.mono D.out.size)
        have XQ := Lib.hid XQ
        have XP := Lib.hid XP
        have RB := Lib.hid RB
        have XO := Lib.hid XO
        have OO := Lib.hid OO
        have XF := Lib.hid XF
        have OF := Lib.hid OF
        have XG := Lib.hid XG
        have OG := Lib.hid OG
        have XC := Lib.hid XC
        have OC := Lib.hid OC
        have D := Lib.hid D
        obtain ⟨c0, c1⟩ := XQ.out.cells
        clear hown hbn hb2 hb3 N
        go_wp2_with fail
        obtain ⟨BC, hB⟩ : ∃ x, x = w13.heap.size := ⟨_, rfl⟩
        rw [← hB] at XC ⊢
        obtain ⟨w14, hW⟩ : ∃ x : World, x = (w13.alloc (.cells #[.slice AC I2.length cC, .slice AC' 0 dC] 25)) := ⟨_, rfl⟩
        rw [← hW] at XQ XP RB XO OO XF OF XG OG XC OC D  c0 c1 ⊢
        clear hB hW
        have N := Lib.hid (HRO.out a0 len0 cap0 b0 len1 cap1 a2 len4 cap4 w14 XQ.out.dsk RB.out)
        clear c0 c1
        refine N.out.mono ?_
        rintro e w15 ⟨AE, cE, AE', dE, rfl, hown, hbn⟩
        simp only [List.length_nil] at hown
        have hb2 : Below w14.heap.size w14 (w15.alloc (.cells #[.slice AE I2.length cE, .slice AE' 0 dE] 25)) := hbn.alloc hbn.size _
        have hb3 : Below w15.heap.size w15 (w15.alloc (.cells #[.slice AE I2.length cE, .slice AE' 0 dE] 25)) := (Below.refl _ _).alloc (Nat.le_refl _) _
        have XQ := XQ.out.below hb2
        have XP := XP.out.below hb2
        have RB := RB.out.below hb2
        have XO := XO.out.below hb2
        have OO := OO.out.below hb2
        have XF := XF.out.below hb2
        have OF := OF.out.below hb2
        have XG := XG.out.below hb2
        have OG := OG.out.below hb2
        have XC := XC.out.below hb2
        have OC := OC.out.below hb2
        have XE := DBox.new (Dsk.of_own hown)
        have OE := (hown.below hb3).lower D.out.size
        have D := D.out.trans (hb2.mono D.out.size)
        have XQ := Lib.hid XQ
        have XP := Lib.hid XP
        have RB := Lib.hid RB
        have XO := Lib.hid XO
        have OO := Lib.hid OO
        have XF := Lib.hid XF
        have OF := Lib.hid OF
        have XG := Lib.hid XG
        have OG := Lib.hid OG
        have XC := Lib.hid XC
        have OC := Lib.hid OC
        have XE := Lib.hid XE
        have OE := Lib.hid OE
        have D := Lib.hid D
        obtain ⟨c0, c1⟩ := XO.out.cells
        clear hown hbn hb2 hb3 N
        go_wp2_with fail
        obtain ⟨BE, hB⟩ : ∃ x, x = w15.heap.size := ⟨_, rfl⟩
        rw [← hB] at XE ⊢
        obtain ⟨w16, hW⟩ : ∃ x : World, x = (w15.alloc (.cells #[.slice AE I2.length cE, .slice AE' 0 dE] 25)) := ⟨_, rfl⟩
        rw [← hW] at XQ XP RB XO OO XF OF XG OG XC OC XE OE D  c0 c1 ⊢
        clear hB hW
        have N := Lib.hid (HN.out w16)
        clear c0 c1
        refine N.out.mono ?_
        rintro e w17 ⟨AN, cN, AN', dN, rfl, hown, hbn⟩
        simp only [List.length_nil] at hown
        have hb2 : Below w16.heap.size w16 (w17.alloc (.cells #[.slice AN I3.length cN, .slice AN' 0 dN] 25)) := hbn.alloc hbn.size _
        have hb3 : Below w17.heap.size w17 (w17.alloc (.cells #[.slice AN I3.length cN, .slice AN' 0 dN] 25)) := (Below.refl _ _).alloc (Nat.le_refl _) _
        have XQ := XQ.out.below hb2
        have XP := XP.out.below hb2
        have RB := RB.out.below hb2
        have XO := XO.out.below hb2
        have OO := OO.out.below hb2
        have XF := XF.out.below hb2
        have OF := OF.out.below hb2
        have XG := XG.out.below hb2
        have OG := OG.out.below hb2
        have XC := XC.out.below hb2
        have OC := OC.out.below hb2
        have XE := XE.out.below hb2
        have OE := OE.out.below hb2
        have XN := DBox.new (Dsk.of_own hown)
        have ON := (hown.below hb3).lower D.out.size
        have D := D.out.trans (hb2.mono D.out.size)
        have XQ := Lib.hid XQ
        have XP := Lib.hid XP
        have RB := Lib.hid RB
        have XO := Lib.hid XO
        have OO := Lib.hid OO
        have XF := Lib.hid XF
        have OF := Lib.hid OF
        have XG := Lib.hid XG
        have OG := Lib.hid OG
        have XC := Lib.hid XC
        have OC := Lib.hid OC
        have XE := Lib.hid XE
        have OE := Lib.hid OE
        have XN := Lib.hid XN
        have ON := Lib.hid ON
        have D := Lib.hid D
        obtain ⟨c0, c1⟩ := XO.out.cells
        clear hown hbn hb2 hb3 N
        go_wp2_with fail
        obtain ⟨BN, hB⟩ : ∃ x, x = w17.heap.size := ⟨_, rfl⟩
        rw [← hB] at XN ⊢
        obtain ⟨w18, hW⟩ : ∃ x : World, x = (w17.alloc (.cells #[.slice AN I3.length cN, .slice AN' 0 dN] 25)) := ⟨_, rfl⟩
        rw [← hW] at XQ XP RB XO OO XF OF XG OG XC OC XE OE XN ON D  c0 c1 ⊢
        clear hB hW
        have N := Lib.hid (HRN.out w18)
        clear c0 c1
        refine N.out.mono ?_
        rintro e w19 ⟨AM, cM, AM', dM, rfl, hown, hbn⟩
        simp only [List.length_nil] at hown
        have hb2 : Below w18.heap.size w18 (w19.alloc (.cells #[.slice AM I3.length cM, .slice AM' 0 dM] 25)) := hbn.alloc hbn.size _
        have hb3 : Below w19.heap.size w19 (w19.alloc (.cells #[.slice AM I3.length cM, .slice AM' 0 dM] 25)) := (Below.refl _ _).alloc (Nat.le_refl _) _
        have XQ := XQ.out.below hb2
        have XP := XP.out.below hb2
        have RB := RB.out.below hb2
        have XO := XO.out.below hb2
        have OO := OO.out.below hb2
        have XF := XF.out.below hb2
        have OF := OF.out.below hb2
        have XG := XG.out.below hb2
        have OG := OG.out.below hb2
        have XC := XC.out.below hb2
        have OC := OC.out.below hb2
        have XE := XE.out.below hb2
        have OE := OE.out.below hb2
        have XN := XN.out.below hb2
        have ON := ON.out.below hb2
        have XM := DBox.new (Dsk.of_own hown)
        have OM := (hown.below hb3).lower D.out.size
        have D := D.out.trans (hb2.mono D.out.size)
        have XQ := Lib.hid XQ
        have XP := Lib.hid XP
        have RB := Lib.hid RB
        have XO := Lib.hid XO
        have OO := Lib.hid OO
        have XF := Lib.hid XF
        have OF := Lib.hid OF
        have XG := Lib.hid XG
        have OG := Lib.hid OG
        have XC := Lib.hid XC
        have OC := Lib.hid OC
        have XE := Lib.hid XE
        have OE := Lib.hid OE
        have XN := Lib.hid XN
        have ON := Lib.hid ON
        have XM := Lib.hid XM
        have OM := Lib.hid OM
        have D := Lib.hid D
        obtain ⟨c0, c1⟩ := XO.out.cells
        clear hown hbn hb2 hb3 N
        go_wp2_with fail
        obtain ⟨BM, hB⟩ : ∃ x, x = w19.heap.size := ⟨_, rfl⟩
        rw [← hB] at XM ⊢
        obtain ⟨w20, hW⟩ : ∃ x : World, x = (w19.alloc (.cells #[.slice AM I3.length cM, .slice AM' 0 dM] 25)) := ⟨_, rfl⟩
        rw [← hW] at XQ XP RB XO OO XF OF XG OG XC OC XE OE XN ON XM OM D  c0 c1 ⊢
        clear hB hW
        have N := Lib.hid (PP.out.twin AO len0 cO BO' len1 dO S C w20 XO.out.dsk SZ.out)
        clear c0 c1
        refine N.out.mono ?_
        rintro e w21 ⟨AT, cT, AT', dT, rfl, hown, hbn⟩
        have hb2 : Below w20.heap.size w20 (w21.alloc (.cells #[.slice AT len0 cT, .slice AT' len1 dT] 25)) := hbn.alloc hbn.size _
        have hb3 : Below w21.heap.size w21 (w21.alloc (.cells #[.slice AT len0 cT, .slice AT' len1 dT] 25)) := (Below.refl _ _).alloc (Nat.le_refl _) _
        have XQ := XQ.out.below hb2
        have XP := XP.out.below hb2
        have RB := RB.out.below hb2
        have XO := XO.out.below hb2
        have OO := OO.out.below hb2
        have XF := XF.out.below hb2
        have OF := OF.out.below hb2
        have XG := XG.out.below hb2
        have OG := OG.out.below hb2
        have XC := XC.out.below hb2
        have OC := OC.out.below hb2
        have XE := XE.out.below hb2
        have OE := OE.out.below hb2
        have XN := XN.out.below hb2
        have ON := ON.out.below hb2
        have XM := XM.out.below hb2
        have OM := OM.out.below hb2
        have XT := DBox.new (Dsk.of_own hown)
        have OT := (hown.below hb3).lower D.out.size
        have D := D.out.trans (hb2.mono D.out.size)
        have XQ := Lib.hid XQ
        have XP := Lib.hid XP
        have RB := Lib.hid RB
        have XO := Lib.hid XO
        have OO := Lib.hid OO
        have XF := Lib.hid XF
        have OF := Lib.hid OF
        have XG := Lib.hid XG
        have OG := Lib.hid OG
        have XC := Lib.hid XC
        have OC := Lib.hid OC
        have XE := Lib.hid XE
        have OE := Lib.hid OE
        have XN := Lib.hid XN
        have ON := Lib.hid ON
        have XM := Lib.hid XM
        have OM := Lib.hid OM
        have XT := Lib.hid XT
        have OT := Lib.hid OT
        have D := Lib.hid D
        obtain ⟨c0, c1⟩ := XF.out.cells
        obtain ⟨c2, c3⟩ := XG.out.cells
        clear hown hbn hb2 hb3 N
        go_wp2_with fail
        obtain ⟨BT, hB⟩ : ∃ x, x = w21.heap.size := ⟨_, rfl⟩
        rw [← hB] at XT ⊢
        obtain ⟨w22, hW⟩ : ∃ x : World, x = (w21.alloc (.cells #[.slice AT len0 cT, .slice AT' len1 dT] 25)) := ⟨_, rfl⟩
        rw [← hW] at XQ XP RB XO OO XF OF XG OG XC OC XE OE XN ON XM OM XT OT D  c0 c1 c2 c3 ⊢
        clear hB hW
        clear c0 c1 c2 c3
        have hcur : Below w22.heap.size w22 w22 := Below.refl _ _
        have keepX : ∀ wx, Below w22.heap.size w22 wx → wx.cell? ⟨BO, 0, none⟩ = some (.slice AO len0 cO) ∧ wx.cell? ⟨BO, 1, none⟩ = some (.slice BO' len1 dO) ∧ wx.cell? ⟨w.heap.size, 0, none⟩ = some (.slice a0 len0 cap0) ∧ wx.cell? ⟨w.heap.size, 1, none⟩ = some (.slice b0 len1 cap1) ∧ wx.cell? ⟨w.heap.size + 1, 0, none⟩ = some (.slice a1 len2 cap2) ∧ wx.cell? ⟨w.heap.size + 1, 1, none⟩ = some (.slice b1 len3 cap3) ∧ wx.cell? ⟨BF, 0, none⟩ = some (.slice AF I1.length cF) ∧ wx.cell? ⟨BF, 1, none⟩ = some (.slice AF' 0 dF) ∧ wx.cell? ⟨BG, 0, none⟩ = some (.slice AG I1.length cG) ∧ wx.cell? ⟨BG, 1, none⟩ = some (.slice AG' 0 dG) ∧ wx.cell? ⟨BC, 0, none⟩ = some (.slice AC I2.length cC) ∧ wx.cell? ⟨BC, 1, none⟩ = some (.slice AC' 0 dC) ∧ wx.cell? ⟨BE, 0, none⟩ = some (.slice AE I2.length cE) ∧ wx.cell? ⟨BE, 1, none⟩ = some (.slice AE' 0 dE) ∧ wx.cell? ⟨BN, 0, none⟩ = some (.slice AN I3.length cN) ∧ wx.cell? ⟨BN, 1, none⟩ = some (.slice AN' 0 dN) ∧ wx.cell? ⟨BM, 0, none⟩ = some (.slice AM I3.length cM) ∧ wx.cell? ⟨BM, 1, none⟩ = some (.slice AM' 0 dM) ∧ wx.cell? ⟨BT, 0, none⟩ = some (.slice AT len0 cT) ∧ wx.cell? ⟨BT, 1, none⟩ = some (.slice AT' len1 dT) := fun wx hx => by
          obtain ⟨u00, u01⟩ := (XO.out.below hx).cells
          obtain ⟨u10, u11⟩ := (XQ.out.below hx).cells
          obtain ⟨u20, u21⟩ := (XP.out.below hx).cells
          obtain ⟨u30, u31⟩ := (XF.out.below hx).cells
          obtain ⟨u40, u41⟩ := (XG.out.below hx).cells
          obtain ⟨u50, u51⟩ := (XC.out.below hx).cells
          obtain ⟨u60, u61⟩ := (XE.out.below hx).cells
          obtain ⟨u70, u71⟩ := (XN.out.below hx).cells
          obtain ⟨u80, u81⟩ := (XM.out.below hx).cells
          obtain ⟨u90, u91⟩ := (XT.out.below hx).cells
          exact ⟨u00, u01, u10, u11, u20, u21, u30, u31, u40, u41, u50, u51, u60, u61, u70, u71, u80, u81, u90, u91⟩
        obtain ⟨v00, v01, v10, v11, v20, v21, v30, v31, v40, v41, v50, v51, v60, v61, v70, v71, v80, v81, v90, v91⟩ := keepX _ hcur
        refine (same_yes _ _ _ _ _ _ _ _ _ _ _ _ _ _ _ (XF.out.below hcur).dsk (XG.out.below hcur).dsk).mono ?_
        rintro e wP0 ⟨rfl, hbP⟩
        have hcur := hcur.trans (hbP.mono hcur.size)
        clear hbP v00 v01 v10 v11 v20 v21 v30 v31 v40 v41 v50 v51 v60 v61 v70 v71 v80 v81 v90 v91
        obtain ⟨v00, v01, v10, v11, v20, v21, v30, v31, v40, v41, v50, v51, v60, v61, v70, v71, v80, v81, v90, v91⟩ := keepX _ hcur
        go_wp2_with fail
        refine (same_yes _ _ _ _ _ _ _ _ _ _ _ _ _ _ _ (XC.out.below hcur).dsk (XE.out.below hcur).dsk).mono ?_
        rintro e wP1 ⟨rfl, hbP⟩
        have hcur := hcur.trans (hbP.mono hcur.size)
        clear hbP v00 v01 v10 v11 v20 v21 v30 v31 v40 v41 v50 v51 v60 v61 v70 v71 v80 v81 v90 v91
        obtain ⟨v00, v01, v10, v11, v20, v21, v30, v31, v40, v41, v50, v51, v60, v61, v70, v71, v80, v81, v90, v91⟩ := keepX _ hcur
        go_wp2_with fail
        refine (same_yes _ _ _ _ _ _ _ _ _ _ _ _ _ _ _ (XN.out.below hcur).dsk (XM.out.below hcur).dsk).mono ?_
        rintro e wP2 ⟨rfl, hbP⟩
        have hcur := hcur.trans (hbP.mono hcur.size)
        clear hbP v00 v01 v10 v11 v20 v21 v30 v31 v40 v41 v50 v51 v60 v61 v70 v71 v80 v81 v90 v91
        obtain ⟨v00, v01, v10, v11, v20, v21, v30, v31, v40, v41, v50, v51, v60, v61, v70, v71, v80, v81, v90, v91⟩ := keepX _ hcur
        go_wp2_with fail
        clear v00 v01 v10 v11 v20 v21 v30 v31 v40 v41 v50 v51 v60 v61 v70 v71 v80 v81 v90 v91
        have hcur : Below w22.heap.size w22 wP2.drew := below_drewN hcur 1
        have keepY : ∀ wx, Below w22.heap.size w22 wx → wx.cell? ⟨BO, 0, none⟩ = some (.slice AO len0 cO) ∧ wx.cell? ⟨BO, 1, none⟩ = some (.slice BO' len1 dO) ∧ wx.cell? ⟨w.heap.size, 0, none⟩ = some (.slice a0 len0 cap0) ∧ wx.cell? ⟨w.heap.size, 1, none⟩ = some (.slice b0 len1 cap1) ∧ wx.cell? ⟨w.heap.size + 1, 0, none⟩ = some (.slice a1 len2 cap2) ∧ wx.cell? ⟨w.heap.size + 1, 1, none⟩ = some (.slice b1 len3 cap3) ∧ wx.cell? ⟨BT, 0, none⟩ = some (.slice AT len0 cT) ∧ wx.cell? ⟨BT, 1, none⟩ = some (.slice AT' len1 dT) := fun wx hx => by
          obtain ⟨u00, u01⟩ := (XO.out.below hx).cells
          obtain ⟨u10, u11⟩ := (XQ.out.below hx).cells
          obtain ⟨u20, u21⟩ := (XP.out.below hx).cells
          obtain ⟨u30, u31⟩ := (XT.out.below hx).cells
          exact ⟨u00, u01, u10, u11, u20, u21, u30, u31⟩
        have hkX := keepY _ hcur
        go_region_held3 (fun w' => w'.cell? ⟨BO, 0, none⟩ = some (.slice AO len0 cO) ∧ w'.cell? ⟨BO, 1, none⟩ = some (.slice BO' len1 dO) ∧ w'.cell? ⟨w.heap.size, 0, none⟩ = some (.slice a0 len0 cap0) ∧ w'.cell? ⟨w.heap.size, 1, none⟩ = some (.slice b0 len1 cap1) ∧ w'.cell? ⟨w.heap.size + 1, 0, none⟩ = some (.slice a1 len2 cap2) ∧ w'.cell? ⟨w.heap.size + 1, 1, none⟩ = some (.slice b1 len3 cap3) ∧ w'.cell? ⟨BT, 0, none⟩ = some (.slice AT len0 cT) ∧ w'.cell? ⟨BT, 1, none⟩ = some (.slice AT' len1 dT))
          (first | exact hkX | go_keep)
          (first
            | (go_at_call 22; with_reducible refine (same_yes AT len0 cT AT' len1 dT S C a0 len0 cap0 b0 len1 cap1 _ (XT.out.below hcur).dsk (XQ.out.below hcur).dsk).mono ?_; rintro e wN ⟨rfl, hbN⟩; have hcur := hcur.trans (hbN.mono hcur.size); have hkX := keepY _ hcur)
            | (go_at_call 22; with_reducible refine (HRS.out a0 len0 cap0 b0 len1 cap1 a1 len2 cap2 b1 len3 cap3 _ (XQ.out.below hcur).dsk (XP.out.below hcur).dsk).mono ?_; rintro e wN ⟨rfl, hbN⟩; have hcur := hcur.trans (hbN.mono hcur.size); have hkX := keepY _ hcur)
            | (go_at_call 31; with_reducible refine (HPS.out AO len0 cO BO' len1 dO a1 len2 cap2 b1 len3 cap3 _ (XO.out.below hcur).dsk (XP.out.below hcur).dsk).mono ?_; rintro e wN ⟨rfl, hbN⟩; have hcur := hcur.trans (hbN.mono hcur.size); have hkX := keepY _ hcur)
            | (go_at_call 31; with_reducible refine (psame_yes PP.out SZ.out AO len0 cO BO' len1 dO a0 len0 cap0 b0 len1 cap1 _ (XO.out.below hcur).dsk (XQ.out.below hcur).dsk).mono ?_; rintro e wN ⟨rfl, hbN⟩; have hcur := hcur.trans (hbN.mono hcur.size); have hkX := keepY _ hcur))
        have D := Lib.hid (D.out.trans (hcur.mono D.out.size))
        have HCUR := Lib.hid hcur
        have OF := Lib.hid (OF.out.below hcur)
        have OC := Lib.hid (OC.out.below hcur)
        have OT := Lib.hid (OT.out.below hcur)
        have XF := Lib.hid (XF.out.below hcur).blk
        have XC := Lib.hid (XC.out.below hcur).blk
        have XT := Lib.hid (XT.out.below hcur).blk
        clear hkX keepX keepY hcur hbN
        have HU8 := Lib.hid HSU.out
        have t0 := XF.out.cell 0
        have t1 := XF.out.cell 1
        simp only [List.getElem?_cons_zero, List.getElem?_cons_succ] at t0 t1
        have SP := Lib.hid (spoil_any AF I1.length cF AF' 0 dF w8.heap.size I1 [] _ OF.out D.out.size HSU.out)
        go_wp2_with fail
        refine SP.out.mono ?_
        rintro e wA ⟨rfl, hbA, hsA⟩
        have D := Lib.hid (D.out.trans hbA)
        have XC := Lib.hid (hsA.blk _ _ _ (by decide) (by decide) XC.out)
        have XT := Lib.hid (hsA.blk _ _ _ (by decide) (by decide) XT.out)
        obtain ⟨S1, hS1, hl1⟩ := hsA.secs _ _ _ _ _ OC.out.secs
        obtain ⟨C1, hC1, hk1⟩ := hsA.pnds _ _ _ _ _ OC.out.pnds
        obtain ⟨S2, hS2, hl2'⟩ := hsA.secs _ _ _ _ _ OT.out.secs
        obtain ⟨C2, hC2, hk2⟩ := hsA.pnds _ _ _ _ _ OT.out.pnds
        clear t0 t1 SP hbA hsA
        have t0 := XC.out.cell 0
        have t1 := XC.out.cell 1
        simp only [List.getElem?_cons_zero, List.getElem?_cons_succ] at t0 t1
        have SP := Lib.hid (spoil_any AC I2.length cC AC' 0 dC w8.heap.size S1 C1 wA ⟨hS1, hC1⟩ D.out.size (small_like HSO.out hS1.out_len hC1.out_len hl1 hk1 rfl rfl))
        have OS2 := Lib.hid hS2
        have OC2 := Lib.hid hC2
        have L2 := Lib.hid hl2'
        have M2 := Lib.hid hk2
        clear hS1 hC1 hl1 hk1 hS2 hC2 hl2' hk2
        go_wp2_with fail
        refine SP.out.mono ?_
        rintro e wB ⟨rfl, hbB, hsB⟩
        have D := Lib.hid (D.out.trans hbB)
        have XT := Lib.hid (hsB.blk _ _ _ (by decide) (by decide) XT.out)
        obtain ⟨S3, hS3, hl3⟩ := hsB.secs _ _ _ _ _ OS2.out
        obtain ⟨C3, hC3, hk3⟩ := hsB.pnds _ _ _ _ _ OC2.out
        clear t0 t1 SP hbB hsB
        have t0 := XT.out.cell 0
        have t1 := XT.out.cell 1
        simp only [List.getElem?_cons_zero, List.getElem?_cons_succ] at t0 t1
        have SP := Lib.hid (spoil_any AT len0 cT AT' len1 dT w8.heap.size S3 C3 wB ⟨hS3, hC3⟩ D.out.size (small_like SZ.out hS3.out_len hC3.out_len (fun j => (hl3 j).trans (L2.out j)) (fun j => (hk3 j).trans (M2.out j)) OT.out.secs.out_len OT.out.pnds.out_len))
        clear hS3 hC3 hl3 hk3
        go_wp2_with fail
        refine SP.out.mono ?_
        rintro e wC ⟨rfl, hbC, hsC⟩
        have D := D.out.trans hbC
        have XO := XO6.out.below D
        have XQ := XQ6.out.below D
        clear t0 t1 SP hbC hsC
        obtain ⟨c0, c1⟩ := XO.cells
        obtain ⟨d0, d1⟩ := XQ.cells
        have K6 := Lib.hid (same_yes AO len0 cO BO' len1 dO S C a0 len0 cap0 b0 len1 cap1 wC XO.dsk XQ.dsk)
        have D := Lib.hid D
        clear XO XQ
        go_wp2_with fail
        refine K6.out.mono ?_
        rintro e wF ⟨rfl, hbF⟩
        have D := D.out.trans (hbF.mono D.out.size)
        have BF9 := Lib.hid (B6.out.trans (D.mono B6.out.size))
        clear D hbF K6
        go_wp2
        go_ret
        exact ⟨rfl, BF9.out⟩
      · have hm2 : m ≤ 100 := by omega
        go_enter Try.func5, Try.ntmps5
        go_wp2_with fail
        refine G1.out.mono ?_
        rintro e w3 ⟨rfl, hb3⟩
        have B3 := Lib.hid (B2.out.trans (hb3.mono B2.out.size))
        have XQ := Lib.hid (XQ.out.below hb3)
        have XP := Lib.hid (XP.out.below hb3)
        have RB := Lib.hid (RB.out.below hb3)
        clear hb3 c0 c1 c2 c3
        obtain ⟨c2, c3⟩ := XP.out.cells
        have G2 := Lib.hid (GG.out w3 (HW1.out.below B3.out))
        go_wp2_with fail
        refine G2.out.mono ?_
        rintro e w4 ⟨rfl, hb4⟩
        have B4 := Lib.hid (B3.out.trans (hb4.mono B3.out.size))
        have XQ := Lib.hid (XQ.out.below hb4)
        have XP := Lib.hid (XP.out.below hb4)
        have RB := Lib.hid (RB.out.below hb4)
        clear hb4 c2 c3 G2
        obtain ⟨c0, c1⟩ := XQ.out.cells
        have D := Lib.hid (Below.refl w4.heap.size w4)
        go_wp2_with fail
        have N := Lib.hid (twin_any a0 len0 cap0 b0 len1 cap1 S C w4 XQ.out.dsk SZ.out)
        clear c0 c1
        refine N.out.mono ?_
        rintro e w7 ⟨AO, cO, BO', dO, rfl, hown, hbn⟩
        have hb2 : Below w4.heap.size w4 (w7.alloc (.cells #[.slice AO len0 cO, .slice BO' len1 dO] 25)) := hbn.alloc hbn.size _
        have hb3 : Below w7.heap.size w7 (w7.alloc (.cells #[.slice AO len0 cO, .slice BO' len1 dO] 25)) := (Below.refl _ _).alloc (Nat.le_refl _) _
        have XQ := XQ.out.below hb2
        have XP := XP.out.below hb2
        have RB := RB.out.below hb2
        have XO := DBox.new (Dsk.of_own hown)
        have OO := (hown.below hb3).lower D.out.size
        have D := D.out.trans (hb2.mono D.out.size)
        have XQ := Lib.hid XQ
        have XP := Lib.hid XP
        have RB := Lib.hid RB
        have XO := Lib.hid XO
        have OO := Lib.hid OO
        have D := Lib.hid D
        obtain ⟨c0, c1⟩ := XO.out.cells
        clear hown hbn hb2 hb3 N
        go_wp2_with fail
        obtain ⟨BO, hB⟩ : ∃ x, x = w7.heap.size := ⟨_, rfl⟩
        rw [← hB] at XO c0 c1 ⊢
        obtain ⟨w8, hW⟩ : ∃ x : World, x = (w7.alloc (.cells #[.slice AO len0 cO, .slice BO' len1 dO] 25)) := ⟨_, rfl⟩
        rw [← hW] at XQ XP RB XO OO D  c0 c1 ⊢
        clear hB hW
        have B6 := Lib.hid (B4.out.trans (D.out.mono B4.out.size))
        have D := Lib.hid (Below.refl w8.heap.size w8)
        have XQ6 := Lib.hid XQ.out
        have XO6 := Lib.hid XO.out
        have N := Lib.hid (HU.out AO len0 cO BO' len1 dO w8 XO.out.dsk)
        clear c0 c1
        refine N.out.mono ?_
        rintro e w9 ⟨AF, cF, AF', dF, rfl, hown, hbn⟩
        simp only [List.length_nil] at hown
        have hb2 : Below w8.heap.size w8 (w9.alloc (.cells #[.slice AF I1.length cF, .slice AF' 0 dF] 25)) := hbn.alloc hbn.size _
        have hb3 : Below w9.heap.size w9 (w9.alloc (.cells #[.slice AF I1.length cF, .slice AF' 0 dF] 25)) := (Below.refl _ _).alloc (Nat.le_refl _) _
        have XQ := XQ.out.below hb2
        have XP := XP.out.below hb2
        have RB := RB.out.below hb2
        have XO := XO.out.below hb2
        have OO := OO.out.below hb2
        have XF := DBox.new (Dsk.of_own hown)
        have OF := (hown.below hb3).lower D.out.size
        have D := D.out.trans (hb2.mono D.out.size)
        have XQ := Lib.hid XQ
        have XP := Lib.hid XP
        have RB := Lib.hid RB
        have XO := Lib.hid XO
        have OO := Lib.hid OO
        have XF := Lib.hid XF
        have OF := Lib.hid OF
        have D := Lib.hid D
        obtain ⟨c0, c1⟩ := XQ.out.cells
        clear hown hbn hb2 hb3 N
        go_wp2_with fail
        obtain ⟨BF, hB⟩ : ∃ x, x = w9.heap.size := ⟨_, rfl⟩
        rw [← hB] at XF ⊢
        obtain ⟨w10, hW⟩ : ∃ x : World, x = (w9.alloc (.cells #[.slice AF I1.length cF, .slice AF' 0 dF] 25)) := ⟨_, rfl⟩
        rw [← hW] at XQ XP RB XO OO XF OF D  c0 c1 ⊢
        clear hB hW
        have N := Lib.hid (HRU.out a0 len0 cap0 b0 len1 cap1 w10 XQ.out.dsk)
        clear c0 c1
        refine N.out.mono ?_
        rintro e w11 ⟨AG, cG, AG', dG, rfl, hown, hbn⟩
        simp only [List.length_nil] at hown
        have hb2 : Below w10.heap.size w10 (w11.alloc (.cells #[.slice AG I1.length cG, .slice AG' 0 dG] 25)) := hbn.alloc hbn.size _
        have hb3 : Below w11.heap.size w11 (w11.alloc (.cells #[.slice AG I1.length cG, .slice AG' 0 dG] 25)) := (Below.refl _ _).alloc (Nat.le_refl _) _
        have XQ := XQ.out.below hb2
        have XP := XP.out.below hb2
        have RB := RB.out.below hb2
        have XO := XO.out.below hb2
        have OO := OO.out.below hb2
        have XF := XF.out.below hb2
        have OF := OF.out.below hb2
        have XG := DBox.new (Dsk.of_own hown)
        have OG := (hown.below hb3).lower D.out.size
        have D := D.out.trans (hb2.mono D.out.size)
        have XQ := Lib.hid XQ
        have XP := Lib.hid XP
        have RB := Lib.hid RB
        have XO := Lib.hid XO
        have OO := Lib.hid OO
        have XF := Lib.hid XF
        have OF := Lib.hid OF
        have XG := Lib.hid XG
        have OG := Lib.hid OG
        have D := Lib.hid D
        obtain ⟨c0, c1⟩ := XO.out.cells
        clear hown hbn hb2 hb3 N
        go_wp2_with fail
        obtain ⟨BG, hB⟩ : ∃ x, x = w11.heap.size := ⟨_, rfl⟩
        rw [← hB] at XG ⊢
        obtain ⟨w12, hW⟩ : ∃ x : World, x = (w11.alloc (.cells #[.slice AG I1.length cG, .slice AG' 0 dG] 25)) := ⟨_, rfl⟩
        rw [← hW] at XQ XP RB XO OO XF OF XG OG D  c0 c1 ⊢
        clear hB hW
        have N := Lib.hid (HO.out AO len0 cO BO' len1 dO a2 len4 cap4 w12 XO.out.dsk RB.out)
        clear c0 c1
        refine N.out.mono ?_
        rintro e w13 ⟨AC, cC, AC', dC, rfl, hown, hbn⟩
        simp only [List.length_nil] at hown
        have hb2 : Below w12.heap.size w12 (w13.alloc (.cells #[.slice AC I2.length cC, .slice AC' 0 dC] 25)) := hbn.alloc hbn.size _
        have hb3 : Below w13.heap.size w13 (w13.alloc (.cells #[.slice AC I2.length cC, .slice AC' 0 dC] 25)) := (Below.refl _ _).alloc (Nat.le_refl _) _
        have XQ := XQ.out.below hb2
        have XP := XP.out.below hb2
        have RB := RB.out.below hb2
        have XO := XO.out.below hb2
        have OO := OO.out.below hb2
        have XF := XF.out.below hb2
        have OF := OF.out.below hb2
        have XG := XG.out.below hb2
        have OG := OG.out.below hb2
        have XC := DBox.new (Dsk.of_own hown)
        have OC := (hown.below hb3).lower D.out.size
        have D := D.out.trans (hb2.mono D.out.size)
        have XQ := Lib.hid XQ
        have XP := Lib.hid XP
        have RB := Lib.hid RB
        have XO := Lib.hid XO
        have OO := Lib.hid OO
        have XF := Lib.hid XF
        have OF := Lib.hid OF
        have XG := Lib.hid XG
        have OG := Lib.hid OG
        have XC := Lib.hid XC
        have OC := Lib.hid OC
        have D := Lib.hid D
        obtain ⟨c0, c1⟩ := XQ.out.cells
        clear hown hbn hb2 hb3 N
        go_wp2_with fail
        obtain ⟨BC, hB⟩ : ∃ x, x = w13.heap.size := ⟨_, rfl⟩
        rw [← hB] at XC ⊢
        obtain ⟨w14, hW⟩ : ∃ x : World, x = (w13.alloc (.cells #[.slice AC I2.length cC, .slice AC' 0 dC] 25)) := ⟨_, rfl⟩
        rw [← hW] at XQ XP RB XO OO XF OF XG OG XC OC D  c0 c1 ⊢
        clear hB hW
        have N := Lib.hid (HRO.out a0 len0 cap0 b0 len1 cap1 a2 len4 cap4 w14 XQ.out.dsk RB.out)
        clear c0 c1
        refine N.out.mono ?_
        rintro e w15 ⟨AE, cE, AE', dE, rfl, hown, hbn⟩
        simp only [List.length_nil] at hown
        have hb2 : Below w14.heap.size w14 (w15.alloc (.cells #[.slice AE I2.length cE, .slice AE' 0 dE] 25)) := hbn.alloc hbn.size _
        have hb3 : Below w15.heap.size w15 (w15.alloc (.cells #[.slice AE I2.length cE, .slice AE' 0 dE] 25)) := (Below.refl _ _).alloc (Nat.le_refl _) _
        have XQ := XQ.out.below hb2
        have XP := XP.out.below hb2
        have RB := RB.out.below hb2
        have XO := XO.out.below hb2
        have OO := OO.out.below hb2
        have XF := XF.out.below hb2
        have OF := OF.out.below hb2
        have XG := XG.out.below hb2
        have OG := OG.out.below hb2
        have XC := XC.out.below hb2
        have OC := OC.out.below hb2
        have XE := DBox.new (Dsk.of_own hown)
        have OE := (hown.below hb3).lower D.out.size
        have D := D.out.trans (hb2.mono D.out.size)
        have XQ := Lib.hid XQ
        have XP := Lib.hid XP
        have RB := Lib.hid RB
        have XO := Lib.hid XO
        have OO := Lib.hid OO
        have XF := Lib.hid XF
        have OF := Lib.hid OF
        have XG := Lib.hid XG
        have OG := Lib.hid OG
        have XC := Lib.hid XC
        have OC := Lib.hid OC
        have XE := Lib.hid XE
        have OE := Lib.hid OE
        have D := Lib.hid D
        obtain ⟨c0, c1⟩ := XO.out.cells
        clear hown hbn hb2 hb3 N
        go_wp2_with fail
        obtain ⟨BE, hB⟩ : ∃ x, x = w15.heap.size := ⟨_, rfl⟩
        rw [← hB] at XE ⊢
        obtain ⟨w16, hW⟩ : ∃ x : World, x = (w15.alloc (.cells #[.slice AE I2.length cE, .slice AE' 0 dE] 25)) := ⟨_, rfl⟩
        rw [← hW] at XQ XP RB XO OO XF OF XG OG XC OC XE OE D  c0 c1 ⊢
        clear hB hW
        have N := Lib.hid (HN.out w16)
        clear c0 c1
        refine N.out.mono ?_
        rintro e w17 ⟨AN, cN, AN', dN, rfl, hown, hbn⟩
        simp only [List.length_nil] at hown
        have hb2 : Below w16.heap.size w16 (w17.alloc (.cells #[.slice AN I3.length cN, .slice AN' 0 dN] 25)) := hbn.alloc hbn.size _
        have hb3 : Below w17.heap.size w17 (w17.alloc (.cells #[.slice AN I3.length cN, .slice AN' 0 dN] 25)) := (Below.refl _ _).alloc (Nat.le_refl _) _
        have XQ := XQ.out.below hb2
        have XP := XP.out.below hb2
        have RB := RB.out.below hb2
        have XO := XO.out.below hb2
        have OO := OO.out.below hb2
        have XF := XF.out.below hb2
        have OF := OF.out.below hb2
        have XG := XG.out.below hb2
        have OG := OG.out.below hb2
        have XC := XC.out.below hb2
        have OC := OC.out.below hb2
        have XE := XE.out.below hb2
        have OE := OE.out.below hb2
        have XN := DBox.new (Dsk.of_own hown)
        have ON := (hown.below hb3).lower D.out.size
        have D := D.out.trans (hb2.mono D.out.size)
        have XQ := Lib.hid XQ
        have XP := Lib.hid XP
        have RB := Lib.hid RB
        have XO := Lib.hid XO
        have OO := Lib.hid OO
        have XF := Lib.hid XF
        have OF := Lib.hid OF
        have XG := Lib.hid XG
        have OG := Lib.hid OG
        have XC := Lib.hid XC
        have OC := Lib.hid OC
        have XE := Lib.hid XE
        have OE := Lib.hid OE
        have XN := Lib.hid XN
        have ON := Lib.hid ON
        have D := Lib.hid D
        obtain ⟨c0, c1⟩ := XO.out.cells
        clear hown hbn hb2 hb3 N
        go_wp2_with fail
        obtain ⟨BN, hB⟩ : ∃ x, x = w17.heap.size := ⟨_, rfl⟩
        rw [← hB] at XN ⊢
        obtain ⟨w18, hW⟩ : ∃ x : World, x = (w17.alloc (.cells #[.slice AN I3.length cN, .slice AN' 0 dN] 25)) := ⟨_, rfl⟩
        rw [← hW] at XQ XP RB XO OO XF OF XG OG XC OC XE OE XN ON D  c0 c1 ⊢
        clear hB hW
        have N := Lib.hid (HRN.out w18)
        clear c0 c1
        refine N.out.mono ?_
        rintro e w19 ⟨AM, cM, AM', dM, rfl, hown, hbn⟩
        simp only [List.length_nil] at hown
        have hb2 : Below w18.heap.size w18 (w19.alloc (.cells #[.slice AM I3.length cM, .slice AM' 0 dM] 25)) := hbn.alloc hbn.size _
        have hb3 : Below w19.heap.size w19 (w19.alloc (.cells #[.slice AM I3.length cM, .slice AM' 0 dM] 25)) := (Below.refl _ _).alloc (Nat.le_refl _) _
        have XQ := XQ.out.below hb2
        have XP := XP.out.below hb2
        have RB := RB.out.below hb2
        have XO := XO.out.below hb2
        have OO := OO.out.below hb2
        have XF := XF.out.below hb2
        have OF := OF.out.below hb2
        have XG := XG.out.below hb2
        have OG := OG.out.below hb2
        have XC := XC.out.below hb2
        have OC := OC.out.below hb2
        have XE := XE.out.below hb2
        have OE := OE.out.below hb2
        have XN := XN.out.below hb2
        have ON := ON.out.below hb2
        have XM := DBox.new (Dsk.of_own hown)
        have OM := (hown.below hb3).lower D.out.size
        have D := D.out.trans (hb2.mono D.out.size)
        have XQ := Lib.hid XQ
        have XP := Lib.hid XP
        have RB := Lib.hid RB
        have XO := Lib.hid XO
        have OO := Lib.hid OO
        have XF := Lib.hid XF
        have OF := Lib.hid OF
        have XG := Lib.hid XG
        have OG := Lib.hid OG
        have XC := Lib.hid XC
        have OC := Lib.hid OC
        have XE := Lib.hid XE
        have OE := Lib.hid OE
        have XN := Lib.hid XN
        have ON := Lib.hid ON
        have XM := Lib.hid XM
        have OM := Lib.hid OM
        have D := Lib.hid D
        obtain ⟨c0, c1⟩ := XO.out.cells
        clear hown hbn hb2 hb3 N
        go_wp2_with fail
        obtain ⟨BM, hB⟩ : ∃ x, x = w19.heap.size := ⟨_, rfl⟩
        rw [← hB] at XM ⊢
        obtain ⟨w20, hW⟩ : ∃ x : World, x = (w19.alloc (.cells #[.slice AM I3.length cM, .slice AM' 0 dM] 25)) := ⟨_, rfl⟩
        rw [← hW] at XQ XP RB XO OO XF OF XG OG XC OC XE OE XN ON XM OM D  c0 c1 ⊢
        clear hB hW
        have N := Lib.hid (PP.out.twin AO len0 cO BO' len1 dO S C w20 XO.out.dsk SZ.out)
        clear c0 c1
        refine N.out.mono ?_
        rintro e w21 ⟨AT, cT, AT', dT, rfl, hown, hbn⟩
        have hb2 : Below w20.heap.size w20 (w21.alloc (.cells #[.slice AT len0 cT, .slice AT' len1 dT] 25)) := hbn.alloc hbn.size _
        have hb3 : Below w21.heap.size w21 (w21.alloc (.cells #[.slice AT len0 cT, .slice AT' len1 dT] 25)) := (Below.refl _ _).alloc (Nat.le_refl _) _
        have XQ := XQ.out.below hb2
        have XP := XP.out.below hb2
        have RB := RB.out.below hb2
        have XO := XO.out.below hb2
        have OO := OO.out.below hb2
        have XF := XF.out.below hb2
        have OF := OF.out.below hb2
        have XG := XG.out.below hb2
        have OG := OG.out.below hb2
        have XC := XC.out.below hb2
        have OC := OC.out.below hb2
        have XE := XE.out.below hb2
        have OE := OE.out.below hb2
        have XN := XN.out.below hb2
        have ON := ON.out.below hb2
        have XM := XM.out.below hb2
        have OM := OM.out.below hb2
        have XT := DBox.new (Dsk.of_own hown)
        have OT := (hown.below hb3).lower D.out.size
        have D := D.out.trans (hb2.mono D.out.size)
        have XQ := Lib.hid XQ
        have XP := Lib.hid XP
        have RB := Lib.hid RB
        have XO := Lib.hid XO
        have OO := Lib.hid OO
        have XF := Lib.hid XF
        have OF := Lib.hid OF
        have XG := Lib.hid XG
        have OG := Lib.hid OG
        have XC := Lib.hid XC
        have OC := Lib.hid OC
        have XE := Lib.hid XE
        have OE := Lib.hid OE
        have XN := Lib.hid XN
        have ON := Lib.hid ON
        have XM := Lib.hid XM
        have OM := Lib.hid OM
        have XT := Lib.hid XT
        have OT := Lib.hid OT
        have D := Lib.hid D
        obtain ⟨c0, c1⟩ := XF.out.cells
        obtain ⟨c2, c3⟩ := XG.out.cells
        clear hown hbn hb2 hb3 N
        go_wp2_with fail
        obtain ⟨BT, hB⟩ : ∃ x, x = w21.heap.size := ⟨_, rfl⟩
        rw [← hB] at XT ⊢
        obtain ⟨w22, hW⟩ : ∃ x : World, x = (w21.alloc (.cells #[.slice AT len0 cT, .slice AT' len1 dT] 25)) := ⟨_, rfl⟩
        rw [← hW] at XQ XP RB XO OO XF OF XG OG XC OC XE OE XN ON XM OM XT OT D  c0 c1 c2 c3 ⊢
        clear hB hW
        clear c0 c1 c2 c3
        have hcur : Below w22.heap.size w22 w22 := Below.refl _ _
        have keepX : ∀ wx, Below w22.heap.size w22 wx → wx.cell? ⟨BO, 0, none⟩ = some (.slice AO len0 cO) ∧ wx.cell? ⟨BO, 1, none⟩ = some (.slice BO' len1 dO) ∧ wx.cell? ⟨w.heap.size, 0, none⟩ = some (.slice a0 len0 cap0) ∧ wx.cell? ⟨w.heap.size, 1, none⟩ = some (.slice b0 len1 cap1) ∧ wx.cell? ⟨w.heap.size + 1, 0, none⟩ = some (.slice a1 len2 cap2) ∧ wx.cell? ⟨w.heap.size + 1, 1, none⟩ = some (.slice b1 len3 cap3) ∧ wx.cell? ⟨BF, 0, none⟩ = some (.slice AF I1.length cF) ∧ wx.cell? ⟨BF, 1, none⟩ = some (.slice AF' 0 dF) ∧ wx.cell? ⟨BG, 0, none⟩ = some (.slice AG I1.length cG) ∧ wx.cell? ⟨BG, 1, none⟩ = some (.slice AG' 0 dG) ∧ wx.cell? ⟨BC, 0, none⟩ = some (.slice AC I2.length cC) ∧ wx.cell? ⟨BC, 1, none⟩ = some (.slice AC' 0 dC) ∧ wx.cell? ⟨BE, 0, none⟩ = some (.slice AE I2.length cE) ∧ wx.cell? ⟨BE, 1, none⟩ = some (.slice AE' 0 dE) ∧ wx.cell? ⟨BN, 0, none⟩ = some (.slice AN I3.length cN) ∧ wx.cell? ⟨BN, 1, none⟩ = some (.slice AN' 0 dN) ∧ wx.cell? ⟨BM, 0, none⟩ = some (.slice AM I3.length cM) ∧ wx.cell? ⟨BM, 1, none⟩ = some (.slice AM' 0 dM) ∧ wx.cell? ⟨BT, 0, none⟩ = some (.slice AT len0 cT) ∧ wx.cell? ⟨BT, 1, none⟩ = some (.slice AT' len1 dT) := fun wx hx => by
          obtain ⟨u00, u01⟩ := (XO.out.below hx).cells
          obtain ⟨u10, u11⟩ := (XQ.out.below hx).cells
          obtain ⟨u20, u21⟩ := (XP.out.below hx).cells
          obtain ⟨u30, u31⟩ := (XF.out.below hx).cells
          obtain ⟨u40, u41⟩ := (XG.out.below hx).cells
          obtain ⟨u50, u51⟩ := (XC.out.below hx).cells
          obtain ⟨u60, u61⟩ := (XE.out.below hx).cells
          obtain ⟨u70, u71⟩ := (XN.out.below hx).cells
          obtain ⟨u80, u81⟩ := (XM.out.below hx).cells
          obtain ⟨u90, u91⟩ := (XT.out.below hx).cells
          exact ⟨u00, u01, u10, u11, u20, u21, u30, u31, u40, u41, u50, u51, u60, u61, u70, u71, u80, u81, u90, u91⟩
        obtain ⟨v00, v01, v10, v11, v20, v21, v30, v31, v40, v41, v50, v51, v60, v61, v70, v71, v80, v81, v90, v91⟩ := keepX _ hcur
        refine (same_yes _ _ _ _ _ _ _ _ _ _ _ _ _ _ _ (XF.out.below hcur).dsk (XG.out.below hcur).dsk).mono ?_
        rintro e wP0 ⟨rfl, hbP⟩
        have hcur := hcur.trans (hbP.mono hcur.size)
        clear hbP v00 v01 v10 v11 v20 v21 v30 v31 v40 v41 v50 v51 v60 v61 v70 v71 v80 v81 v90 v91
        obtain ⟨v00, v01, v10, v11, v20, v21, v30, v31, v40, v41, v50, v51, v60, v61, v70, v71, v80, v81, v90, v91⟩ := keepX _ hcur
        go_wp2_with fail
        refine (same_yes _ _ _ _ _ _ _ _ _ _ _ _ _ _ _ (XC.out.below hcur).dsk (XE.out.below hcur).dsk).mono ?_
        rintro e wP1 ⟨rfl, hbP⟩
        have hcur := hcur.trans (hbP.mono hcur.size)
        clear hbP v00 v01 v10 v11 v20 v21 v30 v31 v40 v41 v50 v51 v60 v61 v70 v71 v80 v81 v90 v91
        obtain ⟨v00, v01, v10, v11, v20, v21, v30, v31, v40, v41, v50, v51, v60, v61, v70, v71, v80, v81, v90, v91⟩ := keepX _ hcur
        go_wp2_with fail
        refine (same_yes _ _ _ _ _ _ _ _ _ _ _ _ _ _ _ (XN.out.below hcur).dsk (XM.out.below hcur).dsk).mono ?_
        rintro e wP2 ⟨rfl, hbP⟩
        have hcur := hcur.trans (hbP.mono hcur.size)
        clear hbP v00 v01 v10 v11 v20 v21 v30 v31 v40 v41 v50 v51 v60 v61 v70 v71 v80 v81 v90 v91
        obtain ⟨v00, v01, v10, v11, v20, v21, v30, v31, v40, v41, v50, v51, v60, v61, v70, v71, v80, v81, v90, v91⟩ := keepX _ hcur
        go_wp2_with fail
        clear v00 v01 v10 v11 v20 v21 v30 v31 v40 v41 v50 v51 v60 v61 v70 v71 v80 v81 v90 v91
        have hcur : Below w22.heap.size w22 wP2.drew := below_drewN hcur 1
        have keepY : ∀ wx, Below w22.heap.size w22 wx → wx.cell? ⟨BO, 0, none⟩ = some (.slice AO len0 cO) ∧ wx.cell? ⟨BO, 1, none⟩ = some (.slice BO' len1 dO) ∧ wx.cell? ⟨w.heap.size, 0, none⟩ = some (.slice a0 len0 cap0) ∧ wx.cell? ⟨w.heap.size, 1, none⟩ = some (.slice b0 len1 cap1) ∧ wx.cell? ⟨w.heap.size + 1, 0, none⟩ = some (.slice a1 len2 cap2) ∧ wx.cell? ⟨w.heap.size + 1, 1, none⟩ = some (.slice b1 len3 cap3) ∧ wx.cell? ⟨BT, 0, none⟩ = some (.slice AT len0 cT) ∧ wx.cell? ⟨BT, 1, none⟩ = some (.slice AT' len1 dT) := fun wx hx => by
          obtain ⟨u00, u01⟩ := (XO.out.below hx).cells
          obtain ⟨u10, u11⟩ := (XQ.out.below hx).cells
          obtain ⟨u20, u21⟩ := (XP.out.below hx).cells
          obtain ⟨u30, u31⟩ := (XT.out.below hx).cells
          exact ⟨u00, u01, u10, u11, u20, u21, u30, u31⟩
        have hkX := keepY _ hcur
        go_region_held3 (fun w' => w'.cell? ⟨BO, 0, none⟩ = some (.slice AO len0 cO) ∧ w'.cell? ⟨BO, 1, none⟩ = some (.slice BO' len1 dO) ∧ w'.cell? ⟨w.heap.size, 0, none⟩ = some (.slice a0 len0 cap0) ∧ w'.cell? ⟨w.heap.size, 1, none⟩ = some (.slice b0 len1 cap1) ∧ w'.cell? ⟨w.heap.size + 1, 0, none⟩ = some (.slice a1 len2 cap2) ∧ w'.cell? ⟨w.heap.size + 1, 1, none⟩ = some (.slice b1 len3 cap3) ∧ w'.cell? ⟨BT, 0, none⟩ = some (.slice AT len0 cT) ∧ w'.cell? ⟨BT, 1, none⟩ = some (.slice AT' len1 dT))
          (first | exact hkX | go_keep)
          (first
            | (go_at_call 22; with_reducible refine (same_yes AT len0 cT AT' len1 dT S C a0 len0 cap0 b0 len1 cap1 _ (XT.out.below hcur).dsk (XQ.out.below hcur).dsk).mono ?_; rintro e wN ⟨rfl, hbN⟩; have hcur := hcur.trans (hbN.mono hcur.size); have hkX := keepY _ hcur)
            | (go_at_call 22; with_reducible refine (HRS.out a0 len0 cap0 b0 len1 cap1 a1 len2 cap2 b1 len3 cap3 _ (XQ.out.below hcur).dsk (XP.out.below hcur).dsk).mono ?_; rintro e wN ⟨rfl, hbN⟩; have hcur := hcur.trans (hbN.mono hcur.size); have hkX := keepY _ hcur)
            | (go_at_call 31; with_reducible refine (HPS.out AO len0 cO BO' len1 dO a1 len2 cap2 b1 len3 cap3 _ (XO.out.below hcur).dsk (XP.out.below hcur).dsk).mono ?_; rintro e wN ⟨rfl, hbN⟩; have hcur := hcur.trans (hbN.mono hcur.size); have hkX := keepY _ hcur)
            | (go_at_call 31; with_reducible refine (psame_yes PP.out SZ.out AO len0 cO BO' len1 dO a0 len0 cap0 b0 len1 cap1 _ (XO.out.below hcur).dsk (XQ.out.below hcur).dsk).mono ?_; rintro e wN ⟨rfl, hbN⟩; have hcur := hcur.trans (hbN.mono hcur.size); have hkX := keepY _ hcur))
        have D := Lib.hid (D.out.trans (hcur.mono D.out.size))
        have HCUR := Lib.hid hcur
        have OF := Lib.hid (OF.out.below hcur)
        have OC := Lib.hid (OC.out.below hcur)
        have OT := Lib.hid (OT.out.below hcur)
        have XF := Lib.hid (XF.out.below hcur).blk
        have XC := Lib.hid (XC.out.below hcur).blk
        have XT := Lib.hid (XT.out.below hcur).blk
        clear hkX keepX keepY hcur hbN
        have HU8 := Lib.hid HSU.out
        have t0 := XF.out.cell 0
        have t1 := XF.out.cell 1
        simp only [List.getElem?_cons_zero, List.getElem?_cons_succ] at t0 t1
        have SP := Lib.hid (spoil_any AF I1.length cF AF' 0 dF w8.heap.size I1 [] _ OF.out D.out.size HSU.out)
        go_wp2_with fail
        refine SP.out.mono ?_
        rintro e wA ⟨rfl, hbA, hsA⟩
        have D := Lib.hid (D.out.trans hbA)
        have XC := Lib.hid (hsA.blk _ _ _ (by decide) (by decide) XC.out)
        have XT := Lib.hid (hsA.blk _ _ _ (by decide) (by decide) XT.out)
        obtain ⟨S1, hS1, hl1⟩ := hsA.secs _ _ _ _ _ OC.out.secs
        obtain ⟨C1, hC1, hk1⟩ := hsA.pnds _ _ _ _ _ OC.out.pnds
        obtain ⟨S2, hS2, hl2'⟩ := hsA.secs _ _ _ _ _ OT.out.secs
        obtain ⟨C2, hC2, hk2⟩ := hsA.pnds _ _ _ _ _ OT.out.pnds
        clear t0 t1 SP hbA hsA
        have t0 := XC.out.cell 0
        have t1 := XC.out.cell 1
        simp only [List.getElem?_cons_zero, List.getElem?_cons_succ] at t0 t1
        have SP := Lib.hid (spoil_any AC I2.length cC AC' 0 dC w8.heap.size S1 C1 wA ⟨hS1, hC1⟩ D.out.size (small_like HSO.out hS1.out_len hC1.out_len hl1 hk1 rfl rfl))
        have OS2 := Lib.hid hS2
        have OC2 := Lib.hid hC2
        have L2 := Lib.hid hl2'
        have M2 := Lib.hid hk2
        clear hS1 hC1 hl1 hk1 hS2 hC2 hl2' hk2
        go_wp2_with fail
        refine SP.out.mono ?_
        rintro e wB ⟨rfl, hbB, hsB⟩
        have D := Lib.hid (D.out.trans hbB)
        have XT := Lib.hid (hsB.blk _ _ _ (by decide) (by decide) XT.out)
        obtain ⟨S3, hS3, hl3⟩ := hsB.secs _ _ _ _ _ OS2.out
        obtain ⟨C3, hC3, hk3⟩ := hsB.pnds _ _ _ _ _ OC2.out
        clear t0 t1 SP hbB hsB
        have t0 := XT.out.cell 0
        have t1 := XT.out.cell 1
        simp only [List.getElem?_cons_zero, List.getElem?_cons_succ] at t0 t1
        have SP := Lib.hid (spoil_any AT len0 cT AT' len1 dT w8.heap.size S3 C3 wB ⟨hS3, hC3⟩ D.out.size (small_like SZ.out hS3.out_len hC3.out_len (fun j => (hl3 j).trans (L2.out j)) (fun j => (hk3 j).trans (M2.out j)) OT.out.secs.out_len OT.out.pnds.out_len))
        clear hS3 hC3 hl3 hk3
        go_wp2_with fail
        refine SP.out.mono ?_
        rintro e wC ⟨rfl, hbC, hsC⟩
        have D := D.out.trans hbC
        have XO := XO6.out.below D
        have XQ := XQ6.out.below D
        clear t0 t1 SP hbC hsC
        obtain ⟨c0, c1⟩ := XO.cells
        obtain ⟨d0, d1⟩ := XQ.cells
        have K6 := Lib.hid (same_yes AO len0 cO BO' len1 dO S C a0 len0 cap0 b0 len1 cap1 wC XO.dsk XQ.dsk)
        have D := Lib.hid D
        clear XO XQ
        go_wp2_with fail
        refine K6.out.mono ?_
        rintro e wF ⟨rfl, hbF⟩
        have D := D.out.trans (hbF.mono D.out.size)
        have BF9 := Lib.hid (B6.out.trans (D.mono B6.out.size))
        clear D hbF K6
        go_wp2
        go_ret
        exact ⟨rfl, BF9.out⟩

end Go.Proofs.Ytajocifomjgjhaa
