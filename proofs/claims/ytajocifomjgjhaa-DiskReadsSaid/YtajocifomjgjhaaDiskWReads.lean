/- Layer 5, DiskReads: the walk: what was written is read, all else stays, and a flush turns nothing that is read. -/
import Derived.Test.YtajocifomjgjhaaDiskFlow
import Derived.Test.YtajocifomjgjhaaDiskA4
namespace Go.Proofs.Ytajocifomjgjhaa
open Go.RowKit
set_option linter.unusedVariables false

set_option maxRecDepth 100000 in
set_option maxHeartbeats 12800000 in
theorem reads_of (P : DskDoes) (a0 : Option Addr) (len0 cap0 : Nat) (b0 : Option Addr) (len1 cap1 : Nat) (S : List Sec) (C : List Pnd) (at_ other : Int) (a2 : Option Addr) (len2 cap2 : Nat) (z2 : List Int) (w : World) (w0 : Dsk w a0 len0 cap0 b0 len1 cap1 S C) (w2 : IsRow .u8 w a2 len2 cap2 z2) :
    Calls Try.prog 6 #[diskV a0 len0 cap0 b0 len1 cap1, .int .i64 at_, .int .i64 other, .slice a2 len2 cap2] w fun e w' => e = .returned (.bool true) ∧ Below w.heap.size w w' := by
  have PP := Lib.hid P
  obtain ⟨b, hb, hbw⟩ := w2.arg
  have hby : ∀ z ∈ b, isByte z := fun z hz => wf_byte (hbw z hz)
  have BY8 := Lib.hid hby
  have hbel : Below w.heap.size w (w.alloc (.cells #[.slice a0 len0 cap0, .slice b0 len1 cap1] 25)) := (Below.refl _ _).alloc (Nat.le_refl _) _
  have XQ := Lib.hid (DBox.new w0)
  have RB := Lib.hid (hb.below hbel)
  have B := Lib.hid hbel
  have gg := fun w hx => great_any a0 len0 cap0 b0 len1 cap1 S C 60 w hx
  obtain ⟨c0, c1⟩ := XQ.out.cells
  have hbl := hb.len
  have hbc := Nat.le_trans hb.cap hb.max
  unfold maxLen at hbc
  clear P w0 w2 hb hbw hby hbel
  cases hg1 : greatD S C 60 with
  | true =>
    rw [hg1] at gg
    have GG := Lib.hid gg
    clear gg hg1 hbl
    go_enter Try.func6, Try.ntmps6
    go_wp2_with fail
    refine (alive_of PP.out _).mono ?_
    rintro e wa ⟨rfl, hb1⟩
    have B := Lib.hid (B.out.trans (hb1.mono B.out.size))
    have XQ := Lib.hid (XQ.out.below hb1)
    have RB := Lib.hid (RB.out.below hb1)
    clear hb1 c0 c1
    obtain ⟨c0, c1⟩ := XQ.out.cells
    have G1 := Lib.hid (GG.out wa XQ.out.dsk)
    go_wp2_with fail
    refine G1.out.mono ?_
    rintro e wb ⟨rfl, hb3⟩
    have B := Lib.hid (B.out.trans (hb3.mono B.out.size))
    have XQ := Lib.hid (XQ.out.below hb3)
    have RB := Lib.hid (RB.out.below hb3)
    clear hb3 c0 c1 G1 GG
    obtain ⟨c0, c1⟩ := XQ.out.cells
    go_wp2
    go_ret
    exact ⟨rfl, B.out⟩
  | false =>
    rw [hg1] at gg
    have GG := Lib.hid gg
    have SZ := Lib.hid (small_ofD (by decide) (by decide) hg1)
    clear gg hg1
    by_cases hl1 : 100 < len2
    · have hl2 : (100 : Int) < (len2 : Int) := by omega
      clear hbl hl1
      go_enter Try.func6, Try.ntmps6
      go_wp2_with fail
      refine (alive_of PP.out _).mono ?_
      rintro e wa ⟨rfl, hb1⟩
      have B := Lib.hid (B.out.trans (hb1.mono B.out.size))
      have XQ := Lib.hid (XQ.out.below hb1)
      have RB := Lib.hid (RB.out.below hb1)
      clear hb1 c0 c1
      obtain ⟨c0, c1⟩ := XQ.out.cells
      have G1 := Lib.hid (GG.out wa XQ.out.dsk)
      go_wp2_with fail
      refine G1.out.mono ?_
      rintro e wb ⟨rfl, hb3⟩
      have B := Lib.hid (B.out.trans (hb3.mono B.out.size))
      have XQ := Lib.hid (XQ.out.below hb3)
      have RB := Lib.hid (RB.out.below hb3)
      clear hb3 c0 c1 G1 GG
      obtain ⟨c0, c1⟩ := XQ.out.cells
      go_wp2
      go_ret
      exact ⟨rfl, B.out⟩
    · have hl2 : ¬ (100 : Int) < (len2 : Int) := by omega
      rcases reads_write PP.out SZ.out at_ other BY8.out (by rw [hbl]; omega) with ⟨E, hE, hu⟩ | ⟨K, J, R, Q0, E, H, hsk, hu, h1, h2, h3, h4, h5, h6, h7⟩
      · have HU := Lib.hid hu
        clear hu hbl hl1 hbc
        go_enter Try.func6, Try.ntmps6
        go_wp2_with fail
        refine (alive_of PP.out _).mono ?_
        rintro e wa ⟨rfl, hb1⟩
        have B := Lib.hid (B.out.trans (hb1.mono B.out.size))
        have XQ := Lib.hid (XQ.out.below hb1)
        have RB := Lib.hid (RB.out.below hb1)
        clear hb1 c0 c1
        obtain ⟨c0, c1⟩ := XQ.out.cells
        have G1 := Lib.hid (GG.out wa XQ.out.dsk)
        go_wp2_with fail
        refine G1.out.mono ?_
        rintro e wb ⟨rfl, hb3⟩
        have B := Lib.hid (B.out.trans (hb3.mono B.out.size))
        have XQ := Lib.hid (XQ.out.below hb3)
        have RB := Lib.hid (RB.out.below hb3)
        clear hb3 c0 c1 G1 GG
        obtain ⟨c0, c1⟩ := XQ.out.cells
        go_wp2_with fail
        have N := Lib.hid (HU.out a0 len0 cap0 b0 len1 cap1 a2 len2 cap2 wb XQ.out.dsk RB.out)
        clear c0 c1
        refine N.out.mono ?_
        rintro e w3 ⟨AX, cX, AX', dX, rfl, hown, hbn⟩
        simp only [List.length_nil] at hown
        have X := DBox.new (Dsk.of_own hown)
        obtain ⟨c0, c1⟩ := X.cells
        have B := Lib.hid ((B.out.trans (hbn.mono B.out.size)).alloc ((B.out.trans (hbn.mono B.out.size)).size) (.cells #[.slice AX 0 cX, .slice AX' 0 dX] 25))
        clear hown hbn N X
        go_wp2
        go_ret
        exact ⟨rfl, B.out⟩
      · have HU := Lib.hid hu
        have H1 := Lib.hid h1
        have H2 := Lib.hid h2
        have H3 := Lib.hid h3
        have H4 := Lib.hid h4
        have H5 := Lib.hid h5
        have H6 := Lib.hid h6
        have H7 := Lib.hid h7
        clear hu hsk h1 h2 h3 h4 h5 h6 h7 hbl hl1 hbc
        go_enter Try.func6, Try.ntmps6
        go_wp2_with fail
        refine (alive_of PP.out _).mono ?_
        rintro e wa ⟨rfl, hb1⟩
        have B := Lib.hid (B.out.trans (hb1.mono B.out.size))
        have XQ := Lib.hid (XQ.out.below hb1)
        have RB := Lib.hid (RB.out.below hb1)
        clear hb1 c0 c1
        obtain ⟨c0, c1⟩ := XQ.out.cells
        have G1 := Lib.hid (GG.out wa XQ.out.dsk)
        go_wp2_with fail
        refine G1.out.mono ?_
        rintro e wb ⟨rfl, hb3⟩
        have B := Lib.hid (B.out.trans (hb3.mono B.out.size))
        have XQ := Lib.hid (XQ.out.below hb3)
        have RB := Lib.hid (RB.out.below hb3)
        clear hb3 c0 c1 G1 GG
        obtain ⟨c0, c1⟩ := XQ.out.cells
        go_wp2_with fail
        have N := Lib.hid (HU.out a0 len0 cap0 b0 len1 cap1 a2 len2 cap2 wb XQ.out.dsk RB.out)
        clear c0 c1
        refine N.out.mono ?_
        rintro e w3 ⟨AX, cX, AX', dX, rfl, hown, hbn⟩
        try simp only [List.length_nil] at hown
        have hb2 : Below wb.heap.size wb (w3.alloc (.cells #[.slice AX S.length cX, .slice AX' K.length dX] 25)) := hbn.alloc hbn.size _
        have XQ := XQ.out.below hb2
        have RB := RB.out.below hb2
        have XX := DBox.new (Dsk.of_own hown)
        have B := B.out.trans (hb2.mono B.out.size)
        have XQ := Lib.hid XQ
        have RB := Lib.hid RB
        have XX := Lib.hid XX
        have B := Lib.hid B
        obtain ⟨c0, c1⟩ := XX.out.cells
        clear hown hbn hb2 N
        go_wp2_with fail
        obtain ⟨BX, hB⟩ : ∃ x, x = w3.heap.size := ⟨_, rfl⟩
        rw [← hB] at XX c0 c1 ⊢
        obtain ⟨w4, hW⟩ : ∃ x : World, x = (w3.alloc (.cells #[.slice AX S.length cX, .slice AX' K.length dX] 25)) := ⟨_, rfl⟩
        rw [← hW] at XQ RB XX B c0 c1 ⊢
        clear hB hW
        have N := Lib.hid (H1.out AX S.length cX AX' K.length dX w4 XX.out.dsk)
        clear c0 c1
        refine N.out.mono ?_
        rintro e w5 ⟨AC, cC, rfl, hown, hbn⟩
        have XQ := XQ.out.below hbn
        have RB := RB.out.below hbn
        have XX := XX.out.below hbn
        have RC := Arg.own hown
        have B := B.out.trans (hbn.mono B.out.size)
        have XQ := Lib.hid XQ
        have RB := Lib.hid RB
        have XX := Lib.hid XX
        have RC := Lib.hid RC
        have B := Lib.hid B
        obtain ⟨c0, c1⟩ := XQ.out.cells
        clear hown hbn N
        go_wp2_with fail
        have N := Lib.hid (H2.out a0 len0 cap0 b0 len1 cap1 w5 XQ.out.dsk)
        clear c0 c1
        refine N.out.mono ?_
        rintro e w6 ⟨AD, cD, rfl, hown, hbn⟩
        have XQ := XQ.out.below hbn
        have RB := RB.out.below hbn
        have XX := XX.out.below hbn
        have RC := RC.out.below hbn
        have RD := Arg.own hown
        have B := B.out.trans (hbn.mono B.out.size)
        have XQ := Lib.hid XQ
        have RB := Lib.hid RB
        have XX := Lib.hid XX
        have RC := Lib.hid RC
        have RD := Lib.hid RD
        have B := Lib.hid B
        obtain ⟨c0, c1⟩ := XX.out.cells
        clear hown hbn N
        go_wp2_with fail
        have N := Lib.hid (H3.out AX S.length cX AX' K.length dX w6 XX.out.dsk)
        clear c0 c1
        refine N.out.mono ?_
        rintro e w7 ⟨AE, cE, rfl, hown, hbn⟩
        have XQ := XQ.out.below hbn
        have RB := RB.out.below hbn
        have XX := XX.out.below hbn
        have RC := RC.out.below hbn
        have RD := RD.out.below hbn
        have RE := Arg.own hown
        have B := B.out.trans (hbn.mono B.out.size)
        have XQ := Lib.hid XQ
        have RB := Lib.hid RB
        have XX := Lib.hid XX
        have RC := Lib.hid RC
        have RD := Lib.hid RD
        have RE := Lib.hid RE
        have B := Lib.hid B
        obtain ⟨c0, c1⟩ := XX.out.cells
        clear hown hbn N
        go_wp2_with fail
        have N := Lib.hid (H4.out AX S.length cX AX' K.length dX w7 XX.out.dsk)
        clear c0 c1
        refine N.out.mono ?_
        rintro e w8 ⟨AY, cY, AY', dY, rfl, hown, hbn⟩
        try simp only [List.length_nil] at hown
        have hb2 : Below w7.heap.size w7 (w8.alloc (.cells #[.slice AY J.length cY, .slice AY' 0 dY] 25)) := hbn.alloc hbn.size _
        have XQ := XQ.out.below hb2
        have RB := RB.out.below hb2
        have XX := XX.out.below hb2
        have RC := RC.out.below hb2
        have RD := RD.out.below hb2
        have RE := RE.out.below hb2
        have XY := DBox.new (Dsk.of_own hown)
        have B := B.out.trans (hb2.mono B.out.size)
        have XQ := Lib.hid XQ
        have RB := Lib.hid RB
        have XX := Lib.hid XX
        have RC := Lib.hid RC
        have RD := Lib.hid RD
        have RE := Lib.hid RE
        have XY := Lib.hid XY
        have B := Lib.hid B
        obtain ⟨c0, c1⟩ := XY.out.cells
        clear hown hbn hb2 N
        go_wp2_with fail
        obtain ⟨BY, hB⟩ : ∃ x, x = w8.heap.size := ⟨_, rfl⟩
        rw [← hB] at XY c0 c1 ⊢
        obtain ⟨w9, hW⟩ : ∃ x : World, x = (w8.alloc (.cells #[.slice AY J.length cY, .slice AY' 0 dY] 25)) := ⟨_, rfl⟩
        rw [← hW] at XQ RB XX RC RD RE XY B c0 c1 ⊢
        clear hB hW
        have N := Lib.hid (H5.out AY J.length cY AY' 0 dY w9 XY.out.dsk)
        clear c0 c1
        refine N.out.mono ?_
        rintro e w10 ⟨AF, cF, rfl, hown, hbn⟩
        have XQ := XQ.out.below hbn
        have RB := RB.out.below hbn
        have XX := XX.out.below hbn
        have RC := RC.out.below hbn
        have RD := RD.out.below hbn
        have RE := RE.out.below hbn
        have XY := XY.out.below hbn
        have RF := Arg.own hown
        have B := B.out.trans (hbn.mono B.out.size)
        have XQ := Lib.hid XQ
        have RB := Lib.hid RB
        have XX := Lib.hid XX
        have RC := Lib.hid RC
        have RD := Lib.hid RD
        have RE := Lib.hid RE
        have XY := Lib.hid XY
        have RF := Lib.hid RF
        have B := Lib.hid B
        obtain ⟨c0, c1⟩ := XX.out.cells
        clear hown hbn N
        go_wp2_with fail
        have N := Lib.hid (H6.out AX S.length cX AX' K.length dX w10 XX.out.dsk)
        clear c0 c1
        refine N.out.mono ?_
        rintro e w11 ⟨rfl, hbn⟩
        have XQ := XQ.out.below hbn
        have RB := RB.out.below hbn
        have XX := XX.out.below hbn
        have RC := RC.out.below hbn
        have RD := RD.out.below hbn
        have RE := RE.out.below hbn
        have XY := XY.out.below hbn
        have RF := RF.out.below hbn
        have B := B.out.trans (hbn.mono B.out.size)
        have XQ := Lib.hid XQ
        have RB := Lib.hid RB
        have XX := Lib.hid XX
        have RC := Lib.hid RC
        have RD := Lib.hid RD
        have RE := Lib.hid RE
        have XY := Lib.hid XY
        have RF := Lib.hid RF
        have B := Lib.hid B
        obtain ⟨c0, c1⟩ := XY.out.cells
        clear hbn N
        skip
        have e0 := str_arg RB.out
        have e1 := str_arg RC.out
        have e2 := str_arg RD.out
        have e3 := str_arg RE.out
        have e4 := str_arg RF.out
        by_cases ho : other = at_
        · subst ho
          clear H7
          go_wp2
          go_ret
          exact ⟨rfl, B.out⟩
        · obtain ⟨hE, hR⟩ := H7.out ho
          subst hE hR
          clear H7
          go_wp2
          go_ret
          exact ⟨rfl, B.out⟩

end Go.Proofs.Ytajocifomjgjhaa
