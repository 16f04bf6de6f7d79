/- Layer 5, DiskCrash: the walk: behind a crash each sector is as it was, or as one of its writes left it, or bad. -/
import Derived.Test.YtkbeeknnfndjgaaDiskFlow
import Derived.Test.YtkbeeknnfndjgaaDiskA4
import Derived.Deep.Cut
import Derived.Deep.CutRange
namespace Go.Proofs.Ytkbeeknnfndjgaa
open Go.RowKit
set_option linter.unusedVariables false

theorem flush_still (S : List Sec) (C : List Pnd) (F : List Int) : crS (flS S C) [] F = flS S C ∧ chkD (flS S C) [] = chkD S C := by
  by_cases h : mayD S C = true
  · have hm := (cr_may h (List.replicate C.length 1)).1
    refine ⟨cr_none hm F, ?_⟩
    unfold chkD
    rw [if_pos h]
    exact if_pos hm
  · have hf : flS S C = [] := by unfold flS crS; rw [if_neg h]
    rw [hf]
    refine ⟨rfl, ?_⟩
    unfold chkD
    rw [if_neg h]
    rfl
/-- What DiskCrash asks of the calls. -/
theorem crash_all (P : DskDoes) {S : List Sec} {C : List Pnd} (hs : SmallD S C) {F : List Int} (hF : ∀ z ∈ F, isByte z) (hl : F.length ≤ 200) (at_ : Int) : ∃ (I Y : List Sec) (E H : Int) (V : Bool),
    (∀ A n c A' n' c' Af nf cf w, Dsk w A n c A' n' c' S C → Arg w .u8 Af nf cf F → Calls Try.prog 32 #[diskV A n c A' n' c', .slice Af nf cf] w (DiskOut w I [] E)) ∧
    (∀ A n c A' n' c' w, Dsk w A n c A' n' c' S C → Calls Try.prog 30 #[diskV A n c A' n' c'] w (DiskOut w Y [] E)) ∧
    (∀ A n c A' n' c' Af nf cf w, Dsk w A n c A' n' c' Y [] → Arg w .u8 Af nf cf F → Calls Try.prog 32 #[diskV A n c A' n' c', .slice Af nf cf] w (DiskOut w Y [] E)) ∧
    (∀ A n c A' n' c' w, Dsk w A n c A' n' c' S C → Calls Try.prog 18 #[diskV A n c A' n' c', .int .i64 at_] w fun e w' => e = .returned (.tuple #[.bool V, .int .i64 H]) ∧ Below w.heap.size w w') ∧
    ((E ≠ 0 ∧ I = []) ∨ (E = 0 ∧ H ≠ 0) ∨ ∃ a : Nat, at_ = a ∧ E = 0 ∧ H = 0 ∧ a < S.length ∧ I.length = S.length ∧
      (∀ A n c A' n' c' w, Dsk w A n c A' n' c' I [] → Calls Try.prog 21 #[diskV A n c A' n' c'] w fun e w' => e = .returned (.int .i64 0) ∧ Below w.heap.size w w') ∧
      (I.getD a (false, []) = S.getD a (false, []) ∨ (V = true ∧ (I.getD a (false, [])).1 = true) ∨ (V = true ∧ ∃ j, j < C.length ∧ (C.getD j (0, [])).1 = a ∧ I.getD a (false, []) = (false, (C.getD j (0, [])).2)))) := by
  refine ⟨crS S C F, flS S C, chkD S C, askE S C at_, waB S C at_, fun A n c A' n' c' Af nf cf w h h2 => P.crash A n c A' n' c' S C Af nf cf F w h hs h2 hF hl, fun A n c A' n' c' w h => P.flush A n c A' n' c' S C w h hs, fun A n c A' n' c' Af nf cf w h h2 => ?_, fun A n c A' n' c' w h => P.waits A n c A' n' c' S C at_ w h hs, ?_⟩
  · have := P.crash A n c A' n' c' _ _ Af nf cf F w h (cr_small hs _) h2 hF hl
    obtain ⟨f1, f2⟩ := flush_still S C F
    rwa [f1, f2] at this
  · by_cases hm : mayD S C = true
    · right
      have hE : chkD S C = 0 := by unfold chkD; rw [if_pos hm]
      have hA := ask_may hm at_
      by_cases hb : at_ < 0 ∨ (S.length : Int) ≤ at_
      · left
        rw [if_pos hb] at hA
        exact ⟨hE, by rw [hA]; decide⟩
      · right
        rw [if_neg hb] at hA
        obtain ⟨a, rfl⟩ : ∃ a : Nat, at_ = a := ⟨at_.toNat, by omega⟩
        obtain ⟨hcm, hcl⟩ := cr_may hm F
        refine ⟨a, rfl, hE, hA, by omega, hcl, fun A n c A' n' c' w h => ?_, ?_⟩
        · have := P.check A n c A' n' c' _ _ w h (cr_small hs _)
          rwa [show chkD (crS S C F) [] = 0 by unfold chkD; rw [if_pos hcm]] at this
        · have hV : waB S C a = pendB C a := by unfold waB; rw [if_pos hA]
          have hx := crash_at hm F (show (0 : Int) ≤ (a : Int) by omega) (min C.length F.length) (Nat.min_le_left _ _)
          have hI : crS S C F = behindK S C F (min C.length F.length) := by unfold crS behindS; rw [if_pos hm]
          rw [← hI] at hx
          unfold secAt at hx
          rw [Int.toNat_natCast] at hx
          rw [hV]
          rcases hx with h | ⟨h1, h2⟩ | ⟨j, h1, h2, h3⟩
          · exact .inl h
          · exact .inr (.inl ⟨h2, h1⟩)
          · exact .inr (.inr ⟨pend_hit h1 h2, j, h1, h2, h3⟩)
    · left
      refine ⟨by unfold chkD; rw [if_neg hm]; decide, ?_⟩
      unfold crS
      rw [if_neg hm]

theorem two_boxes (w : World) (t : TypeId) (xs ys : List Value) : Blk ((w.alloc (.cells xs.toArray t)).alloc (.cells ys.toArray t)).drew w.heap.size t xs ∧ Blk ((w.alloc (.cells xs.toArray t)).alloc (.cells ys.toArray t)).drew (w.heap.size + 1) t ys ∧ Below w.heap.size w ((w.alloc (.cells xs.toArray t)).alloc (.cells ys.toArray t)).drew := by
  have h1 := Blk.new w t xs
  have h2 := Blk.new (w.alloc (.cells xs.toArray t)) t ys
  rw [World.size_alloc] at h2
  have hb : Below (w.alloc (.cells xs.toArray t)).heap.size (w.alloc (.cells xs.toArray t)) ((w.alloc (.cells xs.toArray t)).alloc (.cells ys.toArray t)).drew := below_drewN ((Below.refl _ _).alloc (Nat.le_refl _) _) 1
  have h0 : Below w.heap.size w (w.alloc (.cells xs.toArray t)) := (Below.refl _ _).alloc (Nat.le_refl _) _
  exact ⟨h1.below hb h1.lt, h2.below (below_drewN (Below.refl _ _) 1) h2.lt, below_drewN (h0.alloc h0.size _) 1⟩

set_option maxRecDepth 100000 in
set_option maxHeartbeats 12800000 in
theorem crash_of (P : DskDoes) (a0 : Option Addr) (len0 cap0 : Nat) (b0 : Option Addr) (len1 cap1 : Nat) (S : List Sec) (C : List Pnd) (a2 : Option Addr) (len2 cap2 : Nat) (z2 : List Int) (at_ : Int) (w : World) (w0 : Dsk w a0 len0 cap0 b0 len1 cap1 S C) (w2 : IsRow .u8 w a2 len2 cap2 z2) :
    Calls Try.prog 7 #[diskV a0 len0 cap0 b0 len1 cap1, .slice a2 len2 cap2, .int .i64 at_] w fun e w' => e = .returned (.bool true) ∧ Below w.heap.size w w' := by
  have PP := Lib.hid P
  obtain ⟨b, hb, hbw⟩ := w2.arg
  have hby : ∀ z ∈ b, isByte z := fun z hz => wf_byte (hbw z hz)
  have BY8 := Lib.hid hby
  have hbel : Below w.heap.size w (w.alloc (.cells #[.slice a0 len0 cap0, .slice b0 len1 cap1] 25)) := (Below.refl _ _).alloc (Nat.le_refl _) _
  have XQ := Lib.hid (DBox.new w0)
  have RB := Lib.hid (hb.below hbel)
  have B := Lib.hid hbel
  have hsl := w0.secs.len
  have hcl := w0.pnds.len
  have hpm := Nat.le_trans w0.pnds.cap w0.pnds.max
  have gg := fun w hx => great_any a0 len0 cap0 b0 len1 cap1 S C 60 w hx
  obtain ⟨c0, c1⟩ := XQ.out.cells
  have hbl := hb.len
  have hbc := Nat.le_trans hb.cap hb.max
  unfold maxLen at hbc hpm
  clear P w0 w2 hb hbw hby hbel
  cases hg1 : greatD S C 60 with
  | true =>
    rw [hg1] at gg
    have GG := Lib.hid gg
    clear gg hg1 hbl hsl hcl
    go_enter Try.func7, Try.ntmps7
    go_wp2_with fail
    refine (alive_of PP.out _).mono ?_
    rintro e wa ⟨rfl, hb1⟩
    have B := Lib.hid (B.out.trans (hb1.mono B.out.size))
    have XQ := Lib.hid (XQ.out.below hb1)
    have RB := Lib.hid (RB.out.below hb1)
    clear hb1 c0 c1
    obtain ⟨c0, c1⟩ := XQ.out.cells
    have G1 := Lib.hid (GG.out wa XQ.out.dsk)
    go_wp2_with fail
    refine G1.out.mono ?_
    rintro e wb ⟨rfl, hb3⟩
    have B := Lib.hid (B.out.trans (hb3.mono B.out.size))
    have XQ := Lib.hid (XQ.out.below hb3)
    have RB := Lib.hid (RB.out.below hb3)
    clear hb3 c0 c1 G1 GG
    obtain ⟨c0, c1⟩ := XQ.out.cells
    go_wp2
    go_ret
    exact ⟨rfl, B.out⟩
  | false =>
    rw [hg1] at gg
    have GG := Lib.hid gg
    have SZ := Lib.hid (small_ofD (by decide) (by decide) hg1)
    clear gg hg1
    by_cases hl1 : 200 < len2
    · have hl2 : (200 : Int) < (len2 : Int) := by omega
      clear hbl hl1 hsl hcl
      go_enter Try.func7, Try.ntmps7
      go_wp2_with fail
      refine (alive_of PP.out _).mono ?_
      rintro e wa ⟨rfl, hb1⟩
      have B := Lib.hid (B.out.trans (hb1.mono B.out.size))
      have XQ := Lib.hid (XQ.out.below hb1)
      have RB := Lib.hid (RB.out.below hb1)
      clear hb1 c0 c1
      obtain ⟨c0, c1⟩ := XQ.out.cells
      have G1 := Lib.hid (GG.out wa XQ.out.dsk)
      go_wp2_with fail
      refine G1.out.mono ?_
      rintro e wb ⟨rfl, hb3⟩
      have B := Lib.hid (B.out.trans (hb3.mono B.out.size))
      have XQ := Lib.hid (XQ.out.below hb3)
      have RB := Lib.hid (RB.out.below hb3)
      clear hb3 c0 c1 G1 GG
      obtain ⟨c0, c1⟩ := XQ.out.cells
      go_wp2
      go_ret
      exact ⟨rfl, B.out⟩
    · have hl2 : ¬ (200 : Int) < (len2 : Int) := by omega
      obtain ⟨I, Y, E, H, V, hu, hf, hg, hw, hcase⟩ := crash_all PP.out SZ.out BY8.out (by rw [hbl]; omega) at_
      have HU := Lib.hid hu
      have HF := Lib.hid hf
      have HG := Lib.hid hg
      have HW := Lib.hid hw
      clear hu hf hg hw hbl hl1 hbc
      rcases hcase with ⟨hE, rfl⟩ | ⟨rfl, hH⟩ | ⟨a, rfl, rfl, rfl, haS, hIS, hck, hat⟩
      · clear hsl hcl
        go_enter Try.func7, Try.ntmps7
        go_wp2_with fail
        refine (alive_of PP.out _).mono ?_
        rintro e wa ⟨rfl, hb1⟩
        have B := Lib.hid (B.out.trans (hb1.mono B.out.size))
        have XQ := Lib.hid (XQ.out.below hb1)
        have RB := Lib.hid (RB.out.below hb1)
        clear hb1 c0 c1
        obtain ⟨c0, c1⟩ := XQ.out.cells
        have G1 := Lib.hid (GG.out wa XQ.out.dsk)
        go_wp2_with fail
        refine G1.out.mono ?_
        rintro e wb ⟨rfl, hb3⟩
        have B := Lib.hid (B.out.trans (hb3.mono B.out.size))
        have XQ := Lib.hid (XQ.out.below hb3)
        have RB := Lib.hid (RB.out.below hb3)
        clear hb3 c0 c1 G1 GG
        obtain ⟨c0, c1⟩ := XQ.out.cells
        go_wp2_with fail
        have N := Lib.hid (HU.out a0 len0 cap0 b0 len1 cap1 a2 len2 cap2 wb XQ.out.dsk RB.out)
        clear c0 c1
        refine N.out.mono ?_
        rintro e w3 ⟨AX, cX, AX', dX, rfl, hown, hbn⟩
        try simp only [List.length_nil] at hown
        have hb2 : Below wb.heap.size wb (w3.alloc (.cells #[.slice AX 0 cX, .slice AX' 0 dX] 25)) := hbn.alloc hbn.size _
        have XQ := XQ.out.below hb2
        have RB := RB.out.below hb2
        have XX := DBox.new (Dsk.of_own hown)
        have B := B.out.trans (hb2.mono B.out.size)
        have XQ := Lib.hid XQ
        have RB := Lib.hid RB
        have XX := Lib.hid XX
        have B := Lib.hid B
        obtain ⟨c0, c1⟩ := XQ.out.cells
        clear hown hbn hb2 N
        go_wp2_with fail
        obtain ⟨BX, hB⟩ : ∃ x, x = w3.heap.size := ⟨_, rfl⟩
        rw [← hB] at XX ⊢
        obtain ⟨w4, hW⟩ : ∃ x : World, x = (w3.alloc (.cells #[.slice AX 0 cX, .slice AX' 0 dX] 25)) := ⟨_, rfl⟩
        rw [← hW] at XQ RB XX B c0 c1 ⊢
        clear hB hW
        have N := Lib.hid (HF.out a0 len0 cap0 b0 len1 cap1 w4 XQ.out.dsk)
        clear c0 c1
        refine N.out.mono ?_
        rintro e w5 ⟨AY, cY, AY', dY, rfl, hown, hbn⟩
        try simp only [List.length_nil] at hown
        have hb2 : Below w4.heap.size w4 (w5.alloc (.cells #[.slice AY Y.length cY, .slice AY' 0 dY] 25)) := hbn.alloc hbn.size _
        have XQ := XQ.out.below hb2
        have RB := RB.out.below hb2
        have XX := XX.out.below hb2
        have XY := DBox.new (Dsk.of_own hown)
        have B := B.out.trans (hb2.mono B.out.size)
        have XQ := Lib.hid XQ
        have RB := Lib.hid RB
        have XX := Lib.hid XX
        have XY := Lib.hid XY
        have B := Lib.hid B
        obtain ⟨c0, c1⟩ := XY.out.cells
        clear hown hbn hb2 N
        go_wp2_with fail
        obtain ⟨BY, hB⟩ : ∃ x, x = w5.heap.size := ⟨_, rfl⟩
        rw [← hB] at XY c0 c1 ⊢
        obtain ⟨w6, hW⟩ : ∃ x : World, x = (w5.alloc (.cells #[.slice AY Y.length cY, .slice AY' 0 dY] 25)) := ⟨_, rfl⟩
        rw [← hW] at XQ RB XX XY B c0 c1 ⊢
        clear hB hW
        have N := Lib.hid (HG.out AY Y.length cY AY' 0 dY a2 len2 cap2 w6 XY.out.dsk RB.out)
        clear c0 c1
        refine N.out.mono ?_
        rintro e w7 ⟨AZ, cZ, AZ', dZ, rfl, hown, hbn⟩
        try simp only [List.length_nil] at hown
        have hb2 : Below w6.heap.size w6 (w7.alloc (.cells #[.slice AZ Y.length cZ, .slice AZ' 0 dZ] 25)) := hbn.alloc hbn.size _
        have XQ := XQ.out.below hb2
        have RB := RB.out.below hb2
        have XX := XX.out.below hb2
        have XY := XY.out.below hb2
        have XZ := DBox.new (Dsk.of_own hown)
        have B := B.out.trans (hb2.mono B.out.size)
        have XQ := Lib.hid XQ
        have RB := Lib.hid RB
        have XX := Lib.hid XX
        have XY := Lib.hid XY
        have XZ := Lib.hid XZ
        have B := Lib.hid B
        obtain ⟨c0, c1⟩ := XQ.out.cells
        clear hown hbn hb2 N
        go_wp2_with fail
        obtain ⟨BZ, hB⟩ : ∃ x, x = w7.heap.size := ⟨_, rfl⟩
        rw [← hB] at XZ ⊢
        obtain ⟨w8, hW⟩ : ∃ x : World, x = (w7.alloc (.cells #[.slice AZ Y.length cZ, .slice AZ' 0 dZ] 25)) := ⟨_, rfl⟩
        rw [← hW] at XQ RB XX XY XZ B c0 c1 ⊢
        clear hB hW
        have N := Lib.hid (HW.out a0 len0 cap0 b0 len1 cap1 w8 XQ.out.dsk)
        clear c0 c1
        refine N.out.mono ?_
        rintro e w9 ⟨rfl, hbn⟩
        have XQ := XQ.out.below hbn
        have RB := RB.out.below hbn
        have XX := XX.out.below hbn
        have XY := XY.out.below hbn
        have XZ := XZ.out.below hbn
        have B := B.out.trans (hbn.mono B.out.size)
        have XQ := Lib.hid XQ
        have RB := Lib.hid RB
        have XX := Lib.hid XX
        have XY := Lib.hid XY
        have XZ := Lib.hid XZ
        have B := Lib.hid B
        obtain ⟨c0, c1⟩ := XX.out.cells
        obtain ⟨c2, c3⟩ := XY.out.cells
        obtain ⟨c4, c5⟩ := XZ.out.cells
        obtain ⟨c6, c7⟩ := XQ.out.cells
        clear hbn N
        try simp only [List.length_nil] at c0
        go_wp2
        go_ret
        exact ⟨rfl, B.out⟩
      · clear hsl hcl
        go_enter Try.func7, Try.ntmps7
        go_wp2_with fail
        refine (alive_of PP.out _).mono ?_
        rintro e wa ⟨rfl, hb1⟩
        have B := Lib.hid (B.out.trans (hb1.mono B.out.size))
        have XQ := Lib.hid (XQ.out.below hb1)
        have RB := Lib.hid (RB.out.below hb1)
        clear hb1 c0 c1
        obtain ⟨c0, c1⟩ := XQ.out.cells
        have G1 := Lib.hid (GG.out wa XQ.out.dsk)
        go_wp2_with fail
        refine G1.out.mono ?_
        rintro e wb ⟨rfl, hb3⟩
        have B := Lib.hid (B.out.trans (hb3.mono B.out.size))
        have XQ := Lib.hid (XQ.out.below hb3)
        have RB := Lib.hid (RB.out.below hb3)
        clear hb3 c0 c1 G1 GG
        obtain ⟨c0, c1⟩ := XQ.out.cells
        go_wp2_with fail
        have N := Lib.hid (HU.out a0 len0 cap0 b0 len1 cap1 a2 len2 cap2 wb XQ.out.dsk RB.out)
        clear c0 c1
        refine N.out.mono ?_
        rintro e w3 ⟨AX, cX, AX', dX, rfl, hown, hbn⟩
        try simp only [List.length_nil] at hown
        have hb2 : Below wb.heap.size wb (w3.alloc (.cells #[.slice AX I.length cX, .slice AX' 0 dX] 25)) := hbn.alloc hbn.size _
        have XQ := XQ.out.below hb2
        have RB := RB.out.below hb2
        have XX := DBox.new (Dsk.of_own hown)
        have B := B.out.trans (hb2.mono B.out.size)
        have XQ := Lib.hid XQ
        have RB := Lib.hid RB
        have XX := Lib.hid XX
        have B := Lib.hid B
        obtain ⟨c0, c1⟩ := XQ.out.cells
        clear hown hbn hb2 N
        go_wp2_with fail
        obtain ⟨BX, hB⟩ : ∃ x, x = w3.heap.size := ⟨_, rfl⟩
        rw [← hB] at XX ⊢
        obtain ⟨w4, hW⟩ : ∃ x : World, x = (w3.alloc (.cells #[.slice AX I.length cX, .slice AX' 0 dX] 25)) := ⟨_, rfl⟩
        rw [← hW] at XQ RB XX B c0 c1 ⊢
        clear hB hW
        have N := Lib.hid (HF.out a0 len0 cap0 b0 len1 cap1 w4 XQ.out.dsk)
        clear c0 c1
        refine N.out.mono ?_
        rintro e w5 ⟨AY, cY, AY', dY, rfl, hown, hbn⟩
        try simp only [List.length_nil] at hown
        have hb2 : Below w4.heap.size w4 (w5.alloc (.cells #[.slice AY Y.length cY, .slice AY' 0 dY] 25)) := hbn.alloc hbn.size _
        have XQ := XQ.out.below hb2
        have RB := RB.out.below hb2
        have XX := XX.out.below hb2
        have XY := DBox.new (Dsk.of_own hown)
        have B := B.out.trans (hb2.mono B.out.size)
        have XQ := Lib.hid XQ
        have RB := Lib.hid RB
        have XX := Lib.hid XX
        have XY := Lib.hid XY
        have B := Lib.hid B
        obtain ⟨c0, c1⟩ := XY.out.cells
        clear hown hbn hb2 N
        go_wp2_with fail
        obtain ⟨BY, hB⟩ : ∃ x, x = w5.heap.size := ⟨_, rfl⟩
        rw [← hB] at XY c0 c1 ⊢
        obtain ⟨w6, hW⟩ : ∃ x : World, x = (w5.alloc (.cells #[.slice AY Y.length cY, .slice AY' 0 dY] 25)) := ⟨_, rfl⟩
        rw [← hW] at XQ RB XX XY B c0 c1 ⊢
        clear hB hW
        have N := Lib.hid (HG.out AY Y.length cY AY' 0 dY a2 len2 cap2 w6 XY.out.dsk RB.out)
        clear c0 c1
        refine N.out.mono ?_
        rintro e w7 ⟨AZ, cZ, AZ', dZ, rfl, hown, hbn⟩
        try simp only [List.length_nil] at hown
        have hb2 : Below w6.heap.size w6 (w7.alloc (.cells #[.slice AZ Y.length cZ, .slice AZ' 0 dZ] 25)) := hbn.alloc hbn.size _
        have XQ := XQ.out.below hb2
        have RB := RB.out.below hb2
        have XX := XX.out.below hb2
        have XY := XY.out.below hb2
        have XZ := DBox.new (Dsk.of_own hown)
        have B := B.out.trans (hb2.mono B.out.size)
        have XQ := Lib.hid XQ
        have RB := Lib.hid RB
        have XX := Lib.hid XX
        have XY := Lib.hid XY
        have XZ := Lib.hid XZ
        have B := Lib.hid B
        obtain ⟨c0, c1⟩ := XQ.out.cells
        clear hown hbn hb2 N
        go_wp2_with fail
        obtain ⟨BZ, hB⟩ : ∃ x, x = w7.heap.size := ⟨_, rfl⟩
        rw [← hB] at XZ ⊢
        obtain ⟨w8, hW⟩ : ∃ x : World, x = (w7.alloc (.cells #[.slice AZ Y.length cZ, .slice AZ' 0 dZ] 25)) := ⟨_, rfl⟩
        rw [← hW] at XQ RB XX XY XZ B c0 c1 ⊢
        clear hB hW
        have N := Lib.hid (HW.out a0 len0 cap0 b0 len1 cap1 w8 XQ.out.dsk)
        clear c0 c1
        refine N.out.mono ?_
        rintro e w9 ⟨rfl, hbn⟩
        have XQ := XQ.out.below hbn
        have RB := RB.out.below hbn
        have XX := XX.out.below hbn
        have XY := XY.out.below hbn
        have XZ := XZ.out.below hbn
        have B := B.out.trans (hbn.mono B.out.size)
        have XQ := Lib.hid XQ
        have RB := Lib.hid RB
        have XX := Lib.hid XX
        have XY := Lib.hid XY
        have XZ := Lib.hid XZ
        have B := Lib.hid B
        obtain ⟨c0, c1⟩ := XX.out.cells
        obtain ⟨c2, c3⟩ := XY.out.cells
        obtain ⟨c4, c5⟩ := XZ.out.cells
        obtain ⟨c6, c7⟩ := XQ.out.cells
        clear hbn N
        go_wp2
        go_ret
        exact ⟨rfl, B.out⟩
      · have HCK := Lib.hid hck
        have HAT := Lib.hid hat
        have hal : (a : Int) < (len0 : Int) := by omega
        have ha0 : ¬ (a : Int) < 0 := by omega
        have hal2 : a < len0 := by omega
        have HIL := Lib.hid (show I.length = len0 by omega)
        have HCL := Lib.hid hcl
        have HPM := Lib.hid hpm
        clear hck hat haS hIS hsl hcl hpm
        go_enter Try.func7, Try.ntmps7
        go_wp2_with fail
        refine (alive_of PP.out _).mono ?_
        rintro e wa ⟨rfl, hb1⟩
        have B := Lib.hid (B.out.trans (hb1.mono B.out.size))
        have XQ := Lib.hid (XQ.out.below hb1)
        have RB := Lib.hid (RB.out.below hb1)
        clear hb1 c0 c1
        obtain ⟨c0, c1⟩ := XQ.out.cells
        have G1 := Lib.hid (GG.out wa XQ.out.dsk)
        go_wp2_with fail
        refine G1.out.mono ?_
        rintro e wb ⟨rfl, hb3⟩
        have B := Lib.hid (B.out.trans (hb3.mono B.out.size))
        have XQ := Lib.hid (XQ.out.below hb3)
        have RB := Lib.hid (RB.out.below hb3)
        clear hb3 c0 c1 G1 GG
        obtain ⟨c0, c1⟩ := XQ.out.cells
        go_wp2_with fail
        have N := Lib.hid (HU.out a0 len0 cap0 b0 len1 cap1 a2 len2 cap2 wb XQ.out.dsk RB.out)
        clear c0 c1
        refine N.out.mono ?_
        rintro e w3 ⟨AX, cX, AX', dX, rfl, hown, hbn⟩
        try simp only [List.length_nil] at hown
        have hb2 : Below wb.heap.size wb (w3.alloc (.cells #[.slice AX I.length cX, .slice AX' 0 dX] 25)) := hbn.alloc hbn.size _
        have XQ := XQ.out.below hb2
        have RB := RB.out.below hb2
        have XX := DBox.new (Dsk.of_own hown)
        have B := B.out.trans (hb2.mono B.out.size)
        have XQ := Lib.hid XQ
        have RB := Lib.hid RB
        have XX := Lib.hid XX
        have B := Lib.hid B
        obtain ⟨c0, c1⟩ := XQ.out.cells
        clear hown hbn hb2 N
        go_wp2_with fail
        obtain ⟨BX, hB⟩ : ∃ x, x = w3.heap.size := ⟨_, rfl⟩
        rw [← hB] at XX ⊢
        obtain ⟨w4, hW⟩ : ∃ x : World, x = (w3.alloc (.cells #[.slice AX I.length cX, .slice AX' 0 dX] 25)) := ⟨_, rfl⟩
        rw [← hW] at XQ RB XX B c0 c1 ⊢
        clear hB hW
        have N := Lib.hid (HF.out a0 len0 cap0 b0 len1 cap1 w4 XQ.out.dsk)
        clear c0 c1
        refine N.out.mono ?_
        rintro e w5 ⟨AY, cY, AY', dY, rfl, hown, hbn⟩
        try simp only [List.length_nil] at hown
        have hb2 : Below w4.heap.size w4 (w5.alloc (.cells #[.slice AY Y.length cY, .slice AY' 0 dY] 25)) := hbn.alloc hbn.size _
        have XQ := XQ.out.below hb2
        have RB := RB.out.below hb2
        have XX := XX.out.below hb2
        have XY := DBox.new (Dsk.of_own hown)
        have B := B.out.trans (hb2.mono B.out.size)
        have XQ := Lib.hid XQ
        have RB := Lib.hid RB
        have XX := Lib.hid XX
        have XY := Lib.hid XY
        have B := Lib.hid B
        obtain ⟨c0, c1⟩ := XY.out.cells
        clear hown hbn hb2 N
        go_wp2_with fail
        obtain ⟨BY, hB⟩ : ∃ x, x = w5.heap.size := ⟨_, rfl⟩
        rw [← hB] at XY c0 c1 ⊢
        obtain ⟨w6, hW⟩ : ∃ x : World, x = (w5.alloc (.cells #[.slice AY Y.length cY, .slice AY' 0 dY] 25)) := ⟨_, rfl⟩
        rw [← hW] at XQ RB XX XY B c0 c1 ⊢
        clear hB hW
        have N := Lib.hid (HG.out AY Y.length cY AY' 0 dY a2 len2 cap2 w6 XY.out.dsk RB.out)
        clear c0 c1
        refine N.out.mono ?_
        rintro e w7 ⟨AZ, cZ, AZ', dZ, rfl, hown, hbn⟩
        try simp only [List.length_nil] at hown
        have hb2 : Below w6.heap.size w6 (w7.alloc (.cells #[.slice AZ Y.length cZ, .slice AZ' 0 dZ] 25)) := hbn.alloc hbn.size _
        have XQ := XQ.out.below hb2
        have RB := RB.out.below hb2
        have XX := XX.out.below hb2
        have XY := XY.out.below hb2
        have XZ := DBox.new (Dsk.of_own hown)
        have B := B.out.trans (hb2.mono B.out.size)
        have XQ := Lib.hid XQ
        have RB := Lib.hid RB
        have XX := Lib.hid XX
        have XY := Lib.hid XY
        have XZ := Lib.hid XZ
        have B := Lib.hid B
        obtain ⟨c0, c1⟩ := XQ.out.cells
        clear hown hbn hb2 N
        go_wp2_with fail
        obtain ⟨BZ, hB⟩ : ∃ x, x = w7.heap.size := ⟨_, rfl⟩
        rw [← hB] at XZ ⊢
        obtain ⟨w8, hW⟩ : ∃ x : World, x = (w7.alloc (.cells #[.slice AZ Y.length cZ, .slice AZ' 0 dZ] 25)) := ⟨_, rfl⟩
        rw [← hW] at XQ RB XX XY XZ B c0 c1 ⊢
        clear hB hW
        have N := Lib.hid (HW.out a0 len0 cap0 b0 len1 cap1 w8 XQ.out.dsk)
        clear c0 c1
        refine N.out.mono ?_
        rintro e w9 ⟨rfl, hbn⟩
        have XQ := XQ.out.below hbn
        have RB := RB.out.below hbn
        have XX := XX.out.below hbn
        have XY := XY.out.below hbn
        have XZ := XZ.out.below hbn
        have B := B.out.trans (hbn.mono B.out.size)
        have XQ := Lib.hid XQ
        have RB := Lib.hid RB
        have XX := Lib.hid XX
        have XY := Lib.hid XY
        have XZ := Lib.hid XZ
        have B := Lib.hid B
        obtain ⟨c0, c1⟩ := XX.out.cells
        obtain ⟨c2, c3⟩ := XY.out.cells
        obtain ⟨c4, c5⟩ := XZ.out.cells
        obtain ⟨c6, c7⟩ := XQ.out.cells
        clear hbn N
        have hil := HIL.out
        rw [hil] at XX c0
        clear hil
        go_wp2_with fail
        have N := Lib.hid (same_yes _ _ _ _ _ _ _ _ _ _ _ _ _ _ w9 XY.out.dsk XZ.out.dsk)
        refine N.out.mono ?_
        rintro e wS ⟨rfl, hbn⟩
        have XQ := XQ.out.below hbn
        have XX := XX.out.below hbn
        have B := B.out.trans (hbn.mono B.out.size)
        have XQ := Lib.hid XQ
        have XX := Lib.hid XX
        have B := Lib.hid B
        clear c0 c1 c2 c3 c4 c5 c6 c7 hbn N XY XZ RB
        obtain ⟨c0, c1⟩ := XX.out.cells
        obtain ⟨c2, c3⟩ := XQ.out.cells
        obtain ⟨bi, oi, Ai, ni, ci, eA, hlt, hci, hxi, hai⟩ := XX.out.dsk.secs.at_ a hal2
        obtain ⟨bj, oj, Aj, nj, cj, eB, hltj, hcj, hxj, haj⟩ := XQ.out.dsk.secs.at_ a hal2
        rw [eA] at c0
        rw [eB] at c2
        clear eA eB
        have hbi := XX.out.dsk.secs.byte_at a
        have hbj := XQ.out.dsk.secs.byte_at a
        have hat := HAT.out
        obtain ⟨si, hsi⟩ : ∃ x, x = I.getD a (false, []) := ⟨_, rfl⟩
        obtain ⟨sj, hsj⟩ : ∃ x, x = S.getD a (false, []) := ⟨_, rfl⟩
        rw [← hsi] at hxi hai hbi hat
        rw [← hsj] at hxj haj hbj hat
        obtain ⟨nb, Ti⟩ := si
        obtain ⟨sb, Tj⟩ := sj
        dsimp only at hxi hai hbi hxj haj hbj
        have HAI := Lib.hid hai
        have HAJ := Lib.hid haj
        have HT := Lib.hid hat
        have BI := Lib.hid hbi
        have BJ := Lib.hid hbj
        clear hai haj hat hbi hbj hsi hsj HAT
        go_upto_region 12 with fail
        have hlq : w.heap.size < wS.heap.size := XQ.out.lt
        have hlx : BX < wS.heap.size := XX.out.lt
        have hBS : Below wS.heap.size wS wS := Below.refl _ _
        go_cut [16, 17] from 78 to 125 (fun x y wx => ∃ g h : Nat, x = .pointer (some ⟨g, 0, none⟩) ∧ y = .pointer (some ⟨h, 0, none⟩) ∧ Blk wx g 39 [.slice Ai ni ci, .bool nb] ∧ Blk wx h 39 [.slice Aj nj cj, .bool sb] ∧ Below wS.heap.size wS wx)
        case first =>
          clear HCK HT HU HF HG HW BI BJ HAI HAJ HIL HCL HPM B SZ PP
          go_region
          all_goals (go_wp2_with fail; go_meet)
          all_goals (first | exact ⟨_, _, rfl, rfl, (two_boxes wS 39 [.slice Ai ni ci, .bool nb] [.slice Aj nj cj, .bool sb]).1, (two_boxes wS 39 [.slice Ai ni ci, .bool nb] [.slice Aj nj cj, .bool sb]).2⟩ | exact ⟨_, _, rfl, rfl, (two_boxes wS 39 [.slice Aj nj cj, .bool sb] [.slice Ai ni ci, .bool nb]).2.1, (two_boxes wS 39 [.slice Aj nj cj, .bool sb] [.slice Ai ni ci, .bool nb]).1, (two_boxes wS 39 [.slice Aj nj cj, .bool sb] [.slice Ai ni ci, .bool nb]).2.2⟩)
        case rest =>
          obtain ⟨g, h, rfl, rfl, hg, hh, hb⟩ := hcut
          have B := Lib.hid (B.out.trans (hb.mono B.out.size))
          have XQ := Lib.hid (XQ.out.below hb)
          have XX := Lib.hid (XX.out.below hb)
          have AI := Lib.hid (HAI.out.below hb)
          have e1 := str_arg (HAI.out.below hb)
          have e2 := str_arg (HAJ.out.below hb)
          have i0 := hg.cell 0
          have i1 := hg.cell 1
          have j0 := hh.cell 0
          have j1 := hh.cell 1
          simp only [List.getElem?_cons_zero, List.getElem?_cons_succ] at i0 i1 j0 j1
          have G := Lib.hid hg
          have hse := strs_eq BI.out BJ.out
          clear hg hh hb c0 c1 c2 c3 hci hxi hcj hxj hBS hlq hlx hlt hltj HAI HAJ HU HF HG HW HIL RB
          cases V with
          | false =>
            have ht : ((nb, Ti) : Sec) = (sb, Tj) := by rcases HT.out with h | ⟨h, _⟩ | ⟨h, _⟩; exact h; cases h; cases h
            cases ht
            have hse2 : ((strOfNums Ti).toList == (strOfNums Ti).toList) = true := beq_self_eq_true _
            clear hse HT
            cases nb with
            | true => go_wp2; go_ret; exact ⟨rfl, B.out⟩
            | false => go_wp2; go_ret; exact ⟨rfl, B.out⟩
          | true =>
            have HSE := Lib.hid hse
            clear hse
            go_upto_region 13 with fail
            go_cut [18] from 126 to 139 (fun r wx => r = .bool (decide (nb = sb ∧ Ti = Tj)) ∧ wx = wc)
            case first =>
              have hse := HSE.out
              by_cases ht : Ti = Tj
              · have hse2 : ((strOfNums Ti).toList == (strOfNums Tj).toList) = true := hse.trans (decide_eq_true ht)
                clear hse HSE
                cases nb <;> cases sb <;> (go_wp2_with fail; go_meet; exact ⟨by simp [ht], rfl⟩)
              · have hse2 : ((strOfNums Ti).toList == (strOfNums Tj).toList) = false := hse.trans (decide_eq_false ht)
                clear hse HSE
                cases nb <;> cases sb <;> (go_wp2_with fail; go_meet; exact ⟨by simp [ht], rfl⟩)
            case rest =>
              obtain ⟨rfl, rfl⟩ := hcut
              obtain ⟨rr, hrr⟩ : ∃ x, x = decide (nb = sb ∧ Ti = Tj) := ⟨_, rfl⟩
              rw [← hrr]
              have HRR := Lib.hid hrr
              clear hrr HSE e2 j0 j1
              go_upto_region 16 with fail
              go_cut [18] from 146 to 150 (fun r wx => r = .bool (rr || nb) ∧ wx = wc)
              case first => cases rr <;> cases nb <;> (go_wp2_with fail; go_meet; exact ⟨rfl, rfl⟩)
              case rest =>
                obtain ⟨rfl, rfl⟩ := hcut
                have hK1 : nb = true ∨ (nb = sb ∧ Ti = Tj) → (rr || nb) = true := fun hk => by rcases hk with rfl | hk; exact Bool.or_true _; rw [HRR.out, decide_eq_true hk, Bool.true_or]
                obtain ⟨r0, hr0⟩ : ∃ x, x = (rr || nb) := ⟨_, rfl⟩
                rw [← hr0] at hK1 ⊢
                have K1 := Lib.hid hK1
                clear hK1 hr0 HRR
                go_wp2
                go_loopw [18, 19] (fun x i wr => ∃ (r : Bool) (k : Nat), x = .bool r ∧ i = .int .i64 k ∧ k ≤ len1 ∧ (nb = true ∨ (nb = sb ∧ Ti = Tj) → r = true) ∧ (∀ j, j < k → (C.getD j (0, [])).1 = (a : Int) ∧ nb = false ∧ Ti = (C.getD j (0, [])).2 → r = true) ∧ Below wc.heap.size wc wr) (fun _ i _ => len1 - (intOf i).toNat)
                case atStart => exact ⟨r0, 0, rfl, rfl, Nat.zero_le _, K1.out, fun j h => absurd h (Nat.not_lt_zero _), Below.refl _ _⟩
                case round =>
                  obtain ⟨r, k, rfl, rfl, hk, hK, hJ, hD⟩ := hrel
                  have hpm := HPM.out
                  have xq := XQ.out.below hD
                  obtain ⟨c2, c3⟩ := xq.cells
                  clear i0 i1 e1
                  have BD := Lib.hid hD
                  by_cases hkl : k < len1
                  · have hki : (k : Int) < (len1 : Int) := by omega
                    obtain ⟨bk, ok, Ak, nk, ck, eC, hltk, hck, hxk, hak⟩ := xq.dsk.pnds.at_ k hkl
                    have hbk := xq.dsk.pnds.byte_at k
                    have FIN := Lib.hid (show ∀ r2 : Bool, (r = true → r2 = true) → ((C.getD k (0, [])).1 = (a : Int) ∧ nb = false ∧ Ti = (C.getD k (0, [])).2 → r2 = true) → (nb = true ∨ (nb = sb ∧ Ti = Tj) → r2 = true) ∧ ∀ j, j < k + 1 → (C.getD j (0, [])).1 = (a : Int) ∧ nb = false ∧ Ti = (C.getD j (0, [])).2 → r2 = true from fun r2 h1 h2 => ⟨fun h => h1 (hK h), fun j hj hh => by rcases Nat.lt_or_ge j k with h | h; (exact h1 (hJ j h hh)); (have e : j = k := Nat.le_antisymm (Nat.le_of_lt_succ hj) h; subst e; exact h2 hh)⟩)
                    obtain ⟨el, hel⟩ : ∃ x, x = C.getD k (0, []) := ⟨_, rfl⟩
                    rw [← hel] at hxk hak hbk FIN
                    obtain ⟨pa, Tk⟩ := el
                    dsimp only at hxk hak hbk
                    have g2 := G.out.below hD G.out.lt
                    have i0 := g2.cell 0
                    have i1 := g2.cell 1
                    simp only [List.getElem?_cons_zero, List.getElem?_cons_succ] at i0 i1
                    have e1 := fun q => str_arg (AI.out.below (below_drewN hD q))
                    have e3 := fun q => str_arg (hak.below (below_drewN (Below.refl wr.heap.size wr) q))
                    have hse := strs_eq BI.out hbk
                    rw [eC] at c3
                    clear hel xq hK hJ hD g2 eC hak hbk
                    cases r with
                    | true =>
                      clear hse
                      go_wp2
                      go_quiet (fail)
                      go_wp2
                      go_roundw
                      case rel => exact ⟨true, k + 1, rfl, by go_num, by omega, (FIN.out true (fun _ => rfl) (fun _ => rfl)).1, (FIN.out true (fun _ => rfl) (fun _ => rfl)).2, below_drewN BD.out _⟩
                      all_goals (try case measure => simp [intOf]; omega)
                    | false =>
                      by_cases hpa : pa = (a : Int)
                      · have hpd : decide (pa = (a : Int)) = true := decide_eq_true hpa
                        subst hpa
                        cases nb with
                        | true =>
                          clear hse
                          go_wp2
                          go_quiet (fail)
                          go_wp2
                          go_roundw
                          case rel => exact ⟨false, k + 1, rfl, by go_num, by omega, (FIN.out false (fun h => h) (fun h => by cases h.2.1)).1, (FIN.out false (fun h => h) (fun h => by cases h.2.1)).2, below_drewN BD.out _⟩
                          all_goals (try case measure => simp [intOf]; omega)
                        | false =>
                          by_cases ht : Ti = Tk
                          · have hse2 : ((strOfNums Ti).toList == (strOfNums Tk).toList) = true := hse.trans (decide_eq_true ht)
                            clear hse ht
                            go_wp2
                            go_quiet (fail)
                            go_wp2
                            go_roundw
                            case rel => exact ⟨true, k + 1, rfl, by go_num, by omega, (FIN.out true (fun _ => rfl) (fun _ => rfl)).1, (FIN.out true (fun _ => rfl) (fun _ => rfl)).2, below_drewN BD.out _⟩
                            all_goals (try case measure => simp [intOf]; omega)
                          · have hse2 : ((strOfNums Ti).toList == (strOfNums Tk).toList) = false := hse.trans (decide_eq_false ht)
                            have HNE := Lib.hid ht
                            clear hse ht
                            go_wp2
                            go_quiet (fail)
                            go_wp2
                            go_roundw
                            case rel => exact ⟨false, k + 1, rfl, by go_num, by omega, (FIN.out false (fun h => h) (fun h => absurd h.2.2 HNE.out)).1, (FIN.out false (fun h => h) (fun h => absurd h.2.2 HNE.out)).2, below_drewN BD.out _⟩
                            all_goals (try case measure => simp [intOf]; omega)
                      · have hpd : decide (pa = (a : Int)) = false := decide_eq_false hpa
                        have hpb : (pa == (a : Int)) = false := beq_eq_false_iff_ne.2 hpa
                        have HPA := Lib.hid hpa
                        clear hse hpa
                        go_wp2
                        go_quiet (fail)
                        go_wp2
                        go_roundw
                        case rel => exact ⟨false, k + 1, rfl, by go_num, by omega, (FIN.out false (fun h => h) (fun h => absurd h.1 HPA.out)).1, (FIN.out false (fun h => h) (fun h => absurd h.1 HPA.out)).2, below_drewN BD.out _⟩
                        all_goals (try case measure => simp [intOf]; omega)
                  · have hki : ¬ (k : Int) < (len1 : Int) := by omega
                    have hr : r = true := by
                      rcases HT.out with h | ⟨_, h⟩ | ⟨_, j, hj, h1, h2⟩
                      · exact hK (.inr (Prod.mk.inj h))
                      · exact hK (.inl h)
                      · exact hJ j (by have := HCL.out; omega) ⟨h1, (Prod.mk.inj h2).1, (Prod.mk.inj h2).2⟩
                    subst hr
                    have xx := XX.out.below hD
                    obtain ⟨c0, c1⟩ := xx.cells
                    have N := Lib.hid (HCK.out _ _ _ _ _ _ wr xx.dsk)
                    have B := Lib.hid (B.out.trans (hD.mono B.out.size))
                    clear hK hJ hD xq xx HT K1
                    go_wp2_with fail
                    refine N.out.mono ?_
                    rintro e wZ ⟨rfl, hbZ⟩
                    have B := Lib.hid (B.out.trans (hbZ.mono B.out.size))
                    clear hbZ
                    go_wp2
                    go_ret
                    exact ⟨rfl, B.out⟩

end Go.Proofs.Ytkbeeknnfndjgaa
