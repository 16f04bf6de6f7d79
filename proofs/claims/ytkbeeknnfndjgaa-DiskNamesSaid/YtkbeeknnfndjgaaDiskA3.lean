/- Layer 5: the law's own: what a crash leaves, from what the calls do. -/
import Derived.Test.YtkbeeknnfndjgaaDiskA2
namespace Go.Proofs.Ytkbeeknnfndjgaa
open Go.RowKit
set_option linter.unusedVariables false

set_option maxRecDepth 100000 in
set_option maxHeartbeats 6400000 in
theorem leaves_of (P : DskDoes) {F b : List Int} (hF : ∀ z ∈ F, isByte z) (hl : F.length ≤ 200) (h : (rdE (crS twoS twoC F) [] 1 = 0 ∧ rdB (crS twoS twoC F) [] 1 = b) ∨ (rdE (crS twoS twoC F) [] 1 = 50 ∧ b = [])) (A : Option Addr) (n c : Nat) (B : Option Addr) (m d : Nat) (w : World) (ha : Arg w .u8 A n c F) (hb : Arg w .u8 B m d b) :
    Calls Try.prog 20 #[.slice A n c, .slice B m d] w fun e w' => e = .returned (.bool true) ∧ Below w.heap.size w w' := by
  have hsm : SmallD twoS twoC := few_small (by kernel_rfl)
  have SI := Lib.hid (cr_small hsm F)
  have SM := Lib.hid hsm
  have HC : chkD twoS twoC = 0 := by kernel_rfl
  obtain ⟨I, hI⟩ : ∃ I, I = crS twoS twoC F := ⟨_, rfl⟩
  rw [← hI] at h SI
  have HC := Lib.hid HC
  have HI := Lib.hid hI.symm
  have PP := Lib.hid P
  have HF := Lib.hid hF
  have HL := Lib.hid hl
  have N := Lib.hid (two_of P w)
  have RA := Lib.hid ha
  have RB := Lib.hid hb
  have hbl := hb.len
  have hbc := Nat.le_trans hb.cap hb.max
  unfold maxLen at hbc
  clear hsm hI P hF hl ha hb
  rcases h with ⟨hE, hR⟩ | ⟨hE, hR⟩
  · have HE := Lib.hid hE
    have HR := Lib.hid hR
    have hst : ((strOfNums b).toList == (strOfNums b).toList) = true := beq_self_eq_true _
    have HST := Lib.hid hst
    clear hE hR hst hbl
    go_enter Try.func20, Try.ntmps20
    go_wp2_with fail
    refine N.out.mono ?_
    rintro e w1 ⟨A1, c1, A1', c1', rfl, hown, hb1⟩
    have hb2 := hb1.alloc hb1.size (.cells #[.slice A1 2 c1, .slice A1' 2 c1'] 25)
    have x := DBox.new (Dsk.of_own hown)
    have ra := RA.out.below hb2
    have RB := Lib.hid (RB.out.below hb2)
    have BW := Lib.hid hb2
    have M := Lib.hid (PP.out.crash A1 2 c1 A1' 2 c1' twoS twoC A n c F (w1.alloc (.cells #[.slice A1 2 c1, .slice A1' 2 c1'] 25)) x.dsk SM.out ra HF.out HL.out)
    obtain ⟨c0, c01⟩ := x.cells
    clear N hb2 hb1 hown ra x RA
    go_wp2_with fail
    refine M.out.mono ?_
    intro e w2 hout
    obtain ⟨A2, c2, A2', c2', rfl, hown, hb1⟩ := hout.is (S' := I) (C' := []) (E' := 0) (n := I.length) (n' := 0) HI.out rfl HC.out rfl rfl
    have hb2 := hb1.alloc hb1.size (.cells #[.slice A2 I.length c2, .slice A2' 0 c2'] 25)
    have x := DBox.new (Dsk.of_own hown)
    have RB := Lib.hid (RB.out.below hb2)
    have BW := Lib.hid (BW.out.trans (hb2.mono BW.out.size))
    have m2 := PP.out.read A2 I.length c2 A2' 0 c2' I [] 1 (w2.alloc (.cells #[.slice A2 I.length c2, .slice A2' 0 c2'] 25)) x.dsk SI.out
    rw [HR.out, HE.out] at m2
    have M := Lib.hid m2
    clear c0 c01 hout
    obtain ⟨c0, c01⟩ := x.cells
    clear hb2 hb1 hown x m2
    go_wp2_with fail
    refine M.out.mono ?_
    rintro e w3 ⟨A3, c3, rfl, hown, hb1⟩
    have BW := Lib.hid (BW.out.trans (hb1.mono BW.out.size))
    have RB := RB.out.below hb1
    have k1 := str_arg (Arg.own hown)
    have k2 := str_arg RB
    have hst := HST.out
    clear hb1 hown RB M c0 c01
    go_wp2
    go_ret
    exact ⟨rfl, BW.out⟩
  · have HE := Lib.hid hE
    subst hR
    obtain rfl : m = 0 := by rw [← hbl]; rfl
    obtain ⟨R, hR⟩ : ∃ R, R = rdB I [] 1 := ⟨_, rfl⟩
    have HR := Lib.hid hR.symm
    clear hE hR hbl
    go_enter Try.func20, Try.ntmps20
    go_wp2_with fail
    refine N.out.mono ?_
    rintro e w1 ⟨A1, c1, A1', c1', rfl, hown, hb1⟩
    have hb2 := hb1.alloc hb1.size (.cells #[.slice A1 2 c1, .slice A1' 2 c1'] 25)
    have x := DBox.new (Dsk.of_own hown)
    have ra := RA.out.below hb2
    have RB := Lib.hid (RB.out.below hb2)
    have BW := Lib.hid hb2
    have M := Lib.hid (PP.out.crash A1 2 c1 A1' 2 c1' twoS twoC A n c F (w1.alloc (.cells #[.slice A1 2 c1, .slice A1' 2 c1'] 25)) x.dsk SM.out ra HF.out HL.out)
    obtain ⟨c0, c01⟩ := x.cells
    clear N hb2 hb1 hown ra x RA
    go_wp2_with fail
    refine M.out.mono ?_
    intro e w2 hout
    obtain ⟨A2, c2, A2', c2', rfl, hown, hb1⟩ := hout.is (S' := I) (C' := []) (E' := 0) (n := I.length) (n' := 0) HI.out rfl HC.out rfl rfl
    have hb2 := hb1.alloc hb1.size (.cells #[.slice A2 I.length c2, .slice A2' 0 c2'] 25)
    have x := DBox.new (Dsk.of_own hown)
    have RB := Lib.hid (RB.out.below hb2)
    have BW := Lib.hid (BW.out.trans (hb2.mono BW.out.size))
    have m2 := PP.out.read A2 I.length c2 A2' 0 c2' I [] 1 (w2.alloc (.cells #[.slice A2 I.length c2, .slice A2' 0 c2'] 25)) x.dsk SI.out
    rw [HR.out, HE.out] at m2
    have M := Lib.hid m2
    clear c0 c01 hout
    obtain ⟨c0, c01⟩ := x.cells
    clear hb2 hb1 hown x m2
    go_wp2_with fail
    refine M.out.mono ?_
    rintro e w3 ⟨A3, c3, rfl, hown, hb1⟩
    have BW := Lib.hid (BW.out.trans (hb1.mono BW.out.size))
    have RB := RB.out.below hb1
    clear hb1 hown RB M c0 c01
    go_wp2
    go_ret
    exact ⟨rfl, BW.out⟩

end Go.Proofs.Ytkbeeknnfndjgaa
