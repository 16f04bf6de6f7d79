/- Layer 15, FrameBack: the walk, told of what the program's calls do. -/
import Derived.Test.YtdgfofemogmmkaaFrA
namespace Go.Proofs.Ytdgfofemogmmkaa
open Go.RowKit Go.OpenShut
set_option linter.unusedVariables false
set_option maxRecDepth 100000

theorem zFr_not : ¬ mayF zFr := by decide
theorem fdE_nil : fdE [] = 10 ∧ fdV [] = zFr := by
  have e : fdE [] = 10 := by unfold fdE; rw [if_pos (by decide)]
  refine ⟨e, ?_⟩
  unfold fdV
  rw [e, if_neg (by decide)]

set_option maxHeartbeats 3200000 in
theorem fback_great (FD : FrameDoes) (a b c d : Int) (A : Option Addr) (n k : Nat) (z : List Int) (A1 : Option Addr) (n1 k1 : Nat) (t : List Int) (w : World) (h : Arg w .u8 A n k z) (hz : ∀ x ∈ z, isByte x) (va : isV a) (vb : isV b) (vc : isV c) (vd : isV d) (h1 : Arg w .u8 A1 n1 k1 t) (ht : ∀ x ∈ t, isByte x) (hg : 200 < n ∨ 200 < n1) :
    Calls Try.prog 5 #[frmV a b c d A n k, .slice A1 n1 k1] w fun e w' => e = .returned (.bool true) ∧ Below w.heap.size w w' := by
  obtain ⟨x, hbel⟩ := box_frm w a b c d A n k
  obtain ⟨w1, hw1⟩ : ∃ x : World, x = w.alloc (.cells #[.int .u32 a, .int .u32 b, .int .u32 c, .int .u32 d, .slice A n k] 25) := ⟨_, rfl⟩
  rw [← hw1] at x hbel
  have X := Lib.hid x
  have B := Lib.hid hbel
  have AL := Lib.hid (alive15_any FD w1)
  clear x hbel h hz va vb vc vd h1 ht
  by_cases g0 : (200 : Int) < (n : Int)
  · clear hg
    go_enter Try.func5, Try.ntmps5
    go_wp2_with fail
    rw [← hw1]
    clear hw1
    refine AL.out.mono ?_
    rintro e w2 ⟨rfl, hb⟩
    have B := Lib.hid (B.out.trans (hb.mono B.out.size))
    have X := Lib.hid (X.out.below hb X.out.lt)
    clear hb AL
    obtain ⟨c0, c1, c2, c3, c4⟩ := X.out.frm
    go_wp2
    go_ret
    exact ⟨rfl, B.out⟩
  · have g1 : (200 : Int) < (n1 : Int) := by omega
    clear hg
    go_enter Try.func5, Try.ntmps5
    go_wp2_with fail
    rw [← hw1]
    clear hw1
    refine AL.out.mono ?_
    rintro e w2 ⟨rfl, hb⟩
    have B := Lib.hid (B.out.trans (hb.mono B.out.size))
    have X := Lib.hid (X.out.below hb X.out.lt)
    clear hb AL
    obtain ⟨c0, c1, c2, c3, c4⟩ := X.out.frm
    go_wp2
    go_ret
    exact ⟨rfl, B.out⟩

set_option maxHeartbeats 6400000 in
theorem fback_yy (FD : FrameDoes) (a b c d : Int) (A : Option Addr) (n k : Nat) (z : List Int) (A1 : Option Addr) (n1 k1 : Nat) (t : List Int) (w : World) (h : Arg w .u8 A n k z) (hz : ∀ x ∈ z, isByte x) (va : isV a) (vb : isV b) (vc : isV c) (vd : isV d) (h1 : Arg w .u8 A1 n1 k1 t) (ht : ∀ x ∈ t, isByte x) (hn : n ≤ 200) (hn1 : n1 ≤ 200) (hm : mayF (a, b, c, d, z)) (hE : fdE t = 0) :
    Calls Try.prog 5 #[frmV a b c d A n k, .slice A1 n1 k1] w fun e w' => e = .returned (.bool true) ∧ Below w.heap.size w w' := by
  obtain ⟨x, hbel⟩ := box_frm w a b c d A n k
  obtain ⟨w1, hw1⟩ : ∃ x : World, x = w.alloc (.cells #[.int .u32 a, .int .u32 b, .int .u32 c, .int .u32 d, .slice A n k] 25) := ⟨_, rfl⟩
  rw [← hw1] at x hbel
  have X := Lib.hid x
  have B := Lib.hid hbel
  have AL := Lib.hid (alive15_any FD w1)
  have hln := h.len
  have hln1 := h1.len
  have RZ := Lib.hid (h.below hbel)
  have RT := Lib.hid (h1.below hbel)
  have g0 : ¬ (200 : Int) < (n : Int) := by omega
  have g1 : ¬ (200 : Int) < (n1 : Int) := by omega
  have WR := Lib.hid (fun wx hx => FD.write a b c d A n k z wx hx hz va vb vc vd)
  have RD := Lib.hid FD.read
  have WO := Lib.hid FD.write
  have HT := Lib.hid ht
  have HF := Lib.hid (show isF (a, b, c, d, z) from ⟨va, vb, vc, vd, hz⟩)
  rw [(frB_yes hm).1, (frB_yes hm).2] at WR
  have HL := Lib.hid (show (frT (a, b, c, d, z)).length = n + 20 by rw [frT_length]; show 20 + z.length = _; omega)
  have hfb := fr_back HF.out hm
  have TB := Lib.hid (frT_byte HF.out)
  obtain ⟨T0, hT0⟩ : ∃ y, y = frT (a, b, c, d, z) := ⟨_, rfl⟩
  rw [← hT0] at WR HL hfb TB
  have R1 := Lib.hid (fun Ax kx wx hx => FD.read Ax (n + 20) kx T0 wx hx TB.out (by omega))
  rw [hfb.1, hfb.2] at R1
  unfold FrdOut at R1
  dsimp only at R1
  rw [hln] at R1
  have SA := Lib.hid (fun A2 k2 wx (hx : Arg wx .u8 A2 n k2 z) (hy : Arg wx .u8 A n k z) => rsameF_any a b c d A2 n k2 z a b c d A n k z wx hx hy hz hz)
  rw [show decide (((a, b, c, d, z) : Fr) = (a, b, c, d, z)) = true from decide_eq_true rfl] at SA
  obtain ⟨hF2, hm2, hT2⟩ := fr_anew ht hE
  have R2 := Lib.hid (fun wx hx => FD.read A1 n1 k1 t wx hx ht (by omega))
  rw [hE] at R2
  obtain ⟨f, hf⟩ : ∃ f, f = fdV t := ⟨_, rfl⟩
  rw [← hf] at R2 hF2 hm2 hT2
  obtain ⟨f0, f1, f2, f3, f4⟩ := f
  obtain ⟨v0, v1, v2, v3, v4⟩ := hF2
  dsimp only at v0 v1 v2 v3 v4
  have W2 := Lib.hid (fun A2 k2 wx hx => FD.write f0 f1 f2 f3 A2 f4.length k2 f4 wx hx v4 v0 v1 v2 v3)
  rw [(frB_yes hm2).1, (frB_yes hm2).2, hT2] at W2
  unfold FrdOut at R2
  dsimp only at R2
  obtain ⟨m, hmm⟩ : ∃ m, m = f4.length := ⟨_, rfl⟩
  rw [← hmm] at R2 W2
  have LT := Lib.hid hln1
  obtain ⟨st, hst0⟩ : ∃ y, y = strOfNums t := ⟨_, rfl⟩
  have HST := Lib.hid hst0
  have hst : (st.toList == st.toList) = true := beq_self_eq_true _
  clear hf hm2 hT2 v0 v1 v2 v3 v4 hmm hst0
  clear x hbel h hz va vb vc vd h1 ht hm hE hln hln1 hn hn1 HF hT0 hfb
  go_enter Try.func5, Try.ntmps5
  go_wp2_with fail
  rw [← hw1]
  clear hw1
  refine AL.out.mono ?_
  rintro e w2 ⟨rfl, hb⟩
  have B := Lib.hid (B.out.trans (hb.mono B.out.size))
  have X := Lib.hid (X.out.below hb X.out.lt)
  have RZ := Lib.hid (RZ.out.below hb)
  have RT := Lib.hid (RT.out.below hb)
  clear hb AL
  obtain ⟨c0, c1, c2, c3, c4⟩ := X.out.frm
  go_wp2_with fail
  refine (WR.out _ RZ.out).mono ?_
  intro e w3 hout
  obtain ⟨A3, k3, rfl, hown, hb⟩ := hout.len rfl HL.out
  have B := Lib.hid (B.out.trans (hb.mono B.out.size))
  have X := Lib.hid (X.out.below hb X.out.lt)
  have RZ := Lib.hid (RZ.out.below hb)
  have RT := Lib.hid (RT.out.below hb)
  have RX := Lib.hid (Arg.own hown)
  clear hout hown hb WR c0 c1 c2 c3 c4
  obtain ⟨c0, c1, c2, c3, c4⟩ := X.out.frm
  go_wp2_with fail
  refine (R1.out _ _ _ RX.out).mono ?_
  rintro e w4 ⟨A4, k4, rfl, hown, hb⟩
  obtain ⟨y, hbk⟩ := box_frm w4 a b c d A4 n k4
  have hb := hb.trans (hbk.mono hb.size)
  have B := Lib.hid (B.out.trans (hb.mono B.out.size))
  have X := Lib.hid (X.out.below hb X.out.lt)
  have RZ := Lib.hid (RZ.out.below hb)
  have RT := Lib.hid (RT.out.below hb)
  have RX := Lib.hid (RX.out.below hb)
  have RG := Lib.hid ((Arg.own hown).below hbk)
  clear hown hb hbk c0 c1 c2 c3 c4 R1
  go_upto_region 6 with fail
  obtain ⟨w5, hW⟩ : ∃ x : World, x = w4.alloc (.cells #[.int .u32 a, .int .u32 b, .int .u32 c, .int .u32 d, .slice A4 n k4] 25) := ⟨_, rfl⟩
  obtain ⟨GY, hG⟩ : ∃ y, y = w4.heap.size := ⟨_, rfl⟩
  rw [← hW] at y B X RZ RT RX RG
  rw [← hG] at y ⊢
  change Code.wp _ _ _ _ (w4.alloc (.cells #[.int .u32 a, .int .u32 b, .int .u32 c, .int .u32 d, .slice A4 n k4] 25))
  rw [← hW]
  clear hW hG
  have Y := Lib.hid y
  clear y
  obtain ⟨c0, c1, c2, c3, c4⟩ := X.out.frm
  obtain ⟨d0, d1, d2, d3, d4⟩ := Y.out.frm
  go_wp2_with fail
  refine (SA.out _ _ _ RG.out RZ.out).mono ?_
  rintro e w6 ⟨rfl, hb⟩
  have B := Lib.hid (B.out.trans (hb.mono B.out.size))
  have X := Lib.hid (X.out.below hb X.out.lt)
  have RZ := Lib.hid (RZ.out.below hb)
  have RT := Lib.hid (RT.out.below hb)
  have RX := Lib.hid (RX.out.below hb)
  have RG := Lib.hid (RG.out.below hb)
  have Y := Lib.hid (Y.out.below hb Y.out.lt)
  clear hb SA c0 c1 c2 c3 c4 d0 d1 d2 d3 d4
  obtain ⟨c0, c1, c2, c3, c4⟩ := X.out.frm
  obtain ⟨d0, d1, d2, d3, d4⟩ := Y.out.frm
  go_wp2_with fail
  refine (R2.out _ RT.out).mono ?_
  rintro e w7 ⟨A7, k7, rfl, hown, hb⟩
  clear d0 d1 d2 d3 d4
  obtain ⟨y, hbk⟩ := box_frm w7 f0 f1 f2 f3 A7 m k7
  have hb := hb.trans (hbk.mono hb.size)
  have B := Lib.hid (B.out.trans (hb.mono B.out.size))
  have X := Lib.hid (X.out.below hb X.out.lt)
  have RZ := Lib.hid (RZ.out.below hb)
  have RT := Lib.hid (RT.out.below hb)
  have RX := Lib.hid (RX.out.below hb)
  have RG := Lib.hid (RG.out.below hb)
  have Y := Lib.hid (Y.out.below hb Y.out.lt)
  have RO := Lib.hid ((Arg.own hown).below hbk)
  clear hown hb hbk c0 c1 c2 c3 c4 R2
  go_upto_region 9 with fail
  obtain ⟨w8, hW⟩ : ∃ x : World, x = w7.alloc (.cells #[.int .u32 f0, .int .u32 f1, .int .u32 f2, .int .u32 f3, .slice A7 m k7] 25) := ⟨_, rfl⟩
  obtain ⟨GZ, hG⟩ : ∃ y, y = w7.heap.size := ⟨_, rfl⟩
  rw [← hW] at y B X RZ RT RX RG Y RO
  rw [← hG] at y ⊢
  change Code.wp _ _ _ _ (w7.alloc (.cells #[.int .u32 f0, .int .u32 f1, .int .u32 f2, .int .u32 f3, .slice A7 m k7] 25))
  rw [← hW]
  clear hW hG
  have Z := Lib.hid y
  clear y
  obtain ⟨d0, d1, d2, d3, d4⟩ := Z.out.frm
  go_wp2_with fail
  refine (W2.out _ _ _ RO.out).mono ?_
  intro e w9 hout
  obtain ⟨A9, k9, rfl, hown, hb⟩ := hout.len rfl LT.out
  have B := Lib.hid (B.out.trans (hb.mono B.out.size))
  have X := Lib.hid (X.out.below hb X.out.lt)
  have RZ := Lib.hid (RZ.out.below hb)
  have RT := Lib.hid (RT.out.below hb)
  have RX := Lib.hid (RX.out.below hb)
  have RG := Lib.hid (RG.out.below hb)
  have Y := Lib.hid (Y.out.below hb Y.out.lt)
  have RO := Lib.hid (RO.out.below hb)
  have Z := Lib.hid (Z.out.below hb Z.out.lt)
  have RY := Lib.hid (Arg.own hown)
  clear hout hown hb W2 d0 d1 d2 d3 d4
  obtain ⟨d0, d1, d2, d3, d4⟩ := Z.out.frm
  have q1 := str_arg15 RY.out
  have q2 := str_arg15 RT.out
  rw [← HST.out] at q1 q2
  go_wp2
  go_ret
  exact ⟨rfl, B.out⟩

set_option maxHeartbeats 6400000 in
theorem fback_yn (FD : FrameDoes) (a b c d : Int) (A : Option Addr) (n k : Nat) (z : List Int) (A1 : Option Addr) (n1 k1 : Nat) (t : List Int) (w : World) (h : Arg w .u8 A n k z) (hz : ∀ x ∈ z, isByte x) (va : isV a) (vb : isV b) (vc : isV c) (vd : isV d) (h1 : Arg w .u8 A1 n1 k1 t) (ht : ∀ x ∈ t, isByte x) (hn : n ≤ 200) (hn1 : n1 ≤ 200) (hm : mayF (a, b, c, d, z)) (hE : fdE t ≠ 0) :
    Calls Try.prog 5 #[frmV a b c d A n k, .slice A1 n1 k1] w fun e w' => e = .returned (.bool true) ∧ Below w.heap.size w w' := by
  obtain ⟨x, hbel⟩ := box_frm w a b c d A n k
  obtain ⟨w1, hw1⟩ : ∃ x : World, x = w.alloc (.cells #[.int .u32 a, .int .u32 b, .int .u32 c, .int .u32 d, .slice A n k] 25) := ⟨_, rfl⟩
  rw [← hw1] at x hbel
  have X := Lib.hid x
  have B := Lib.hid hbel
  have AL := Lib.hid (alive15_any FD w1)
  have hln := h.len
  have hln1 := h1.len
  have RZ := Lib.hid (h.below hbel)
  have RT := Lib.hid (h1.below hbel)
  have g0 : ¬ (200 : Int) < (n : Int) := by omega
  have g1 : ¬ (200 : Int) < (n1 : Int) := by omega
  have WR := Lib.hid (fun wx hx => FD.write a b c d A n k z wx hx hz va vb vc vd)
  have RD := Lib.hid FD.read
  have WO := Lib.hid FD.write
  have HT := Lib.hid ht
  have HF := Lib.hid (show isF (a, b, c, d, z) from ⟨va, vb, vc, vd, hz⟩)
  rw [(frB_yes hm).1, (frB_yes hm).2] at WR
  have HL := Lib.hid (show (frT (a, b, c, d, z)).length = n + 20 by rw [frT_length]; show 20 + z.length = _; omega)
  have hfb := fr_back HF.out hm
  have TB := Lib.hid (frT_byte HF.out)
  obtain ⟨T0, hT0⟩ : ∃ y, y = frT (a, b, c, d, z) := ⟨_, rfl⟩
  rw [← hT0] at WR HL hfb TB
  have R1 := Lib.hid (fun Ax kx wx hx => FD.read Ax (n + 20) kx T0 wx hx TB.out (by omega))
  rw [hfb.1, hfb.2] at R1
  unfold FrdOut at R1
  dsimp only at R1
  rw [hln] at R1
  have SA := Lib.hid (fun A2 k2 wx (hx : Arg wx .u8 A2 n k2 z) (hy : Arg wx .u8 A n k z) => rsameF_any a b c d A2 n k2 z a b c d A n k z wx hx hy hz hz)
  rw [show decide (((a, b, c, d, z) : Fr) = (a, b, c, d, z)) = true from decide_eq_true rfl] at SA
  have R2 := Lib.hid (fun wx hx => FD.read A1 n1 k1 t wx hx ht (by omega))
  have hfz : fdV t = zFr := by unfold fdV; rw [if_neg hE]
  rw [hfz] at R2
  unfold FrdOut zFr at R2
  dsimp only at R2
  have W2 := Lib.hid (fun A2 k2 wx (hx : Arg wx .u8 A2 0 k2 []) => FD.write 0 0 0 0 A2 0 k2 [] wx hx (fun x hx => by cases hx) isV0 isV0 isV0 isV0)
  rw [show ((0, 0, 0, 0, []) : Fr) = zFr from rfl, (frB_no zFr_not).1, (frB_no zFr_not).2] at W2
  have SZ := Lib.hid (fun A2 k2 wx (hx : Arg wx .u8 A2 0 k2 []) => rsameF_any 0 0 0 0 A2 0 k2 [] 0 0 0 0 none 0 0 [] wx hx (Arg.nil _ _) (fun x hx => by cases hx) (fun x hx => by cases hx))
  rw [show decide (((0, 0, 0, 0, []) : Fr) = (0, 0, 0, 0, [])) = true from decide_eq_true rfl] at SZ
  obtain ⟨E, hEe⟩ : ∃ E, E = fdE t := ⟨_, rfl⟩
  rw [← hEe] at R2 hE
  have hq1 : (E != 0) = true := bne_iff_ne.2 hE
  have hq2 : (E == 0) = false := beq_eq_false_iff_ne.2 hE
  clear hfz hEe
  clear x hbel h hz va vb vc vd h1 ht hm hE hln hln1 hn hn1 HF hT0 hfb
  go_enter Try.func5, Try.ntmps5
  go_wp2_with fail
  rw [← hw1]
  clear hw1
  refine AL.out.mono ?_
  rintro e w2 ⟨rfl, hb⟩
  have B := Lib.hid (B.out.trans (hb.mono B.out.size))
  have X := Lib.hid (X.out.below hb X.out.lt)
  have RZ := Lib.hid (RZ.out.below hb)
  have RT := Lib.hid (RT.out.below hb)
  clear hb AL
  obtain ⟨c0, c1, c2, c3, c4⟩ := X.out.frm
  go_wp2_with fail
  refine (WR.out _ RZ.out).mono ?_
  intro e w3 hout
  obtain ⟨A3, k3, rfl, hown, hb⟩ := hout.len rfl HL.out
  have B := Lib.hid (B.out.trans (hb.mono B.out.size))
  have X := Lib.hid (X.out.below hb X.out.lt)
  have RZ := Lib.hid (RZ.out.below hb)
  have RT := Lib.hid (RT.out.below hb)
  have RX := Lib.hid (Arg.own hown)
  clear hout hown hb WR c0 c1 c2 c3 c4
  obtain ⟨c0, c1, c2, c3, c4⟩ := X.out.frm
  go_wp2_with fail
  refine (R1.out _ _ _ RX.out).mono ?_
  rintro e w4 ⟨A4, k4, rfl, hown, hb⟩
  obtain ⟨y, hbk⟩ := box_frm w4 a b c d A4 n k4
  have hb := hb.trans (hbk.mono hb.size)
  have B := Lib.hid (B.out.trans (hb.mono B.out.size))
  have X := Lib.hid (X.out.below hb X.out.lt)
  have RZ := Lib.hid (RZ.out.below hb)
  have RT := Lib.hid (RT.out.below hb)
  have RX := Lib.hid (RX.out.below hb)
  have RG := Lib.hid ((Arg.own hown).below hbk)
  clear hown hb hbk c0 c1 c2 c3 c4 R1
  go_upto_region 6 with fail
  obtain ⟨w5, hW⟩ : ∃ x : World, x = w4.alloc (.cells #[.int .u32 a, .int .u32 b, .int .u32 c, .int .u32 d, .slice A4 n k4] 25) := ⟨_, rfl⟩
  obtain ⟨GY, hG⟩ : ∃ y, y = w4.heap.size := ⟨_, rfl⟩
  rw [← hW] at y B X RZ RT RX RG
  rw [← hG] at y ⊢
  change Code.wp _ _ _ _ (w4.alloc (.cells #[.int .u32 a, .int .u32 b, .int .u32 c, .int .u32 d, .slice A4 n k4] 25))
  rw [← hW]
  clear hW hG
  have Y := Lib.hid y
  clear y
  obtain ⟨c0, c1, c2, c3, c4⟩ := X.out.frm
  obtain ⟨d0, d1, d2, d3, d4⟩ := Y.out.frm
  go_wp2_with fail
  refine (SA.out _ _ _ RG.out RZ.out).mono ?_
  rintro e w6 ⟨rfl, hb⟩
  have B := Lib.hid (B.out.trans (hb.mono B.out.size))
  have X := Lib.hid (X.out.below hb X.out.lt)
  have RZ := Lib.hid (RZ.out.below hb)
  have RT := Lib.hid (RT.out.below hb)
  have RX := Lib.hid (RX.out.below hb)
  have RG := Lib.hid (RG.out.below hb)
  have Y := Lib.hid (Y.out.below hb Y.out.lt)
  clear hb SA c0 c1 c2 c3 c4 d0 d1 d2 d3 d4
  obtain ⟨c0, c1, c2, c3, c4⟩ := X.out.frm
  obtain ⟨d0, d1, d2, d3, d4⟩ := Y.out.frm
  go_wp2_with fail
  refine (R2.out _ RT.out).mono ?_
  rintro e w7 ⟨A7, k7, rfl, hown, hb⟩
  clear d0 d1 d2 d3 d4
  obtain ⟨y, hbk⟩ := box_frm w7 0 0 0 0 A7 0 k7
  have hb := hb.trans (hbk.mono hb.size)
  have B := Lib.hid (B.out.trans (hb.mono B.out.size))
  have X := Lib.hid (X.out.below hb X.out.lt)
  have RZ := Lib.hid (RZ.out.below hb)
  have RT := Lib.hid (RT.out.below hb)
  have RX := Lib.hid (RX.out.below hb)
  have RG := Lib.hid (RG.out.below hb)
  have Y := Lib.hid (Y.out.below hb Y.out.lt)
  have RO := Lib.hid ((Arg.own hown).below hbk)
  clear hown hb hbk c0 c1 c2 c3 c4 R2
  go_upto_region 9 with fail
  obtain ⟨w8, hW⟩ : ∃ x : World, x = w7.alloc (.cells #[.int .u32 0, .int .u32 0, .int .u32 0, .int .u32 0, .slice A7 0 k7] 25) := ⟨_, rfl⟩
  obtain ⟨GZ, hG⟩ : ∃ y, y = w7.heap.size := ⟨_, rfl⟩
  rw [← hW] at y B X RZ RT RX RG Y RO
  rw [← hG] at y ⊢
  change Code.wp _ _ _ _ (w7.alloc (.cells #[.int .u32 0, .int .u32 0, .int .u32 0, .int .u32 0, .slice A7 0 k7] 25))
  rw [← hW]
  clear hW hG
  have Z := Lib.hid y
  clear y
  obtain ⟨d0, d1, d2, d3, d4⟩ := Z.out.frm
  go_wp2_with fail
  refine (W2.out _ _ _ RO.out).mono ?_
  rintro e w9 ⟨A9, k9, rfl, hown, hb⟩
  have B := Lib.hid (B.out.trans (hb.mono B.out.size))
  have X := Lib.hid (X.out.below hb X.out.lt)
  have RZ := Lib.hid (RZ.out.below hb)
  have RT := Lib.hid (RT.out.below hb)
  have RX := Lib.hid (RX.out.below hb)
  have RG := Lib.hid (RG.out.below hb)
  have Y := Lib.hid (Y.out.below hb Y.out.lt)
  have RO := Lib.hid (RO.out.below hb)
  have Z := Lib.hid (Z.out.below hb Z.out.lt)
  have RY := Lib.hid (Arg.own hown)
  clear hown hb W2 d0 d1 d2 d3 d4
  obtain ⟨d0, d1, d2, d3, d4⟩ := Z.out.frm
  go_wp2_with fail
  refine (SZ.out _ _ _ RO.out).mono ?_
  rintro e w10 ⟨rfl, hb⟩
  have B := Lib.hid (B.out.trans (hb.mono B.out.size))
  have X := Lib.hid (X.out.below hb X.out.lt)
  have RZ := Lib.hid (RZ.out.below hb)
  have RT := Lib.hid (RT.out.below hb)
  have RX := Lib.hid (RX.out.below hb)
  have RG := Lib.hid (RG.out.below hb)
  have Y := Lib.hid (Y.out.below hb Y.out.lt)
  have RO := Lib.hid (RO.out.below hb)
  have Z := Lib.hid (Z.out.below hb Z.out.lt)
  clear hb SZ d0 d1 d2 d3 d4
  go_wp2
  go_ret
  exact ⟨rfl, B.out⟩

set_option maxHeartbeats 6400000 in
theorem fback_ny (FD : FrameDoes) (a b c d : Int) (A : Option Addr) (n k : Nat) (z : List Int) (A1 : Option Addr) (n1 k1 : Nat) (t : List Int) (w : World) (h : Arg w .u8 A n k z) (hz : ∀ x ∈ z, isByte x) (va : isV a) (vb : isV b) (vc : isV c) (vd : isV d) (h1 : Arg w .u8 A1 n1 k1 t) (ht : ∀ x ∈ t, isByte x) (hn : n ≤ 200) (hn1 : n1 ≤ 200) (hm : ¬ mayF (a, b, c, d, z)) (hE : fdE t = 0) :
    Calls Try.prog 5 #[frmV a b c d A n k, .slice A1 n1 k1] w fun e w' => e = .returned (.bool true) ∧ Below w.heap.size w w' := by
  obtain ⟨x, hbel⟩ := box_frm w a b c d A n k
  obtain ⟨w1, hw1⟩ : ∃ x : World, x = w.alloc (.cells #[.int .u32 a, .int .u32 b, .int .u32 c, .int .u32 d, .slice A n k] 25) := ⟨_, rfl⟩
  rw [← hw1] at x hbel
  have X := Lib.hid x
  have B := Lib.hid hbel
  have AL := Lib.hid (alive15_any FD w1)
  have hln := h.len
  have hln1 := h1.len
  have RZ := Lib.hid (h.below hbel)
  have RT := Lib.hid (h1.below hbel)
  have g0 : ¬ (200 : Int) < (n : Int) := by omega
  have g1 : ¬ (200 : Int) < (n1 : Int) := by omega
  have WR := Lib.hid (fun wx hx => FD.write a b c d A n k z wx hx hz va vb vc vd)
  have RD := Lib.hid FD.read
  have WO := Lib.hid FD.write
  have HT := Lib.hid ht
  have HF := Lib.hid (show isF (a, b, c, d, z) from ⟨va, vb, vc, vd, hz⟩)
  rw [(frB_no hm).1, (frB_no hm).2] at WR
  have R1 := Lib.hid (fun Ax kx wx hx => FD.read Ax 0 kx [] wx hx (fun x hx => by cases hx) (by decide))
  rw [fdE_nil.1, fdE_nil.2] at R1
  unfold FrdOut zFr at R1
  dsimp only at R1
  obtain ⟨hF2, hm2, hT2⟩ := fr_anew ht hE
  have R2 := Lib.hid (fun wx hx => FD.read A1 n1 k1 t wx hx ht (by omega))
  rw [hE] at R2
  obtain ⟨f, hf⟩ : ∃ f, f = fdV t := ⟨_, rfl⟩
  rw [← hf] at R2 hF2 hm2 hT2
  obtain ⟨f0, f1, f2, f3, f4⟩ := f
  obtain ⟨v0, v1, v2, v3, v4⟩ := hF2
  dsimp only at v0 v1 v2 v3 v4
  have W2 := Lib.hid (fun A2 k2 wx hx => FD.write f0 f1 f2 f3 A2 f4.length k2 f4 wx hx v4 v0 v1 v2 v3)
  rw [(frB_yes hm2).1, (frB_yes hm2).2, hT2] at W2
  unfold FrdOut at R2
  dsimp only at R2
  obtain ⟨m, hmm⟩ : ∃ m, m = f4.length := ⟨_, rfl⟩
  rw [← hmm] at R2 W2
  have LT := Lib.hid hln1
  obtain ⟨st, hst0⟩ : ∃ y, y = strOfNums t := ⟨_, rfl⟩
  have HST := Lib.hid hst0
  have hst : (st.toList == st.toList) = true := beq_self_eq_true _
  clear hf hm2 hT2 v0 v1 v2 v3 v4 hmm hst0
  clear x hbel h hz va vb vc vd h1 ht hm hE hln hln1 hn hn1 HF
  go_enter Try.func5, Try.ntmps5
  go_wp2_with fail
  rw [← hw1]
  clear hw1
  refine AL.out.mono ?_
  rintro e w2 ⟨rfl, hb⟩
  have B := Lib.hid (B.out.trans (hb.mono B.out.size))
  have X := Lib.hid (X.out.below hb X.out.lt)
  have RZ := Lib.hid (RZ.out.below hb)
  have RT := Lib.hid (RT.out.below hb)
  clear hb AL
  obtain ⟨c0, c1, c2, c3, c4⟩ := X.out.frm
  go_wp2_with fail
  refine (WR.out _ RZ.out).mono ?_
  rintro e w3 ⟨A3, k3, rfl, hown, hb⟩
  have B := Lib.hid (B.out.trans (hb.mono B.out.size))
  have X := Lib.hid (X.out.below hb X.out.lt)
  have RZ := Lib.hid (RZ.out.below hb)
  have RT := Lib.hid (RT.out.below hb)
  have RX := Lib.hid (Arg.own hown)
  clear hown hb WR c0 c1 c2 c3 c4
  obtain ⟨c0, c1, c2, c3, c4⟩ := X.out.frm
  go_wp2_with fail
  refine (R1.out _ _ _ RX.out).mono ?_
  rintro e w4 ⟨A4, k4, rfl, hown, hb⟩
  obtain ⟨y, hbk⟩ := box_frm w4 0 0 0 0 A4 0 k4
  have hb := hb.trans (hbk.mono hb.size)
  have B := Lib.hid (B.out.trans (hb.mono B.out.size))
  have X := Lib.hid (X.out.below hb X.out.lt)
  have RZ := Lib.hid (RZ.out.below hb)
  have RT := Lib.hid (RT.out.below hb)
  have RX := Lib.hid (RX.out.below hb)
  have RG := Lib.hid ((Arg.own hown).below hbk)
  clear hown hb hbk c0 c1 c2 c3 c4 R1
  go_upto_region 6 with fail
  obtain ⟨w5, hW⟩ : ∃ x : World, x = w4.alloc (.cells #[.int .u32 0, .int .u32 0, .int .u32 0, .int .u32 0, .slice A4 0 k4] 25) := ⟨_, rfl⟩
  obtain ⟨GY, hG⟩ : ∃ y, y = w4.heap.size := ⟨_, rfl⟩
  rw [← hW] at y B X RZ RT RX RG
  rw [← hG] at y ⊢
  change Code.wp _ _ _ _ (w4.alloc (.cells #[.int .u32 0, .int .u32 0, .int .u32 0, .int .u32 0, .slice A4 0 k4] 25))
  rw [← hW]
  clear hW hG
  have Y := Lib.hid y
  clear y
  obtain ⟨c0, c1, c2, c3, c4⟩ := X.out.frm
  obtain ⟨d0, d1, d2, d3, d4⟩ := Y.out.frm
  go_wp2_with fail
  refine (R2.out _ RT.out).mono ?_
  rintro e w7 ⟨A7, k7, rfl, hown, hb⟩
  clear d0 d1 d2 d3 d4
  obtain ⟨y, hbk⟩ := box_frm w7 f0 f1 f2 f3 A7 m k7
  have hb := hb.trans (hbk.mono hb.size)
  have B := Lib.hid (B.out.trans (hb.mono B.out.size))
  have X := Lib.hid (X.out.below hb X.out.lt)
  have RZ := Lib.hid (RZ.out.below hb)
  have RT := Lib.hid (RT.out.below hb)
  have RX := Lib.hid (RX.out.below hb)
  have RG := Lib.hid (RG.out.below hb)
  have Y := Lib.hid (Y.out.below hb Y.out.lt)
  have RO := Lib.hid ((Arg.own hown).below hbk)
  clear hown hb hbk c0 c1 c2 c3 c4 R2
  go_upto_region 9 with fail
  obtain ⟨w8, hW⟩ : ∃ x : World, x = w7.alloc (.cells #[.int .u32 f0, .int .u32 f1, .int .u32 f2, .int .u32 f3, .slice A7 m k7] 25) := ⟨_, rfl⟩
  obtain ⟨GZ, hG⟩ : ∃ y, y = w7.heap.size := ⟨_, rfl⟩
  rw [← hW] at y B X RZ RT RX RG Y RO
  rw [← hG] at y ⊢
  change Code.wp _ _ _ _ (w7.alloc (.cells #[.int .u32 f0, .int .u32 f1, .int .u32 f2, .int .u32 f3, .slice A7 m k7] 25))
  rw [← hW]
  clear hW hG
  have Z := Lib.hid y
  clear y
  obtain ⟨d0, d1, d2, d3, d4⟩ := Z.out.frm
  go_wp2_with fail
  refine (W2.out _ _ _ RO.out).mono ?_
  intro e w9 hout
  obtain ⟨A9, k9, rfl, hown, hb⟩ := hout.len rfl LT.out
  have B := Lib.hid (B.out.trans (hb.mono B.out.size))
  have X := Lib.hid (X.out.below hb X.out.lt)
  have RZ := Lib.hid (RZ.out.below hb)
  have RT := Lib.hid (RT.out.below hb)
  have RX := Lib.hid (RX.out.below hb)
  have RG := Lib.hid (RG.out.below hb)
  have Y := Lib.hid (Y.out.below hb Y.out.lt)
  have RO := Lib.hid (RO.out.below hb)
  have Z := Lib.hid (Z.out.below hb Z.out.lt)
  have RY := Lib.hid (Arg.own hown)
  clear hout hown hb W2 d0 d1 d2 d3 d4
  obtain ⟨d0, d1, d2, d3, d4⟩ := Z.out.frm
  have q1 := str_arg15 RY.out
  have q2 := str_arg15 RT.out
  rw [← HST.out] at q1 q2
  go_wp2
  go_ret
  exact ⟨rfl, B.out⟩

set_option maxHeartbeats 6400000 in
theorem fback_nn (FD : FrameDoes) (a b c d : Int) (A : Option Addr) (n k : Nat) (z : List Int) (A1 : Option Addr) (n1 k1 : Nat) (t : List Int) (w : World) (h : Arg w .u8 A n k z) (hz : ∀ x ∈ z, isByte x) (va : isV a) (vb : isV b) (vc : isV c) (vd : isV d) (h1 : Arg w .u8 A1 n1 k1 t) (ht : ∀ x ∈ t, isByte x) (hn : n ≤ 200) (hn1 : n1 ≤ 200) (hm : ¬ mayF (a, b, c, d, z)) (hE : fdE t ≠ 0) :
    Calls Try.prog 5 #[frmV a b c d A n k, .slice A1 n1 k1] w fun e w' => e = .returned (.bool true) ∧ Below w.heap.size w w' := by
  obtain ⟨x, hbel⟩ := box_frm w a b c d A n k
  obtain ⟨w1, hw1⟩ : ∃ x : World, x = w.alloc (.cells #[.int .u32 a, .int .u32 b, .int .u32 c, .int .u32 d, .slice A n k] 25) := ⟨_, rfl⟩
  rw [← hw1] at x hbel
  have X := Lib.hid x
  have B := Lib.hid hbel
  have AL := Lib.hid (alive15_any FD w1)
  have hln := h.len
  have hln1 := h1.len
  have RZ := Lib.hid (h.below hbel)
  have RT := Lib.hid (h1.below hbel)
  have g0 : ¬ (200 : Int) < (n : Int) := by omega
  have g1 : ¬ (200 : Int) < (n1 : Int) := by omega
  have WR := Lib.hid (fun wx hx => FD.write a b c d A n k z wx hx hz va vb vc vd)
  have RD := Lib.hid FD.read
  have WO := Lib.hid FD.write
  have HT := Lib.hid ht
  have HF := Lib.hid (show isF (a, b, c, d, z) from ⟨va, vb, vc, vd, hz⟩)
  rw [(frB_no hm).1, (frB_no hm).2] at WR
  have R1 := Lib.hid (fun Ax kx wx hx => FD.read Ax 0 kx [] wx hx (fun x hx => by cases hx) (by decide))
  rw [fdE_nil.1, fdE_nil.2] at R1
  unfold FrdOut zFr at R1
  dsimp only at R1
  have R2 := Lib.hid (fun wx hx => FD.read A1 n1 k1 t wx hx ht (by omega))
  have hfz : fdV t = zFr := by unfold fdV; rw [if_neg hE]
  rw [hfz] at R2
  unfold FrdOut zFr at R2
  dsimp only at R2
  have W2 := Lib.hid (fun A2 k2 wx (hx : Arg wx .u8 A2 0 k2 []) => FD.write 0 0 0 0 A2 0 k2 [] wx hx (fun x hx => by cases hx) isV0 isV0 isV0 isV0)
  rw [show ((0, 0, 0, 0, []) : Fr) = zFr from rfl, (frB_no zFr_not).1, (frB_no zFr_not).2] at W2
  have SZ := Lib.hid (fun A2 k2 wx (hx : Arg wx .u8 A2 0 k2 []) => rsameF_any 0 0 0 0 A2 0 k2 [] 0 0 0 0 none 0 0 [] wx hx (Arg.nil _ _) (fun x hx => by cases hx) (fun x hx => by cases hx))
  rw [show decide (((0, 0, 0, 0, []) : Fr) = (0, 0, 0, 0, [])) = true from decide_eq_true rfl] at SZ
  obtain ⟨E, hEe⟩ : ∃ E, E = fdE t := ⟨_, rfl⟩
  rw [← hEe] at R2 hE
  have hq1 : (E != 0) = true := bne_iff_ne.2 hE
  have hq2 : (E == 0) = false := beq_eq_false_iff_ne.2 hE
  clear hfz hEe
  clear x hbel h hz va vb vc vd h1 ht hm hE hln hln1 hn hn1 HF
  go_enter Try.func5, Try.ntmps5
  go_wp2_with fail
  rw [← hw1]
  clear hw1
  refine AL.out.mono ?_
  rintro e w2 ⟨rfl, hb⟩
  have B := Lib.hid (B.out.trans (hb.mono B.out.size))
  have X := Lib.hid (X.out.below hb X.out.lt)
  have RZ := Lib.hid (RZ.out.below hb)
  have RT := Lib.hid (RT.out.below hb)
  clear hb AL
  obtain ⟨c0, c1, c2, c3, c4⟩ := X.out.frm
  go_wp2_with fail
  refine (WR.out _ RZ.out).mono ?_
  rintro e w3 ⟨A3, k3, rfl, hown, hb⟩
  have B := Lib.hid (B.out.trans (hb.mono B.out.size))
  have X := Lib.hid (X.out.below hb X.out.lt)
  have RZ := Lib.hid (RZ.out.below hb)
  have RT := Lib.hid (RT.out.below hb)
  have RX := Lib.hid (Arg.own hown)
  clear hown hb WR c0 c1 c2 c3 c4
  obtain ⟨c0, c1, c2, c3, c4⟩ := X.out.frm
  go_wp2_with fail
  refine (R1.out _ _ _ RX.out).mono ?_
  rintro e w4 ⟨A4, k4, rfl, hown, hb⟩
  obtain ⟨y, hbk⟩ := box_frm w4 0 0 0 0 A4 0 k4
  have hb := hb.trans (hbk.mono hb.size)
  have B := Lib.hid (B.out.trans (hb.mono B.out.size))
  have X := Lib.hid (X.out.below hb X.out.lt)
  have RZ := Lib.hid (RZ.out.below hb)
  have RT := Lib.hid (RT.out.below hb)
  have RX := Lib.hid (RX.out.below hb)
  have RG := Lib.hid ((Arg.own hown).below hbk)
  clear hown hb hbk c0 c1 c2 c3 c4 R1
  go_upto_region 6 with fail
  obtain ⟨w5, hW⟩ : ∃ x : World, x = w4.alloc (.cells #[.int .u32 0, .int .u32 0, .int .u32 0, .int .u32 0, .slice A4 0 k4] 25) := ⟨_, rfl⟩
  obtain ⟨GY, hG⟩ : ∃ y, y = w4.heap.size := ⟨_, rfl⟩
  rw [← hW] at y B X RZ RT RX RG
  rw [← hG] at y ⊢
  change Code.wp _ _ _ _ (w4.alloc (.cells #[.int .u32 0, .int .u32 0, .int .u32 0, .int .u32 0, .slice A4 0 k4] 25))
  rw [← hW]
  clear hW hG
  have Y := Lib.hid y
  clear y
  obtain ⟨c0, c1, c2, c3, c4⟩ := X.out.frm
  obtain ⟨d0, d1, d2, d3, d4⟩ := Y.out.frm
  go_wp2_with fail
  refine (R2.out _ RT.out).mono ?_
  rintro e w7 ⟨A7, k7, rfl, hown, hb⟩
  clear d0 d1 d2 d3 d4
  obtain ⟨y, hbk⟩ := box_frm w7 0 0 0 0 A7 0 k7
  have hb := hb.trans (hbk.mono hb.size)
  have B := Lib.hid (B.out.trans (hb.mono B.out.size))
  have X := Lib.hid (X.out.below hb X.out.lt)
  have RZ := Lib.hid (RZ.out.below hb)
  have RT := Lib.hid (RT.out.below hb)
  have RX := Lib.hid (RX.out.below hb)
  have RG := Lib.hid (RG.out.below hb)
  have Y := Lib.hid (Y.out.below hb Y.out.lt)
  have RO := Lib.hid ((Arg.own hown).below hbk)
  clear hown hb hbk c0 c1 c2 c3 c4 R2
  go_upto_region 9 with fail
  obtain ⟨w8, hW⟩ : ∃ x : World, x = w7.alloc (.cells #[.int .u32 0, .int .u32 0, .int .u32 0, .int .u32 0, .slice A7 0 k7] 25) := ⟨_, rfl⟩
  obtain ⟨GZ, hG⟩ : ∃ y, y = w7.heap.size := ⟨_, rfl⟩
  rw [← hW] at y B X RZ RT RX RG Y RO
  rw [← hG] at y ⊢
  change Code.wp _ _ _ _ (w7.alloc (.cells #[.int .u32 0, .int .u32 0, .int .u32 0, .int .u32 0, .slice A7 0 k7] 25))
  rw [← hW]
  clear hW hG
  have Z := Lib.hid y
  clear y
  obtain ⟨d0, d1, d2, d3, d4⟩ := Z.out.frm
  go_wp2_with fail
  refine (W2.out _ _ _ RO.out).mono ?_
  rintro e w9 ⟨A9, k9, rfl, hown, hb⟩
  have B := Lib.hid (B.out.trans (hb.mono B.out.size))
  have X := Lib.hid (X.out.below hb X.out.lt)
  have RZ := Lib.hid (RZ.out.below hb)
  have RT := Lib.hid (RT.out.below hb)
  have RX := Lib.hid (RX.out.below hb)
  have RG := Lib.hid (RG.out.below hb)
  have Y := Lib.hid (Y.out.below hb Y.out.lt)
  have RO := Lib.hid (RO.out.below hb)
  have Z := Lib.hid (Z.out.below hb Z.out.lt)
  have RY := Lib.hid (Arg.own hown)
  clear hown hb W2 d0 d1 d2 d3 d4
  obtain ⟨d0, d1, d2, d3, d4⟩ := Z.out.frm
  go_wp2_with fail
  refine (SZ.out _ _ _ RO.out).mono ?_
  rintro e w10 ⟨rfl, hb⟩
  have B := Lib.hid (B.out.trans (hb.mono B.out.size))
  have X := Lib.hid (X.out.below hb X.out.lt)
  have RZ := Lib.hid (RZ.out.below hb)
  have RT := Lib.hid (RT.out.below hb)
  have RX := Lib.hid (RX.out.below hb)
  have RG := Lib.hid (RG.out.below hb)
  have Y := Lib.hid (Y.out.below hb Y.out.lt)
  have RO := Lib.hid (RO.out.below hb)
  have Z := Lib.hid (Z.out.below hb Z.out.lt)
  clear hb SZ d0 d1 d2 d3 d4
  go_wp2
  go_ret
  exact ⟨rfl, B.out⟩

theorem fback_of (FD : FrameDoes) (a b c d : Int) (A : Option Addr) (n k : Nat) (z : List Int) (A1 : Option Addr) (n1 k1 : Nat) (t : List Int) (w : World) (h : Arg w .u8 A n k z) (hz : ∀ x ∈ z, isByte x) (va : isV a) (vb : isV b) (vc : isV c) (vd : isV d) (h1 : Arg w .u8 A1 n1 k1 t) (ht : ∀ x ∈ t, isByte x) :
    Calls Try.prog 5 #[frmV a b c d A n k, .slice A1 n1 k1] w fun e w' => e = .returned (.bool true) ∧ Below w.heap.size w w' := by
  by_cases hg : 200 < n ∨ 200 < n1
  · exact fback_great FD a b c d A n k z A1 n1 k1 t w h hz va vb vc vd h1 ht hg
  · by_cases hm : mayF (a, b, c, d, z)
    · by_cases hE : fdE t = 0
      · exact fback_yy FD a b c d A n k z A1 n1 k1 t w h hz va vb vc vd h1 ht (by omega) (by omega) hm hE
      · exact fback_yn FD a b c d A n k z A1 n1 k1 t w h hz va vb vc vd h1 ht (by omega) (by omega) hm hE
    · by_cases hE : fdE t = 0
      · exact fback_ny FD a b c d A n k z A1 n1 k1 t w h hz va vb vc vd h1 ht (by omega) (by omega) hm hE
      · exact fback_nn FD a b c d A n k z A1 n1 k1 t w h hz va vb vc vd h1 ht (by omega) (by omega) hm hE
end Go.Proofs.Ytdgfofemogmmkaa
