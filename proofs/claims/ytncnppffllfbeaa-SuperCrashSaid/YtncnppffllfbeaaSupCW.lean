/- Layer 9, SuperCrash: the walk. -/
import Derived.Test.YtncnppffllfbeaaSupA
namespace Go.Proofs.Ytncnppffllfbeaa
open Go.RowKit
set_option linter.unusedVariables false

theorem eq_yes (a b c : Int) (w : World) : (Op.equalIn 10000 31 (supV a b c) (supV a b c)).run Try.prog w = .ok true w := by
  rw [eq_sup]
  simp
theorem eq_no {a b c a' b' c' : Int} (h : (a, b, c) ≠ (a', b', c')) (w : World) : (Op.equalIn 10000 31 (supV a b c) (supV a' b' c')).run Try.prog w = .ok false w := by
  rw [eq_sup]
  have : (a == a' && b == b' && c == c') = false := by
    cases hb : (a == a' && b == b' && c == c') with
    | false => rfl
    | true =>
      simp only [Bool.and_eq_true, beq_iff_eq] at hb
      exact absurd (by rw [hb.1.1, hb.1.2, hb.2]) h
  rw [this]

set_option maxRecDepth 100000 in
set_option maxHeartbeats 51200000 in
theorem scrash_of (P T A M W Q : Int) (D : Option Addr) (n c : Nat) (D' : Option Addr) (n' c' : Nat) (S : List Sec) (C : List Pnd) (v a g : Int) (a3 : Option Addr) (len3 cap3 : Nat) (z3 : List Int) (w : World) (hq : Dsk w D n c D' n' c' S C) (hi : isS (v, a, g)) (w3 : IsRow .u8 w a3 len3 cap3 z3) :
    Calls Try.prog 5 #[cfgV P T A M W Q, diskV D n c D' n' c', supV v a g, .slice a3 len3 cap3] w fun e w' => e = .returned (.bool true) ∧ Below w.heap.size w w' := by
  obtain ⟨x, hbel⟩ := SBox.new P T A M W Q v a g hq
  obtain ⟨w0, hw0⟩ : ∃ x : World, x = ((w.alloc (.cells #[.int .i64 P, .int .i64 T, .int .i64 A, .int .i64 M, .int .i64 W, .int .i64 Q] 37)).alloc (.cells #[.slice D n c, .slice D' n' c'] 25)).alloc (.cells #[.int .u32 v, .int .i64 a, .int .u64 g] 31) := ⟨_, rfl⟩
  rw [← hw0] at x hbel
  obtain ⟨F, hF, hFw⟩ := w3.arg
  have hFl := hF.len
  have FY := Lib.hid (fun z hz => wf_byte (hFw z hz) : ∀ z ∈ F, isByte z)
  have X := Lib.hid x
  have B := Lib.hid hbel
  have RF := Lib.hid (hF.below hbel)
  have HSB := Lib.hid hq.secs.byte
  have HCB := Lib.hid hq.pnds.byte
  have hsl := hq.secs.len
  obtain ⟨c0, c1, c2, c3, c4, c5, d0, d1, q0, q1, q2⟩ := x.cells
  have gg := fun w hx => great_any D n c D' n' c' S C 300 w hx
  clear x hbel hq w3 hF hFw
  cases hg1 : greatD S C 300 with
  | true =>
    rw [hg1] at gg
    have GG := Lib.hid gg
    clear gg hg1 hFl hsl
    go_enter Try.func5, Try.ntmps5
    go_wp2_with fail
    rw [← hw0]
    clear hw0
    refine (alive_super _).mono ?_
    rintro e wa ⟨rfl, hb⟩
    have B := Lib.hid (B.out.trans (hb.mono B.out.size))
    have X := Lib.hid (X.out.below hb)
    have RF := Lib.hid (RF.out.below hb)
    clear hb c0 c1 c2 c3 c4 c5 d0 d1 q0 q1 q2
    obtain ⟨c0, c1, c2, c3, c4, c5, d0, d1, q0, q1, q2⟩ := X.out.cells
    go_wp2_with fail
    refine (GG.out _ X.out.two.dsk.dsk).mono ?_
    rintro e wb ⟨rfl, hb⟩
    have B := Lib.hid (B.out.trans (hb.mono B.out.size))
    have X := Lib.hid (X.out.below hb)
    have RF := Lib.hid (RF.out.below hb)
    clear hb c0 c1 c2 c3 c4 c5 d0 d1 q0 q1 q2
    obtain ⟨c0, c1, c2, c3, c4, c5, d0, d1, q0, q1, q2⟩ := X.out.cells
    go_wp2
    go_ret
    exact ⟨rfl, B.out⟩
  | false =>
  rw [hg1] at gg
  have GG := Lib.hid gg
  have SZ := Lib.hid (small_ofD (by decide) (by decide) hg1)
  clear gg hg1
  by_cases hl1 : 200 < len3
  · have hl2 : (200 : Int) < (len3 : Int) := by omega
    clear hFl hl1 hsl
    go_enter Try.func5, Try.ntmps5
    go_wp2_with fail
    rw [← hw0]
    clear hw0
    refine (alive_super _).mono ?_
    rintro e wa ⟨rfl, hb⟩
    have B := Lib.hid (B.out.trans (hb.mono B.out.size))
    have X := Lib.hid (X.out.below hb)
    have RF := Lib.hid (RF.out.below hb)
    clear hb c0 c1 c2 c3 c4 c5 d0 d1 q0 q1 q2
    obtain ⟨c0, c1, c2, c3, c4, c5, d0, d1, q0, q1, q2⟩ := X.out.cells
    go_wp2_with fail
    refine (GG.out _ X.out.two.dsk.dsk).mono ?_
    rintro e wb ⟨rfl, hb⟩
    have B := Lib.hid (B.out.trans (hb.mono B.out.size))
    have X := Lib.hid (X.out.below hb)
    have RF := Lib.hid (RF.out.below hb)
    clear hb c0 c1 c2 c3 c4 c5 d0 d1 q0 q1 q2
    obtain ⟨c0, c1, c2, c3, c4, c5, d0, d1, q0, q1, q2⟩ := X.out.cells
    go_wp2
    go_ret
    exact ⟨rfl, B.out⟩
  have hl2 : ¬ (200 : Int) < (len3 : Int) := by omega
  have HF200 := Lib.hid (show F.length ≤ 200 by omega)
  have RD := Lib.hid (fun wx hx => sread_any P T A M W Q D n c D' n' c' S C wx hx SZ.out)
  unfold SupOut at RD
  obtain ⟨E1, hE1⟩ : ∃ y, y = srE P T A M W Q S C := ⟨_, rfl⟩
  obtain ⟨V1, hV1⟩ : ∃ y, y = (srV P T A M W Q S C).1 := ⟨_, rfl⟩
  obtain ⟨V2, hV2⟩ : ∃ y, y = (srV P T A M W Q S C).2.1 := ⟨_, rfl⟩
  obtain ⟨V3, hV3⟩ : ∃ y, y = (srV P T A M W Q S C).2.2 := ⟨_, rfl⟩
  have hV : srV P T A M W Q S C = (V1, V2, V3) := by rw [hV1, hV2, hV3]
  rw [← hE1, ← hV1, ← hV2, ← hV3] at RD
  clear hV1 hV2 hV3
  by_cases hp : spE P T A M W Q S C (v, a, g) = 0 ∧ C.length < 64
  · obtain ⟨hp0, hp64⟩ := hp
    have PU := Lib.hid (fun wx hx => put_yes P T A M W Q D n c D' n' c' S C v a g wx hx SZ.out hi hp0 hp64)
    obtain ⟨t1, ⟨t2, t3⟩, t4, t5, t6⟩ := sup_tells hp0 hi HSB.out HCB.out (by omega) F
    obtain ⟨h1L, hgL⟩ := spL_good hp0
    have hsm := small_more SZ.out hgL (k := 1) (by omega)
    rw [List.take_of_length_le (Nat.le_of_eq h1L)] at hsm
    rw [spL_cpL hp0] at PU
    obtain ⟨C2, hC2⟩ : ∃ y, y = C ++ cpL S C 0 1 (suT (v, a, g)) := ⟨_, rfl⟩
    rw [← hC2] at PU t1 t2 t3 t4 t5 t6 hsm
    have hck : chkD S C2 = 0 := if_pos t1
    have RX := Lib.hid (fun A0 c0 A0' c0' m0 wx (hx : Dsk wx A0 n c0 A0' m0 c0' S C2) => sread_any P T A M W Q A0 n c0 A0' m0 c0' S C2 wx hx hsm)
    unfold SupOut at RX
    rw [t2, t3] at RX
    have hcr := (cr_may t1 F).2.trans hsl
    have hfl : (flS S C2).length = n := (cr_may t1 (List.replicate C2.length 1)).2.trans hsl
    have hs3 := cr_small hsm F
    have hs4 : SmallD (flS S C2) [] := cr_small hsm (List.replicate C2.length 1)
    have CR := Lib.hid (fun A0 c0 A0' c0' m0 wx (hx : Dsk wx A0 n c0 A0' m0 c0' S C2) (hr : Arg wx .u8 a3 len3 cap3 F) => (dsk_does.crash A0 n c0 A0' m0 c0' S C2 a3 len3 cap3 F wx hx hsm hr FY.out HF200.out).mono fun e w' ho => DiskOut.as ho (S' := crS S C2 F) (C' := []) (E' := 0) (n := n) (n' := 0) rfl rfl hck hcr rfl)
    have FL := Lib.hid (fun A0 c0 A0' c0' m0 wx (hx : Dsk wx A0 n c0 A0' m0 c0' S C2) => (dsk_does.flush A0 n c0 A0' m0 c0' S C2 wx hx hsm).mono fun e w' ho => DiskOut.as ho (S' := flS S C2) (C' := []) (E' := 0) (n := n) (n' := 0) rfl rfl hck hfl rfl)
    obtain ⟨S3, hS3⟩ : ∃ y, y = crS S C2 F := ⟨_, rfl⟩
    obtain ⟨S4, hS4⟩ : ∃ y, y = flS S C2 := ⟨_, rfl⟩
    rw [← hS3] at CR hs3 t4
    rw [← hS4] at FL hs4 t5 t6
    have RY := Lib.hid (fun A0 c0 A0' c0' wx (hx : Dsk wx A0 n c0 A0' 0 c0' S3 []) => sread_any P T A M W Q A0 n c0 A0' 0 c0' S3 [] wx hx hs3)
    have RZ := Lib.hid (fun A0 c0 A0' c0' wx (hx : Dsk wx A0 n c0 A0' 0 c0' S4 []) => sread_any P T A M W Q A0 n c0 A0' 0 c0' S4 [] wx hx hs4)
    unfold SupOut at RY RZ
    rw [t5, t6] at RZ
    dsimp only at RX RZ
    have ES := fun (wx : World) => eq_yes v a g wx
    have ee : (E1 == E1) = true := beq_self_eq_true _
    obtain ⟨m2, hm2⟩ : ∃ y, y = n' + 1 := ⟨_, rfl⟩
    rw [← hm2] at PU
    have key : (srE P T A M W Q S3 [] = 0 ∧ srV P T A M W Q S3 [] = (v, a, g)) ∨ (srE P T A M W Q S3 [] = E1 ∧ srV P T A M W Q S3 [] = (V1, V2, V3) ∧ (E1 = 0 → (V1, V2, V3) ≠ (v, a, g))) := by
      rw [← hE1, hV] at t4
      rcases t4 with ⟨k1, k2⟩ | h
      · by_cases h0 : E1 = 0 ∧ (V1, V2, V3) = (v, a, g)
        · exact .inl ⟨k1.trans h0.1, k2.trans h0.2⟩
        · exact .inr ⟨k1, k2, fun h1 h2 => h0 ⟨h1, h2⟩⟩
      · exact .inl h
    clear hE1 hV t1 t2 t3 t4 t5 t6 h1L hgL hsm hC2 hck hcr hfl hs3 hs4 hS3 hS4 hm2 hi hp0 hp64 hsl hFl hl1
    rcases key with ⟨k1, k2⟩ | ⟨k1, k2, k3⟩
    · rw [k1, k2] at RY
      dsimp only at RY
      clear k1 k2
      go_enter Try.func5, Try.ntmps5
      go_wp2_with fail
      rw [← hw0]
      clear hw0
      refine (alive_super _).mono ?_
      rintro e wa ⟨rfl, hb⟩
      have B := Lib.hid (B.out.trans (hb.mono B.out.size))
      have X := Lib.hid (X.out.below hb)
      have RF := Lib.hid (RF.out.below hb)
      clear hb c0 c1 c2 c3 c4 c5 d0 d1 q0 q1 q2
      obtain ⟨c0, c1, c2, c3, c4, c5, d0, d1, q0, q1, q2⟩ := X.out.cells
      go_wp2_with fail
      refine (GG.out _ X.out.two.dsk.dsk).mono ?_
      rintro e wb ⟨rfl, hb⟩
      have B := Lib.hid (B.out.trans (hb.mono B.out.size))
      have X := Lib.hid (X.out.below hb)
      have RF := Lib.hid (RF.out.below hb)
      clear hb c0 c1 c2 c3 c4 c5 d0 d1 q0 q1 q2
      obtain ⟨c0, c1, c2, c3, c4, c5, d0, d1, q0, q1, q2⟩ := X.out.cells
      go_wp2_with fail
      refine (RD.out _ X.out.two.dsk.dsk).mono ?_
      rintro e we ⟨rfl, hb⟩
      have WB := Blk.new we 31 [.int .u32 V1, .int .i64 V2, .int .u64 V3]
      have hb := hb.alloc hb.size (.cells #[.int .u32 V1, .int .i64 V2, .int .u64 V3] 31)
      have B := Lib.hid (B.out.trans (hb.mono B.out.size))
      have X := Lib.hid (X.out.below hb)
      have RF := Lib.hid (RF.out.below hb)
      clear hb c0 c1 c2 c3 c4 c5 d0 d1 q0 q1 q2 RD GG
      obtain ⟨GWB, hG⟩ : ∃ x, x = we.heap.size := ⟨_, rfl⟩
      go_upto_region 5 with fail
      rw [← hG] at WB ⊢
      obtain ⟨wex, hW⟩ : ∃ x : World, x = we.alloc (.cells #[.int .u32 V1, .int .i64 V2, .int .u64 V3] 31) := ⟨_, rfl⟩
      rw [← hW] at B X RF WB ⊢
      clear hW hG
      have WB := Lib.hid WB
      obtain ⟨c0, c1, c2, c3, c4, c5, d0, d1, q0, q1, q2⟩ := X.out.cells
      go_wp2_with fail
      refine (PU.out _ X.out.two.dsk.dsk).mono ?_
      rintro e wf ⟨AX, cX, AX', cX', rfl, hown, hb⟩
      have XB := DBox.new (Dsk.of_own hown)
      have hb := hb.alloc hb.size (.cells #[.slice AX n cX, .slice AX' m2 cX'] 25)
      have B := Lib.hid (B.out.trans (hb.mono B.out.size))
      have X := Lib.hid (X.out.below hb)
      have RF := Lib.hid (RF.out.below hb)
      have WB := Lib.hid (WB.out.below hb WB.out.lt)
      clear hb c0 c1 c2 c3 c4 c5 d0 d1 q0 q1 q2 PU hown
      obtain ⟨GXB, hG⟩ : ∃ x, x = wf.heap.size := ⟨_, rfl⟩
      go_upto_region 6 with fail
      rw [← hG] at XB ⊢
      obtain ⟨wfx, hW⟩ : ∃ x : World, x = wf.alloc (.cells #[.slice AX n cX, .slice AX' m2 cX'] 25) := ⟨_, rfl⟩
      rw [← hW] at B X RF WB XB ⊢
      clear hW hG
      have XB := Lib.hid XB
      obtain ⟨c0, c1, c2, c3, c4, c5, d0, d1, q0, q1, q2⟩ := X.out.cells
      obtain ⟨x0, x1⟩ := XB.out.cells
      go_wp2_with fail
      refine (RX.out AX cX AX' cX' m2 _ XB.out.dsk).mono ?_
      rintro e wg ⟨rfl, hb⟩
      have MB := Blk.new wg 31 [.int .u32 v, .int .i64 a, .int .u64 g]
      have hb := hb.alloc hb.size (.cells #[.int .u32 v, .int .i64 a, .int .u64 g] 31)
      have B := Lib.hid (B.out.trans (hb.mono B.out.size))
      have X := Lib.hid (X.out.below hb)
      have RF := Lib.hid (RF.out.below hb)
      have WB := Lib.hid (WB.out.below hb WB.out.lt)
      have XB := Lib.hid (XB.out.below hb)
      clear hb c0 c1 c2 c3 c4 c5 d0 d1 q0 q1 q2 RX x0 x1
      obtain ⟨GMB, hG⟩ : ∃ x, x = wg.heap.size := ⟨_, rfl⟩
      go_upto_region 9 with fail
      rw [← hG] at MB ⊢
      obtain ⟨wgx, hW⟩ : ∃ x : World, x = wg.alloc (.cells #[.int .u32 v, .int .i64 a, .int .u64 g] 31) := ⟨_, rfl⟩
      rw [← hW] at B X RF WB XB MB ⊢
      clear hW hG
      have MB := Lib.hid MB
      obtain ⟨c0, c1, c2, c3, c4, c5, d0, d1, q0, q1, q2⟩ := X.out.cells
      obtain ⟨x0, x1⟩ := XB.out.cells
      go_wp2_with fail
      refine (CR.out AX cX AX' cX' m2 _ XB.out.dsk RF.out).mono ?_
      rintro e wh ⟨AY, cY, AY', cY', rfl, hown, hb⟩
      have YB := DBox.new (Dsk.of_own hown)
      have hb := hb.alloc hb.size (.cells #[.slice AY n cY, .slice AY' 0 cY'] 25)
      have B := Lib.hid (B.out.trans (hb.mono B.out.size))
      have X := Lib.hid (X.out.below hb)
      have RF := Lib.hid (RF.out.below hb)
      have WB := Lib.hid (WB.out.below hb WB.out.lt)
      have XB := Lib.hid (XB.out.below hb)
      have MB := Lib.hid (MB.out.below hb MB.out.lt)
      clear hb c0 c1 c2 c3 c4 c5 d0 d1 q0 q1 q2 CR hown x0 x1
      obtain ⟨GYB, hG⟩ : ∃ x, x = wh.heap.size := ⟨_, rfl⟩
      go_upto_region 10 with fail
      rw [← hG] at YB ⊢
      obtain ⟨whx, hW⟩ : ∃ x : World, x = wh.alloc (.cells #[.slice AY n cY, .slice AY' 0 cY'] 25) := ⟨_, rfl⟩
      rw [← hW] at B X RF WB XB MB YB ⊢
      clear hW hG
      have YB := Lib.hid YB
      obtain ⟨c0, c1, c2, c3, c4, c5, d0, d1, q0, q1, q2⟩ := X.out.cells
      obtain ⟨y0, y1⟩ := YB.out.cells
      go_wp2_with fail
      refine (RY.out AY cY AY' cY' _ YB.out.dsk).mono ?_
      rintro e wi ⟨rfl, hb⟩
      have NB := Blk.new wi 31 [.int .u32 v, .int .i64 a, .int .u64 g]
      have hb := hb.alloc hb.size (.cells #[.int .u32 v, .int .i64 a, .int .u64 g] 31)
      have B := Lib.hid (B.out.trans (hb.mono B.out.size))
      have X := Lib.hid (X.out.below hb)
      have RF := Lib.hid (RF.out.below hb)
      have WB := Lib.hid (WB.out.below hb WB.out.lt)
      have XB := Lib.hid (XB.out.below hb)
      have MB := Lib.hid (MB.out.below hb MB.out.lt)
      have YB := Lib.hid (YB.out.below hb)
      clear hb c0 c1 c2 c3 c4 c5 d0 d1 q0 q1 q2 RY y0 y1
      obtain ⟨GNB, hG⟩ : ∃ x, x = wi.heap.size := ⟨_, rfl⟩
      go_upto_region 11 with fail
      rw [← hG] at NB ⊢
      obtain ⟨wix, hW⟩ : ∃ x : World, x = wi.alloc (.cells #[.int .u32 v, .int .i64 a, .int .u64 g] 31) := ⟨_, rfl⟩
      rw [← hW] at B X RF WB XB MB YB NB ⊢
      clear hW hG
      have NB := Lib.hid NB
      obtain ⟨c0, c1, c2, c3, c4, c5, d0, d1, q0, q1, q2⟩ := X.out.cells
      obtain ⟨x0, x1⟩ := XB.out.cells
      go_wp2_with fail
      refine (FL.out AX cX AX' cX' m2 _ XB.out.dsk).mono ?_
      rintro e wj ⟨AZ, cZ, AZ', cZ', rfl, hown, hb⟩
      have ZB := DBox.new (Dsk.of_own hown)
      have hb := hb.alloc hb.size (.cells #[.slice AZ n cZ, .slice AZ' 0 cZ'] 25)
      have B := Lib.hid (B.out.trans (hb.mono B.out.size))
      have X := Lib.hid (X.out.below hb)
      have RF := Lib.hid (RF.out.below hb)
      have WB := Lib.hid (WB.out.below hb WB.out.lt)
      have XB := Lib.hid (XB.out.below hb)
      have MB := Lib.hid (MB.out.below hb MB.out.lt)
      have YB := Lib.hid (YB.out.below hb)
      have NB := Lib.hid (NB.out.below hb NB.out.lt)
      clear hb c0 c1 c2 c3 c4 c5 d0 d1 q0 q1 q2 FL hown x0 x1
      obtain ⟨GZB, hG⟩ : ∃ x, x = wj.heap.size := ⟨_, rfl⟩
      go_upto_region 12 with fail
      rw [← hG] at ZB ⊢
      obtain ⟨wjx, hW⟩ : ∃ x : World, x = wj.alloc (.cells #[.slice AZ n cZ, .slice AZ' 0 cZ'] 25) := ⟨_, rfl⟩
      rw [← hW] at B X RF WB XB MB YB NB ZB ⊢
      clear hW hG
      have ZB := Lib.hid ZB
      obtain ⟨c0, c1, c2, c3, c4, c5, d0, d1, q0, q1, q2⟩ := X.out.cells
      obtain ⟨y0, y1⟩ := ZB.out.cells
      go_wp2_with fail
      refine (RZ.out AZ cZ AZ' cZ' _ ZB.out.dsk).mono ?_
      rintro e wk ⟨rfl, hb⟩
      have AB := Blk.new wk 31 [.int .u32 v, .int .i64 a, .int .u64 g]
      have hb := hb.alloc hb.size (.cells #[.int .u32 v, .int .i64 a, .int .u64 g] 31)
      have B := Lib.hid (B.out.trans (hb.mono B.out.size))
      have X := Lib.hid (X.out.below hb)
      have RF := Lib.hid (RF.out.below hb)
      have WB := Lib.hid (WB.out.below hb WB.out.lt)
      have XB := Lib.hid (XB.out.below hb)
      have MB := Lib.hid (MB.out.below hb MB.out.lt)
      have YB := Lib.hid (YB.out.below hb)
      have NB := Lib.hid (NB.out.below hb NB.out.lt)
      have ZB := Lib.hid (ZB.out.below hb)
      clear hb c0 c1 c2 c3 c4 c5 d0 d1 q0 q1 q2 RZ y0 y1
      obtain ⟨GAB, hG⟩ : ∃ x, x = wk.heap.size := ⟨_, rfl⟩
      go_upto_region 13 with fail
      rw [← hG] at AB ⊢
      obtain ⟨wkx, hW⟩ : ∃ x : World, x = wk.alloc (.cells #[.int .u32 v, .int .i64 a, .int .u64 g] 31) := ⟨_, rfl⟩
      rw [← hW] at B X RF WB XB MB YB NB ZB AB ⊢
      clear hW hG
      have AB := Lib.hid AB
      obtain ⟨c0, c1, c2, c3, c4, c5, d0, d1, q0, q1, q2⟩ := X.out.cells
      obtain ⟨i0, i1, i2⟩ := WB.out.tri
      obtain ⟨j0, j1, j2⟩ := MB.out.tri
      obtain ⟨k0, k1, k2⟩ := NB.out.tri
      obtain ⟨l0, l1, l2⟩ := AB.out.tri
      go_wp2
      go_ret
      exact ⟨rfl, B.out⟩
    · rw [k1, k2] at RY
      dsimp only at RY
      have EV := fun (wx : World) => eq_yes V1 V2 V3 wx
      clear k1 k2
      by_cases h0 : E1 = 0
      · subst h0
        have EN := fun (wx : World) => eq_no (k3 rfl) wx
        clear k3
        go_enter Try.func5, Try.ntmps5
        go_wp2_with fail
        rw [← hw0]
        clear hw0
        refine (alive_super _).mono ?_
        rintro e wa ⟨rfl, hb⟩
        have B := Lib.hid (B.out.trans (hb.mono B.out.size))
        have X := Lib.hid (X.out.below hb)
        have RF := Lib.hid (RF.out.below hb)
        clear hb c0 c1 c2 c3 c4 c5 d0 d1 q0 q1 q2
        obtain ⟨c0, c1, c2, c3, c4, c5, d0, d1, q0, q1, q2⟩ := X.out.cells
        go_wp2_with fail
        refine (GG.out _ X.out.two.dsk.dsk).mono ?_
        rintro e wb ⟨rfl, hb⟩
        have B := Lib.hid (B.out.trans (hb.mono B.out.size))
        have X := Lib.hid (X.out.below hb)
        have RF := Lib.hid (RF.out.below hb)
        clear hb c0 c1 c2 c3 c4 c5 d0 d1 q0 q1 q2
        obtain ⟨c0, c1, c2, c3, c4, c5, d0, d1, q0, q1, q2⟩ := X.out.cells
        go_wp2_with fail
        refine (RD.out _ X.out.two.dsk.dsk).mono ?_
        rintro e we ⟨rfl, hb⟩
        have WB := Blk.new we 31 [.int .u32 V1, .int .i64 V2, .int .u64 V3]
        have hb := hb.alloc hb.size (.cells #[.int .u32 V1, .int .i64 V2, .int .u64 V3] 31)
        have B := Lib.hid (B.out.trans (hb.mono B.out.size))
        have X := Lib.hid (X.out.below hb)
        have RF := Lib.hid (RF.out.below hb)
        clear hb c0 c1 c2 c3 c4 c5 d0 d1 q0 q1 q2 RD GG
        obtain ⟨GWB, hG⟩ : ∃ x, x = we.heap.size := ⟨_, rfl⟩
        go_upto_region 5 with fail
        rw [← hG] at WB ⊢
        obtain ⟨wex, hW⟩ : ∃ x : World, x = we.alloc (.cells #[.int .u32 V1, .int .i64 V2, .int .u64 V3] 31) := ⟨_, rfl⟩
        rw [← hW] at B X RF WB ⊢
        clear hW hG
        have WB := Lib.hid WB
        obtain ⟨c0, c1, c2, c3, c4, c5, d0, d1, q0, q1, q2⟩ := X.out.cells
        go_wp2_with fail
        refine (PU.out _ X.out.two.dsk.dsk).mono ?_
        rintro e wf ⟨AX, cX, AX', cX', rfl, hown, hb⟩
        have XB := DBox.new (Dsk.of_own hown)
        have hb := hb.alloc hb.size (.cells #[.slice AX n cX, .slice AX' m2 cX'] 25)
        have B := Lib.hid (B.out.trans (hb.mono B.out.size))
        have X := Lib.hid (X.out.below hb)
        have RF := Lib.hid (RF.out.below hb)
        have WB := Lib.hid (WB.out.below hb WB.out.lt)
        clear hb c0 c1 c2 c3 c4 c5 d0 d1 q0 q1 q2 PU hown
        obtain ⟨GXB, hG⟩ : ∃ x, x = wf.heap.size := ⟨_, rfl⟩
        go_upto_region 6 with fail
        rw [← hG] at XB ⊢
        obtain ⟨wfx, hW⟩ : ∃ x : World, x = wf.alloc (.cells #[.slice AX n cX, .slice AX' m2 cX'] 25) := ⟨_, rfl⟩
        rw [← hW] at B X RF WB XB ⊢
        clear hW hG
        have XB := Lib.hid XB
        obtain ⟨c0, c1, c2, c3, c4, c5, d0, d1, q0, q1, q2⟩ := X.out.cells
        obtain ⟨x0, x1⟩ := XB.out.cells
        go_wp2_with fail
        refine (RX.out AX cX AX' cX' m2 _ XB.out.dsk).mono ?_
        rintro e wg ⟨rfl, hb⟩
        have MB := Blk.new wg 31 [.int .u32 v, .int .i64 a, .int .u64 g]
        have hb := hb.alloc hb.size (.cells #[.int .u32 v, .int .i64 a, .int .u64 g] 31)
        have B := Lib.hid (B.out.trans (hb.mono B.out.size))
        have X := Lib.hid (X.out.below hb)
        have RF := Lib.hid (RF.out.below hb)
        have WB := Lib.hid (WB.out.below hb WB.out.lt)
        have XB := Lib.hid (XB.out.below hb)
        clear hb c0 c1 c2 c3 c4 c5 d0 d1 q0 q1 q2 RX x0 x1
        obtain ⟨GMB, hG⟩ : ∃ x, x = wg.heap.size := ⟨_, rfl⟩
        go_upto_region 9 with fail
        rw [← hG] at MB ⊢
        obtain ⟨wgx, hW⟩ : ∃ x : World, x = wg.alloc (.cells #[.int .u32 v, .int .i64 a, .int .u64 g] 31) := ⟨_, rfl⟩
        rw [← hW] at B X RF WB XB MB ⊢
        clear hW hG
        have MB := Lib.hid MB
        obtain ⟨c0, c1, c2, c3, c4, c5, d0, d1, q0, q1, q2⟩ := X.out.cells
        obtain ⟨x0, x1⟩ := XB.out.cells
        go_wp2_with fail
        refine (CR.out AX cX AX' cX' m2 _ XB.out.dsk RF.out).mono ?_
        rintro e wh ⟨AY, cY, AY', cY', rfl, hown, hb⟩
        have YB := DBox.new (Dsk.of_own hown)
        have hb := hb.alloc hb.size (.cells #[.slice AY n cY, .slice AY' 0 cY'] 25)
        have B := Lib.hid (B.out.trans (hb.mono B.out.size))
        have X := Lib.hid (X.out.below hb)
        have RF := Lib.hid (RF.out.below hb)
        have WB := Lib.hid (WB.out.below hb WB.out.lt)
        have XB := Lib.hid (XB.out.below hb)
        have MB := Lib.hid (MB.out.below hb MB.out.lt)
        clear hb c0 c1 c2 c3 c4 c5 d0 d1 q0 q1 q2 CR hown x0 x1
        obtain ⟨GYB, hG⟩ : ∃ x, x = wh.heap.size := ⟨_, rfl⟩
        go_upto_region 10 with fail
        rw [← hG] at YB ⊢
        obtain ⟨whx, hW⟩ : ∃ x : World, x = wh.alloc (.cells #[.slice AY n cY, .slice AY' 0 cY'] 25) := ⟨_, rfl⟩
        rw [← hW] at B X RF WB XB MB YB ⊢
        clear hW hG
        have YB := Lib.hid YB
        obtain ⟨c0, c1, c2, c3, c4, c5, d0, d1, q0, q1, q2⟩ := X.out.cells
        obtain ⟨y0, y1⟩ := YB.out.cells
        go_wp2_with fail
        refine (RY.out AY cY AY' cY' _ YB.out.dsk).mono ?_
        rintro e wi ⟨rfl, hb⟩
        have NB := Blk.new wi 31 [.int .u32 V1, .int .i64 V2, .int .u64 V3]
        have hb := hb.alloc hb.size (.cells #[.int .u32 V1, .int .i64 V2, .int .u64 V3] 31)
        have B := Lib.hid (B.out.trans (hb.mono B.out.size))
        have X := Lib.hid (X.out.below hb)
        have RF := Lib.hid (RF.out.below hb)
        have WB := Lib.hid (WB.out.below hb WB.out.lt)
        have XB := Lib.hid (XB.out.below hb)
        have MB := Lib.hid (MB.out.below hb MB.out.lt)
        have YB := Lib.hid (YB.out.below hb)
        clear hb c0 c1 c2 c3 c4 c5 d0 d1 q0 q1 q2 RY y0 y1
        obtain ⟨GNB, hG⟩ : ∃ x, x = wi.heap.size := ⟨_, rfl⟩
        go_upto_region 11 with fail
        rw [← hG] at NB ⊢
        obtain ⟨wix, hW⟩ : ∃ x : World, x = wi.alloc (.cells #[.int .u32 V1, .int .i64 V2, .int .u64 V3] 31) := ⟨_, rfl⟩
        rw [← hW] at B X RF WB XB MB YB NB ⊢
        clear hW hG
        have NB := Lib.hid NB
        obtain ⟨c0, c1, c2, c3, c4, c5, d0, d1, q0, q1, q2⟩ := X.out.cells
        obtain ⟨x0, x1⟩ := XB.out.cells
        go_wp2_with fail
        refine (FL.out AX cX AX' cX' m2 _ XB.out.dsk).mono ?_
        rintro e wj ⟨AZ, cZ, AZ', cZ', rfl, hown, hb⟩
        have ZB := DBox.new (Dsk.of_own hown)
        have hb := hb.alloc hb.size (.cells #[.slice AZ n cZ, .slice AZ' 0 cZ'] 25)
        have B := Lib.hid (B.out.trans (hb.mono B.out.size))
        have X := Lib.hid (X.out.below hb)
        have RF := Lib.hid (RF.out.below hb)
        have WB := Lib.hid (WB.out.below hb WB.out.lt)
        have XB := Lib.hid (XB.out.below hb)
        have MB := Lib.hid (MB.out.below hb MB.out.lt)
        have YB := Lib.hid (YB.out.below hb)
        have NB := Lib.hid (NB.out.below hb NB.out.lt)
        clear hb c0 c1 c2 c3 c4 c5 d0 d1 q0 q1 q2 FL hown x0 x1
        obtain ⟨GZB, hG⟩ : ∃ x, x = wj.heap.size := ⟨_, rfl⟩
        go_upto_region 12 with fail
        rw [← hG] at ZB ⊢
        obtain ⟨wjx, hW⟩ : ∃ x : World, x = wj.alloc (.cells #[.slice AZ n cZ, .slice AZ' 0 cZ'] 25) := ⟨_, rfl⟩
        rw [← hW] at B X RF WB XB MB YB NB ZB ⊢
        clear hW hG
        have ZB := Lib.hid ZB
        obtain ⟨c0, c1, c2, c3, c4, c5, d0, d1, q0, q1, q2⟩ := X.out.cells
        obtain ⟨y0, y1⟩ := ZB.out.cells
        go_wp2_with fail
        refine (RZ.out AZ cZ AZ' cZ' _ ZB.out.dsk).mono ?_
        rintro e wk ⟨rfl, hb⟩
        have AB := Blk.new wk 31 [.int .u32 v, .int .i64 a, .int .u64 g]
        have hb := hb.alloc hb.size (.cells #[.int .u32 v, .int .i64 a, .int .u64 g] 31)
        have B := Lib.hid (B.out.trans (hb.mono B.out.size))
        have X := Lib.hid (X.out.below hb)
        have RF := Lib.hid (RF.out.below hb)
        have WB := Lib.hid (WB.out.below hb WB.out.lt)
        have XB := Lib.hid (XB.out.below hb)
        have MB := Lib.hid (MB.out.below hb MB.out.lt)
        have YB := Lib.hid (YB.out.below hb)
        have NB := Lib.hid (NB.out.below hb NB.out.lt)
        have ZB := Lib.hid (ZB.out.below hb)
        clear hb c0 c1 c2 c3 c4 c5 d0 d1 q0 q1 q2 RZ y0 y1
        obtain ⟨GAB, hG⟩ : ∃ x, x = wk.heap.size := ⟨_, rfl⟩
        go_upto_region 13 with fail
        rw [← hG] at AB ⊢
        obtain ⟨wkx, hW⟩ : ∃ x : World, x = wk.alloc (.cells #[.int .u32 v, .int .i64 a, .int .u64 g] 31) := ⟨_, rfl⟩
        rw [← hW] at B X RF WB XB MB YB NB ZB AB ⊢
        clear hW hG
        have AB := Lib.hid AB
        obtain ⟨c0, c1, c2, c3, c4, c5, d0, d1, q0, q1, q2⟩ := X.out.cells
        obtain ⟨i0, i1, i2⟩ := WB.out.tri
        obtain ⟨j0, j1, j2⟩ := MB.out.tri
        obtain ⟨k0, k1, k2⟩ := NB.out.tri
        obtain ⟨l0, l1, l2⟩ := AB.out.tri
        go_wp2
        go_ret
        exact ⟨rfl, B.out⟩
      · have h1 : (E1 == 0) = false := beq_eq_false_iff_ne.2 h0
        clear k3 h0
        go_enter Try.func5, Try.ntmps5
        go_wp2_with fail
        rw [← hw0]
        clear hw0
        refine (alive_super _).mono ?_
        rintro e wa ⟨rfl, hb⟩
        have B := Lib.hid (B.out.trans (hb.mono B.out.size))
        have X := Lib.hid (X.out.below hb)
        have RF := Lib.hid (RF.out.below hb)
        clear hb c0 c1 c2 c3 c4 c5 d0 d1 q0 q1 q2
        obtain ⟨c0, c1, c2, c3, c4, c5, d0, d1, q0, q1, q2⟩ := X.out.cells
        go_wp2_with fail
        refine (GG.out _ X.out.two.dsk.dsk).mono ?_
        rintro e wb ⟨rfl, hb⟩
        have B := Lib.hid (B.out.trans (hb.mono B.out.size))
        have X := Lib.hid (X.out.below hb)
        have RF := Lib.hid (RF.out.below hb)
        clear hb c0 c1 c2 c3 c4 c5 d0 d1 q0 q1 q2
        obtain ⟨c0, c1, c2, c3, c4, c5, d0, d1, q0, q1, q2⟩ := X.out.cells
        go_wp2_with fail
        refine (RD.out _ X.out.two.dsk.dsk).mono ?_
        rintro e we ⟨rfl, hb⟩
        have WB := Blk.new we 31 [.int .u32 V1, .int .i64 V2, .int .u64 V3]
        have hb := hb.alloc hb.size (.cells #[.int .u32 V1, .int .i64 V2, .int .u64 V3] 31)
        have B := Lib.hid (B.out.trans (hb.mono B.out.size))
        have X := Lib.hid (X.out.below hb)
        have RF := Lib.hid (RF.out.below hb)
        clear hb c0 c1 c2 c3 c4 c5 d0 d1 q0 q1 q2 RD GG
        obtain ⟨GWB, hG⟩ : ∃ x, x = we.heap.size := ⟨_, rfl⟩
        go_upto_region 5 with fail
        rw [← hG] at WB ⊢
        obtain ⟨wex, hW⟩ : ∃ x : World, x = we.alloc (.cells #[.int .u32 V1, .int .i64 V2, .int .u64 V3] 31) := ⟨_, rfl⟩
        rw [← hW] at B X RF WB ⊢
        clear hW hG
        have WB := Lib.hid WB
        obtain ⟨c0, c1, c2, c3, c4, c5, d0, d1, q0, q1, q2⟩ := X.out.cells
        go_wp2_with fail
        refine (PU.out _ X.out.two.dsk.dsk).mono ?_
        rintro e wf ⟨AX, cX, AX', cX', rfl, hown, hb⟩
        have XB := DBox.new (Dsk.of_own hown)
        have hb := hb.alloc hb.size (.cells #[.slice AX n cX, .slice AX' m2 cX'] 25)
        have B := Lib.hid (B.out.trans (hb.mono B.out.size))
        have X := Lib.hid (X.out.below hb)
        have RF := Lib.hid (RF.out.below hb)
        have WB := Lib.hid (WB.out.below hb WB.out.lt)
        clear hb c0 c1 c2 c3 c4 c5 d0 d1 q0 q1 q2 PU hown
        obtain ⟨GXB, hG⟩ : ∃ x, x = wf.heap.size := ⟨_, rfl⟩
        go_upto_region 6 with fail
        rw [← hG] at XB ⊢
        obtain ⟨wfx, hW⟩ : ∃ x : World, x = wf.alloc (.cells #[.slice AX n cX, .slice AX' m2 cX'] 25) := ⟨_, rfl⟩
        rw [← hW] at B X RF WB XB ⊢
        clear hW hG
        have XB := Lib.hid XB
        obtain ⟨c0, c1, c2, c3, c4, c5, d0, d1, q0, q1, q2⟩ := X.out.cells
        obtain ⟨x0, x1⟩ := XB.out.cells
        go_wp2_with fail
        refine (RX.out AX cX AX' cX' m2 _ XB.out.dsk).mono ?_
        rintro e wg ⟨rfl, hb⟩
        have MB := Blk.new wg 31 [.int .u32 v, .int .i64 a, .int .u64 g]
        have hb := hb.alloc hb.size (.cells #[.int .u32 v, .int .i64 a, .int .u64 g] 31)
        have B := Lib.hid (B.out.trans (hb.mono B.out.size))
        have X := Lib.hid (X.out.below hb)
        have RF := Lib.hid (RF.out.below hb)
        have WB := Lib.hid (WB.out.below hb WB.out.lt)
        have XB := Lib.hid (XB.out.below hb)
        clear hb c0 c1 c2 c3 c4 c5 d0 d1 q0 q1 q2 RX x0 x1
        obtain ⟨GMB, hG⟩ : ∃ x, x = wg.heap.size := ⟨_, rfl⟩
        go_upto_region 9 with fail
        rw [← hG] at MB ⊢
        obtain ⟨wgx, hW⟩ : ∃ x : World, x = wg.alloc (.cells #[.int .u32 v, .int .i64 a, .int .u64 g] 31) := ⟨_, rfl⟩
        rw [← hW] at B X RF WB XB MB ⊢
        clear hW hG
        have MB := Lib.hid MB
        obtain ⟨c0, c1, c2, c3, c4, c5, d0, d1, q0, q1, q2⟩ := X.out.cells
        obtain ⟨x0, x1⟩ := XB.out.cells
        go_wp2_with fail
        refine (CR.out AX cX AX' cX' m2 _ XB.out.dsk RF.out).mono ?_
        rintro e wh ⟨AY, cY, AY', cY', rfl, hown, hb⟩
        have YB := DBox.new (Dsk.of_own hown)
        have hb := hb.alloc hb.size (.cells #[.slice AY n cY, .slice AY' 0 cY'] 25)
        have B := Lib.hid (B.out.trans (hb.mono B.out.size))
        have X := Lib.hid (X.out.below hb)
        have RF := Lib.hid (RF.out.below hb)
        have WB := Lib.hid (WB.out.below hb WB.out.lt)
        have XB := Lib.hid (XB.out.below hb)
        have MB := Lib.hid (MB.out.below hb MB.out.lt)
        clear hb c0 c1 c2 c3 c4 c5 d0 d1 q0 q1 q2 CR hown x0 x1
        obtain ⟨GYB, hG⟩ : ∃ x, x = wh.heap.size := ⟨_, rfl⟩
        go_upto_region 10 with fail
        rw [← hG] at YB ⊢
        obtain ⟨whx, hW⟩ : ∃ x : World, x = wh.alloc (.cells #[.slice AY n cY, .slice AY' 0 cY'] 25) := ⟨_, rfl⟩
        rw [← hW] at B X RF WB XB MB YB ⊢
        clear hW hG
        have YB := Lib.hid YB
        obtain ⟨c0, c1, c2, c3, c4, c5, d0, d1, q0, q1, q2⟩ := X.out.cells
        obtain ⟨y0, y1⟩ := YB.out.cells
        go_wp2_with fail
        refine (RY.out AY cY AY' cY' _ YB.out.dsk).mono ?_
        rintro e wi ⟨rfl, hb⟩
        have NB := Blk.new wi 31 [.int .u32 V1, .int .i64 V2, .int .u64 V3]
        have hb := hb.alloc hb.size (.cells #[.int .u32 V1, .int .i64 V2, .int .u64 V3] 31)
        have B := Lib.hid (B.out.trans (hb.mono B.out.size))
        have X := Lib.hid (X.out.below hb)
        have RF := Lib.hid (RF.out.below hb)
        have WB := Lib.hid (WB.out.below hb WB.out.lt)
        have XB := Lib.hid (XB.out.below hb)
        have MB := Lib.hid (MB.out.below hb MB.out.lt)
        have YB := Lib.hid (YB.out.below hb)
        clear hb c0 c1 c2 c3 c4 c5 d0 d1 q0 q1 q2 RY y0 y1
        obtain ⟨GNB, hG⟩ : ∃ x, x = wi.heap.size := ⟨_, rfl⟩
        go_upto_region 11 with fail
        rw [← hG] at NB ⊢
        obtain ⟨wix, hW⟩ : ∃ x : World, x = wi.alloc (.cells #[.int .u32 V1, .int .i64 V2, .int .u64 V3] 31) := ⟨_, rfl⟩
        rw [← hW] at B X RF WB XB MB YB NB ⊢
        clear hW hG
        have NB := Lib.hid NB
        obtain ⟨c0, c1, c2, c3, c4, c5, d0, d1, q0, q1, q2⟩ := X.out.cells
        obtain ⟨x0, x1⟩ := XB.out.cells
        go_wp2_with fail
        refine (FL.out AX cX AX' cX' m2 _ XB.out.dsk).mono ?_
        rintro e wj ⟨AZ, cZ, AZ', cZ', rfl, hown, hb⟩
        have ZB := DBox.new (Dsk.of_own hown)
        have hb := hb.alloc hb.size (.cells #[.slice AZ n cZ, .slice AZ' 0 cZ'] 25)
        have B := Lib.hid (B.out.trans (hb.mono B.out.size))
        have X := Lib.hid (X.out.below hb)
        have RF := Lib.hid (RF.out.below hb)
        have WB := Lib.hid (WB.out.below hb WB.out.lt)
        have XB := Lib.hid (XB.out.below hb)
        have MB := Lib.hid (MB.out.below hb MB.out.lt)
        have YB := Lib.hid (YB.out.below hb)
        have NB := Lib.hid (NB.out.below hb NB.out.lt)
        clear hb c0 c1 c2 c3 c4 c5 d0 d1 q0 q1 q2 FL hown x0 x1
        obtain ⟨GZB, hG⟩ : ∃ x, x = wj.heap.size := ⟨_, rfl⟩
        go_upto_region 12 with fail
        rw [← hG] at ZB ⊢
        obtain ⟨wjx, hW⟩ : ∃ x : World, x = wj.alloc (.cells #[.slice AZ n cZ, .slice AZ' 0 cZ'] 25) := ⟨_, rfl⟩
        rw [← hW] at B X RF WB XB MB YB NB ZB ⊢
        clear hW hG
        have ZB := Lib.hid ZB
        obtain ⟨c0, c1, c2, c3, c4, c5, d0, d1, q0, q1, q2⟩ := X.out.cells
        obtain ⟨y0, y1⟩ := ZB.out.cells
        go_wp2_with fail
        refine (RZ.out AZ cZ AZ' cZ' _ ZB.out.dsk).mono ?_
        rintro e wk ⟨rfl, hb⟩
        have AB := Blk.new wk 31 [.int .u32 v, .int .i64 a, .int .u64 g]
        have hb := hb.alloc hb.size (.cells #[.int .u32 v, .int .i64 a, .int .u64 g] 31)
        have B := Lib.hid (B.out.trans (hb.mono B.out.size))
        have X := Lib.hid (X.out.below hb)
        have RF := Lib.hid (RF.out.below hb)
        have WB := Lib.hid (WB.out.below hb WB.out.lt)
        have XB := Lib.hid (XB.out.below hb)
        have MB := Lib.hid (MB.out.below hb MB.out.lt)
        have YB := Lib.hid (YB.out.below hb)
        have NB := Lib.hid (NB.out.below hb NB.out.lt)
        have ZB := Lib.hid (ZB.out.below hb)
        clear hb c0 c1 c2 c3 c4 c5 d0 d1 q0 q1 q2 RZ y0 y1
        obtain ⟨GAB, hG⟩ : ∃ x, x = wk.heap.size := ⟨_, rfl⟩
        go_upto_region 13 with fail
        rw [← hG] at AB ⊢
        obtain ⟨wkx, hW⟩ : ∃ x : World, x = wk.alloc (.cells #[.int .u32 v, .int .i64 a, .int .u64 g] 31) := ⟨_, rfl⟩
        rw [← hW] at B X RF WB XB MB YB NB ZB AB ⊢
        clear hW hG
        have AB := Lib.hid AB
        obtain ⟨c0, c1, c2, c3, c4, c5, d0, d1, q0, q1, q2⟩ := X.out.cells
        obtain ⟨i0, i1, i2⟩ := WB.out.tri
        obtain ⟨j0, j1, j2⟩ := MB.out.tri
        obtain ⟨k0, k1, k2⟩ := NB.out.tri
        obtain ⟨l0, l1, l2⟩ := AB.out.tri
        go_wp2
        go_ret
        exact ⟨rfl, B.out⟩
  · have PU := Lib.hid (fun wx hx => put_no P T A M W Q D n c D' n' c' S C v a g wx hx SZ.out hi (fun h => Nat.le_of_not_lt fun h2 => hp ⟨h, h2⟩))
    clear hp hV hE1 hi hsl hFl hl1
    go_enter Try.func5, Try.ntmps5
    go_wp2_with fail
    rw [← hw0]
    clear hw0
    refine (alive_super _).mono ?_
    rintro e wa ⟨rfl, hb⟩
    have B := Lib.hid (B.out.trans (hb.mono B.out.size))
    have X := Lib.hid (X.out.below hb)
    have RF := Lib.hid (RF.out.below hb)
    clear hb c0 c1 c2 c3 c4 c5 d0 d1 q0 q1 q2
    obtain ⟨c0, c1, c2, c3, c4, c5, d0, d1, q0, q1, q2⟩ := X.out.cells
    go_wp2_with fail
    refine (GG.out _ X.out.two.dsk.dsk).mono ?_
    rintro e wb ⟨rfl, hb⟩
    have B := Lib.hid (B.out.trans (hb.mono B.out.size))
    have X := Lib.hid (X.out.below hb)
    have RF := Lib.hid (RF.out.below hb)
    clear hb c0 c1 c2 c3 c4 c5 d0 d1 q0 q1 q2
    obtain ⟨c0, c1, c2, c3, c4, c5, d0, d1, q0, q1, q2⟩ := X.out.cells
    go_wp2_with fail
    refine (RD.out _ X.out.two.dsk.dsk).mono ?_
    rintro e we ⟨rfl, hb⟩
    have WB := Blk.new we 31 [.int .u32 V1, .int .i64 V2, .int .u64 V3]
    have hb := hb.alloc hb.size (.cells #[.int .u32 V1, .int .i64 V2, .int .u64 V3] 31)
    have B := Lib.hid (B.out.trans (hb.mono B.out.size))
    have X := Lib.hid (X.out.below hb)
    have RF := Lib.hid (RF.out.below hb)
    clear hb c0 c1 c2 c3 c4 c5 d0 d1 q0 q1 q2 RD GG
    obtain ⟨GWB, hG⟩ : ∃ x, x = we.heap.size := ⟨_, rfl⟩
    go_upto_region 5 with fail
    rw [← hG] at WB ⊢
    obtain ⟨wex, hW⟩ : ∃ x : World, x = we.alloc (.cells #[.int .u32 V1, .int .i64 V2, .int .u64 V3] 31) := ⟨_, rfl⟩
    rw [← hW] at B X RF WB ⊢
    clear hW hG
    have WB := Lib.hid WB
    obtain ⟨c0, c1, c2, c3, c4, c5, d0, d1, q0, q1, q2⟩ := X.out.cells
    go_wp2_with fail
    refine (PU.out _ X.out.two.dsk.dsk).mono ?_
    rintro e wf ⟨rfl, hb⟩
    have hb := hb.alloc hb.size (.cells #[.slice D n c, .slice D' n' c'] 25)
    have B := Lib.hid (B.out.trans (hb.mono B.out.size))
    clear hb c0 c1 c2 c3 c4 c5 d0 d1 q0 q1 q2 PU
    go_wp2
    go_ret
    exact ⟨rfl, B.out⟩

end Go.Proofs.Ytncnppffllfbeaa
