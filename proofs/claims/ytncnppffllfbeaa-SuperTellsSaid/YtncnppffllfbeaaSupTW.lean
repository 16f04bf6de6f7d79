/- Layer 9, SuperTells: the walk. -/
import Derived.Test.YtncnppffllfbeaaSupR
namespace Go.Proofs.Ytncnppffllfbeaa
open Go.RowKit
set_option linter.unusedVariables false

theorem spL_len (P T A M W Q : Int) (S : List Sec) (C : List Pnd) (s : Sup) : (spL P T A M W Q S C s).length ≤ 1000 := by
  unfold spL
  split
  · rename_i h; rw [(spL_good h).1]; decide
  · simp

set_option maxRecDepth 100000 in
set_option maxHeartbeats 12800000 in
theorem stells_of (P T A M W Q : Int) (D : Option Addr) (n c : Nat) (D' : Option Addr) (n' c' : Nat) (S : List Sec) (C : List Pnd) (v a g : Int) (w : World) (hq : Dsk w D n c D' n' c' S C) (hi : isS (v, a, g)) :
    Calls Try.prog 4 #[cfgV P T A M W Q, diskV D n c D' n' c', supV v a g] w fun e w' => e = .returned (.bool true) ∧ Below w.heap.size w w' := by
  obtain ⟨x, hbel⟩ := SBox.new P T A M W Q v a g hq
  obtain ⟨w0, hw0⟩ : ∃ x : World, x = ((w.alloc (.cells #[.int .i64 P, .int .i64 T, .int .i64 A, .int .i64 M, .int .i64 W, .int .i64 Q] 37)).alloc (.cells #[.slice D n c, .slice D' n' c'] 25)).alloc (.cells #[.int .u32 v, .int .i64 a, .int .u64 g] 31) := ⟨_, rfl⟩
  rw [← hw0] at x hbel
  have X := Lib.hid x
  have B := Lib.hid hbel
  obtain ⟨c0, c1, c2, c3, c4, c5, d0, d1, q0, q1, q2⟩ := x.cells
  have gg := fun w hx => great_any D n c D' n' c' S C 300 w hx
  clear x hbel hq
  cases hg1 : greatD S C 300 with
  | true =>
    rw [hg1] at gg
    have GG := Lib.hid gg
    clear gg hg1
    go_enter Try.func4, Try.ntmps4
    go_wp2_with fail
    rw [← hw0]
    clear hw0
    refine (GG.out _ X.out.two.dsk.dsk).mono ?_
    rintro e w1 ⟨rfl, hb⟩
    have B := Lib.hid (B.out.trans (hb.mono B.out.size))
    clear hb c0 c1 c2 c3 c4 c5 d0 d1 q0 q1 q2
    go_wp2
    go_ret
    exact ⟨rfl, B.out⟩
  | false =>
  rw [hg1] at gg
  have GG := Lib.hid gg
  have SZ := Lib.hid (small_ofD (by decide) (by decide) hg1)
  clear gg hg1
  have TW := Lib.hid (fun wx hx => twin_any D n c D' n' c' S C wx hx SZ.out)
  have RD := Lib.hid (fun A0 c0 A0' c0' wx (hx : Dsk wx A0 n c0 A0' n' c0' S C) => sread_any P T A M W Q A0 n c0 A0' n' c0' S C wx hx SZ.out)
  have RR := Lib.hid (fun wx hx => rread9_any P T A M W Q D n c D' n' c' S C wx hx SZ.out)
  have PD := Lib.hid (fun A0 c0 A0' c0' wx (hx : Dsk wx A0 n c0 A0' n' c0' S C) => splan_any P T A M W Q A0 n c0 A0' n' c0' S C v a g wx hx SZ.out hi)
  have PR := Lib.hid (fun wx hx => rplan9_any P T A M W Q D n c D' n' c' S C v a g wx hx SZ.out hi)
  have SY := Lib.hid (fun A0 c0 A0' c0' wx (hx : Dsk wx A0 n c0 A0' n' c0' S C) hy => same_yes A0 n c0 A0' n' c0' S C D n c D' n' c' wx hx hy)
  unfold SupOut at RD RR
  unfold PlanOut at PD
  unfold RPlan at PR
  obtain ⟨E1, hE1⟩ : ∃ v, v = srE P T A M W Q S C := ⟨_, rfl⟩
  obtain ⟨V1, hV1⟩ : ∃ v, v = (srV P T A M W Q S C).1 := ⟨_, rfl⟩
  obtain ⟨V2, hV2⟩ : ∃ v, v = (srV P T A M W Q S C).2.1 := ⟨_, rfl⟩
  obtain ⟨V3, hV3⟩ : ∃ v, v = (srV P T A M W Q S C).2.2 := ⟨_, rfl⟩
  rw [← hE1, ← hV1, ← hV2, ← hV3] at RD RR
  obtain ⟨E2, hE2⟩ : ∃ y, y = spE P T A M W Q S C (v, a, g) := ⟨_, rfl⟩
  obtain ⟨L, hL⟩ : ∃ y, y = spL P T A M W Q S C (v, a, g) := ⟨_, rfl⟩
  have hlen := spL_len P T A M W Q S C (v, a, g)
  rw [← hE2, ← hL] at PD PR
  rw [← hL] at hlen
  obtain ⟨m, hm⟩ : ∃ m, m = L.length := ⟨_, rfl⟩
  rw [← hm] at PD PR hlen
  have SP := Lib.hid (fun A1 c1 A2 c2 wx h1 h2 => rsamep_yes A1 m c1 A2 c2 L wx h1 h2 hlen)
  have ev : (V1 == V1) = true := beq_self_eq_true _
  have ea : (V2 == V2) = true := beq_self_eq_true _
  have eg : (V3 == V3) = true := beq_self_eq_true _
  have ee1 : (E1 == E1) = true := beq_self_eq_true _
  have ee2 : (E2 == E2) = true := beq_self_eq_true _
  have EQ := fun (wx : World) => eq_sup V1 V2 V3 V1 V2 V3 wx
  clear hE1 hV1 hV2 hV3 hE2 hL hm hlen hi
  go_enter Try.func4, Try.ntmps4
  go_wp2_with fail
  rw [← hw0]
  clear hw0
  refine (GG.out _ X.out.two.dsk.dsk).mono ?_
  rintro e w1 ⟨rfl, hb⟩
  have B := Lib.hid (B.out.trans (hb.mono B.out.size))
  have X := Lib.hid (X.out.below hb)
  clear hb c0 c1 c2 c3 c4 c5 d0 d1 q0 q1 q2 GG
  obtain ⟨c0, c1, c2, c3, c4, c5, d0, d1, q0, q1, q2⟩ := X.out.cells
  go_wp2_with fail
  refine (TW.out _ X.out.two.dsk.dsk).mono ?_
  rintro e w2 ⟨A2, x2, A2', x2', rfl, hown, hb⟩
  have hkA : Below w2.heap.size w2 (w2.alloc (.cells #[.slice A2 n x2, .slice A2' n' x2'] 25)) := (Below.refl _ _).alloc (Nat.le_refl _) _
  have hb3 := hb.trans (hkA.mono hb.size)
  have O := DBox.new (Dsk.of_own hown)
  have B := Lib.hid (B.out.trans (hb3.mono B.out.size))
  have X := Lib.hid (X.out.below hb3)
  clear hb hb3 hkA c0 c1 c2 c3 c4 c5 d0 d1 q0 q1 q2 TW hown
  obtain ⟨G, hG⟩ : ∃ x, x = w2.heap.size := ⟨_, rfl⟩
  go_upto_region 4 with fail
  rw [← hG] at O ⊢
  obtain ⟨w3, hW⟩ : ∃ x : World, x = w2.alloc (.cells #[.slice A2 n x2, .slice A2' n' x2'] 25) := ⟨_, rfl⟩
  rw [← hW] at O X B ⊢
  clear hW hG
  have O := Lib.hid O
  obtain ⟨c0, c1, c2, c3, c4, c5, d0, d1, q0, q1, q2⟩ := X.out.cells
  obtain ⟨o0, o1⟩ := O.out.cells
  go_wp2_with fail
  refine (RD.out A2 x2 A2' x2' _ O.out.dsk).mono ?_
  rintro e w4 ⟨rfl, hb⟩
  have Y1 := Blk.new w4 31 [.int .u32 V1, .int .i64 V2, .int .u64 V3]
  have hb := hb.alloc hb.size (.cells #[.int .u32 V1, .int .i64 V2, .int .u64 V3] 31)
  have B := Lib.hid (B.out.trans (hb.mono B.out.size))
  have X := Lib.hid (X.out.below hb)
  have O := Lib.hid (O.out.below hb)
  clear hb c0 c1 c2 c3 c4 c5 d0 d1 q0 q1 q2 o0 o1
  obtain ⟨GY1, hG⟩ : ∃ x, x = w4.heap.size := ⟨_, rfl⟩
  go_upto_region 5 with fail
  rw [← hG] at Y1 ⊢
  obtain ⟨w5, hW⟩ : ∃ x : World, x = w4.alloc (.cells #[.int .u32 V1, .int .i64 V2, .int .u64 V3] 31) := ⟨_, rfl⟩
  rw [← hW] at B X O Y1 ⊢
  clear hW hG
  have Y1 := Lib.hid Y1
  obtain ⟨c0, c1, c2, c3, c4, c5, d0, d1, q0, q1, q2⟩ := X.out.cells
  obtain ⟨o0, o1⟩ := O.out.cells
  go_wp2_with fail
  refine (RR.out _ X.out.two.dsk.dsk).mono ?_
  rintro e w6 ⟨rfl, hb⟩
  have Y2 := Blk.new w6 31 [.int .u32 V1, .int .i64 V2, .int .u64 V3]
  have hb := hb.alloc hb.size (.cells #[.int .u32 V1, .int .i64 V2, .int .u64 V3] 31)
  have B := Lib.hid (B.out.trans (hb.mono B.out.size))
  have X := Lib.hid (X.out.below hb)
  have O := Lib.hid (O.out.below hb)
  have Y1 := Lib.hid (Y1.out.below hb Y1.out.lt)
  clear hb c0 c1 c2 c3 c4 c5 d0 d1 q0 q1 q2 o0 o1
  obtain ⟨GY2, hG⟩ : ∃ x, x = w6.heap.size := ⟨_, rfl⟩
  go_upto_region 6 with fail
  rw [← hG] at Y2 ⊢
  obtain ⟨w7, hW⟩ : ∃ x : World, x = w6.alloc (.cells #[.int .u32 V1, .int .i64 V2, .int .u64 V3] 31) := ⟨_, rfl⟩
  rw [← hW] at B X O Y1 Y2 ⊢
  clear hW hG
  have Y2 := Lib.hid Y2
  obtain ⟨c0, c1, c2, c3, c4, c5, d0, d1, q0, q1, q2⟩ := X.out.cells
  obtain ⟨o0, o1⟩ := O.out.cells
  go_wp2_with fail
  refine (PD.out A2 x2 A2' x2' _ O.out.dsk).mono ?_
  rintro e w8 ⟨AL, cL, rfl, hown, hb⟩
  have L1 := Lib.hid (Pnds.of_own hown)
  have B := Lib.hid (B.out.trans (hb.mono B.out.size))
  have X := Lib.hid (X.out.below hb)
  have O := Lib.hid (O.out.below hb)
  have Y1 := Lib.hid (Y1.out.below hb Y1.out.lt)
  have Y2 := Lib.hid (Y2.out.below hb Y2.out.lt)
  clear hb hown c0 c1 c2 c3 c4 c5 d0 d1 q0 q1 q2 o0 o1 PD
  obtain ⟨c0, c1, c2, c3, c4, c5, d0, d1, q0, q1, q2⟩ := X.out.cells
  go_wp2_with fail
  refine (PR.out _ X.out.two.dsk.dsk).mono ?_
  rintro e w9 ⟨AK, cK, rfl, hown, hb⟩
  have L2 := Lib.hid hown
  have B := Lib.hid (B.out.trans (hb.mono B.out.size))
  have X := Lib.hid (X.out.below hb)
  have O := Lib.hid (O.out.below hb)
  have Y1 := Lib.hid (Y1.out.below hb Y1.out.lt)
  have Y2 := Lib.hid (Y2.out.below hb Y2.out.lt)
  have L1 := Lib.hid (L1.out.below hb)
  clear hb hown c0 c1 c2 c3 c4 c5 d0 d1 q0 q1 q2 PR
  obtain ⟨c0, c1, c2, c3, c4, c5, d0, d1, q0, q1, q2⟩ := X.out.cells
  obtain ⟨o0, o1⟩ := O.out.cells
  obtain ⟨y0, y1, y2⟩ := Y1.out.tri
  obtain ⟨z0, z1, z2⟩ := Y2.out.tri
  go_wp2_with fail
  refine (SP.out AL cL AK cK _ L1.out L2.out).mono ?_
  rintro e w10 ⟨rfl, hb⟩
  have B := Lib.hid (B.out.trans (hb.mono B.out.size))
  have X := Lib.hid (X.out.below hb)
  have O := Lib.hid (O.out.below hb)
  have Y1 := Lib.hid (Y1.out.below hb Y1.out.lt)
  have Y2 := Lib.hid (Y2.out.below hb Y2.out.lt)
  have L1 := Lib.hid (L1.out.below hb)
  clear hb c0 c1 c2 c3 c4 c5 d0 d1 q0 q1 q2 o0 o1 y0 y1 y2 z0 z1 z2 SP
  obtain ⟨c0, c1, c2, c3, c4, c5, d0, d1, q0, q1, q2⟩ := X.out.cells
  obtain ⟨o0, o1⟩ := O.out.cells
  go_wp2_with fail
  refine (SY.out A2 x2 A2' x2' _ O.out.dsk X.out.two.dsk.dsk).mono ?_
  rintro e w11 ⟨rfl, hb⟩
  have B := Lib.hid (B.out.trans (hb.mono B.out.size))
  clear hb c0 c1 c2 c3 c4 c5 d0 d1 q0 q1 q2 o0 o1 SY
  go_wp2
  go_ret
  exact ⟨rfl, B.out⟩

end Go.Proofs.Ytncnppffllfbeaa
