/- Layer 8, TrackBack: the walk. -/
import Derived.Test.YtnmlplfcdnakhaaTrkB
namespace Go.Proofs.Ytnmlplfcdnakhaa
open Go.RowKit
set_option linter.unusedVariables false

set_option maxRecDepth 100000 in
set_option maxHeartbeats 12800000 in
theorem tback_of (P T A M W Q : Int) (D : Option Addr) (n c : Nat) (D' : Option Addr) (n' c' : Nat) (S : List Sec) (C : List Pnd) (l0 l1 l2 l3 : Int) (a3 : Option Addr) (len3 cap3 : Nat) (z3 : List Int) (w : World) (hq : Dsk w D n c D' n' c' S C) (w3 : IsRow .u8 w a3 len3 cap3 z3) :
    Calls Try.prog 12 #[cfgV P T A M W Q, diskV D n c D' n' c', .agg #[.int .i64 l0, .int .i64 l1, .int .i64 l2, .int .i64 l3], .slice a3 len3 cap3] w fun e w' => e = .returned (.bool true) ∧ Below w.heap.size w w' := by
  obtain ⟨x, hbel⟩ := ABox.new P T A M W Q l0 l1 l2 l3 hq
  obtain ⟨w0, hw0⟩ : ∃ x : World, x = ((w.alloc (.cells #[.int .i64 P, .int .i64 T, .int .i64 A, .int .i64 M, .int .i64 W, .int .i64 Q] 74)).alloc (.cells #[.slice D n c, .slice D' n' c'] 32)).alloc (.cells #[.int .i64 l0, .int .i64 l1, .int .i64 l2, .int .i64 l3] 107) := ⟨_, rfl⟩
  rw [← hw0] at x hbel
  obtain ⟨b, hb, hbw⟩ := w3.arg
  have hby : ∀ z ∈ b, isByte z := fun z hz => wf_byte (hbw z hz)
  have hbl := hb.len
  have BY := Lib.hid hby
  have X := Lib.hid x
  have B := Lib.hid hbel
  have RB := Lib.hid (hb.below hbel)
  have HSB := Lib.hid hq.secs.byte
  have HCB := Lib.hid hq.pnds.byte
  have hsl := hq.secs.len
  have hpl := hq.pnds.len
  obtain ⟨c0, c1, c2, c3, c4, c5, d0, d1, q0, q1, q2, q3⟩ := x.cells
  have gg := fun w hx => great_any D n c D' n' c' S C 300 w hx
  clear x hbel hq w3 hb hbw hby
  cases hg1 : greatD S C 300 with
  | true =>
    rw [hg1] at gg
    have GG := Lib.hid gg
    clear gg hg1 hbl hsl hpl
    go_enter Try.func12, Try.ntmps12
    go_wp2_with fail
    rw [← hw0]
    clear hw0
    refine (alive_track _).mono ?_
    rintro e wa ⟨rfl, hb⟩
    have B := Lib.hid (B.out.trans (hb.mono B.out.size))
    have X := Lib.hid (X.out.below hb)
    have RB := Lib.hid (RB.out.below hb)
    clear hb c0 c1 c2 c3 c4 c5 d0 d1 q0 q1 q2 q3
    obtain ⟨c0, c1, c2, c3, c4, c5, d0, d1, q0, q1, q2, q3⟩ := X.out.cells
    go_wp2_with fail
    refine (GG.out _ X.out.two.dsk.dsk).mono ?_
    rintro e wb ⟨rfl, hb⟩
    have B := Lib.hid (B.out.trans (hb.mono B.out.size))
    have X := Lib.hid (X.out.below hb)
    have RB := Lib.hid (RB.out.below hb)
    clear hb c0 c1 c2 c3 c4 c5 d0 d1 q0 q1 q2 q3
    obtain ⟨c0, c1, c2, c3, c4, c5, d0, d1, q0, q1, q2, q3⟩ := X.out.cells
    go_wp2
    go_ret
    exact ⟨rfl, B.out⟩
  | false =>
  rw [hg1] at gg
  have GG := Lib.hid gg
  have SZ := Lib.hid (small_ofD (by decide) (by decide) hg1)
  clear gg hg1
  by_cases hl1 : 100 < len3
  · have hl2 : (100 : Int) < (len3 : Int) := by omega
    clear hbl hl1 hsl hpl
    go_enter Try.func12, Try.ntmps12
    go_wp2_with fail
    rw [← hw0]
    clear hw0
    refine (alive_track _).mono ?_
    rintro e wa ⟨rfl, hb⟩
    have B := Lib.hid (B.out.trans (hb.mono B.out.size))
    have X := Lib.hid (X.out.below hb)
    have RB := Lib.hid (RB.out.below hb)
    clear hb c0 c1 c2 c3 c4 c5 d0 d1 q0 q1 q2 q3
    obtain ⟨c0, c1, c2, c3, c4, c5, d0, d1, q0, q1, q2, q3⟩ := X.out.cells
    go_wp2_with fail
    refine (GG.out _ X.out.two.dsk.dsk).mono ?_
    rintro e wb ⟨rfl, hb⟩
    have B := Lib.hid (B.out.trans (hb.mono B.out.size))
    have X := Lib.hid (X.out.below hb)
    have RB := Lib.hid (RB.out.below hb)
    clear hb c0 c1 c2 c3 c4 c5 d0 d1 q0 q1 q2 q3
    obtain ⟨c0, c1, c2, c3, c4, c5, d0, d1, q0, q1, q2, q3⟩ := X.out.cells
    go_wp2
    go_ret
    exact ⟨rfl, B.out⟩
  have hl2 : ¬ (100 : Int) < (len3 : Int) := by omega
  have WR := Lib.hid (fun wx hx (hr : Arg wx .u8 a3 len3 cap3 b) => twrite_any P T A M W Q D n c D' n' c' S C l0 l1 a3 len3 cap3 b wx hx SZ.out hr BY.out)
  have RD := Lib.hid (fun wx hx => tread_any P T A M W Q D n c D' n' c' S C l2 l3 wx hx SZ.out)
  unfold RowOut at RD
  obtain ⟨E2, hE2⟩ : ∃ v, v = trE P T A M W Q S C l2 l3 := ⟨_, rfl⟩
  obtain ⟨b2, hb2⟩ : ∃ v, v = trB P T A M W Q S C l2 l3 := ⟨_, rfl⟩
  rw [← hE2, ← hb2] at RD
  by_cases hE : twE P T A M W Q S C l0 l1 b = 0
  · obtain ⟨ha, hl28, hw⟩ := twE_zero hE
    obtain ⟨hp, h64⟩ := cwE_zero hw
    obtain ⟨hLl, _, _, hmay, hgood⟩ := cpL_good hp (sealed_byte BY.out)
    have hsm := small_more SZ.out hgood (k := (cpL S C (atT P T A l0 l1) 2 (sealed b)).length) h64
    rw [List.take_length] at hsm
    obtain ⟨k1, k2, k3⟩ := trk_back hE BY.out HSB.out HCB.out
    have e1 : twS P T A M W Q S C l0 l1 b = S := if_pos hE
    have e2 : twC P T A M W Q S C l0 l1 b = C ++ cpL S C (atT P T A l0 l1) 2 (sealed b) := if_pos hE
    have hk3 := k3 l2 l3
    obtain ⟨C2, hC2⟩ : ∃ x, x = C ++ cpL S C (atT P T A l0 l1) 2 (sealed b) := ⟨_, rfl⟩
    rw [← hC2] at hsm k1 k2 hk3 e2
    obtain ⟨m2, hm2⟩ : ∃ x, x = C2.length := ⟨_, rfl⟩
    have HW := Lib.hid (⟨e1, e2, hE⟩ : _ ∧ _ ∧ _)
    have HLN := Lib.hid (⟨hsl, hm2.symm⟩ : S.length = n ∧ C2.length = m2)
    have HSM := Lib.hid hsm
    have R1 := Lib.hid (fun A0 c0 A0' c0' wx (hx : Dsk wx A0 n c0 A0' m2 c0' S C2) => (show Calls Try.prog 60 #[cfgV P T A M W Q, diskV A0 n c0 A0' m2 c0', .int .i64 l0, .int .i64 l1] wx (fun e w' => ∃ A c, e = .returned (.tuple #[.slice A len3 c, .int .i64 0]) ∧ w'.ownsRow wx.heap.size 5 1 (.slice A len3 c) len3 (ints .u8 b) ∧ Below wx.heap.size wx w') from by
      have r := tread_any P T A M W Q A0 n c0 A0' m2 c0' S C2 l0 l1 wx hx HSM.out
      rw [k1] at r
      exact r.mono fun e w' h => RowOut.len h k2 (n := len3) hbl))
    have R3 := Lib.hid (fun A0 c0 A0' c0' wx (hx : Dsk wx A0 n c0 A0' m2 c0' S C2) => tread_any P T A M W Q A0 n c0 A0' m2 c0' S C2 l2 l3 wx hx HSM.out)
    unfold RowOut at R3
    have hst : ((strOfNums b).toList == (strOfNums b).toList) = true := beq_self_eq_true _
    have hst2 : ((strOfNums b2).toList == (strOfNums b2).toList) = true := beq_self_eq_true _
    have hee : (E2 == E2) = true := beq_self_eq_true _
    clear ha hl28 hw hp h64 hLl hmay hgood hsm k1 k2 k3 e1 e2 hC2 hm2 hE hsl hpl hbl hl1
    by_cases h02 : l0 = l2
    · subst h02
      have h02b : (l0 == l0) = true := beq_self_eq_true _
      by_cases h13 : l1 = l3
      · subst h13
        have h13b : (l1 == l1) = true := beq_self_eq_true _
        obtain ⟨E3, hE3⟩ : ∃ v, v = trE P T A M W Q S C2 l0 l1 := ⟨_, rfl⟩
        obtain ⟨b3, hb3⟩ : ∃ v, v = trB P T A M W Q S C2 l0 l1 := ⟨_, rfl⟩
        rw [← hE3, ← hb3] at R3
        obtain ⟨m3, hm3⟩ : ∃ m, m = b3.length := ⟨_, rfl⟩
        rw [← hm3] at R3
        obtain ⟨m4, hm4⟩ : ∃ m, m = b2.length := ⟨_, rfl⟩
        rw [← hm4] at RD
        clear hE3 hb3 hE2 hb2 hm3 hm4 hk3
        go_enter Try.func12, Try.ntmps12
        go_wp2_with fail
        rw [← hw0]
        clear hw0
        refine (alive_track _).mono ?_
        rintro e wa ⟨rfl, hb⟩
        have B := Lib.hid (B.out.trans (hb.mono B.out.size))
        have X := Lib.hid (X.out.below hb)
        have RB := Lib.hid (RB.out.below hb)
        clear hb c0 c1 c2 c3 c4 c5 d0 d1 q0 q1 q2 q3
        obtain ⟨c0, c1, c2, c3, c4, c5, d0, d1, q0, q1, q2, q3⟩ := X.out.cells
        go_wp2_with fail
        refine (GG.out _ X.out.two.dsk.dsk).mono ?_
        rintro e wb ⟨rfl, hb⟩
        have B := Lib.hid (B.out.trans (hb.mono B.out.size))
        have X := Lib.hid (X.out.below hb)
        have RB := Lib.hid (RB.out.below hb)
        clear hb c0 c1 c2 c3 c4 c5 d0 d1 q0 q1 q2 q3
        obtain ⟨c0, c1, c2, c3, c4, c5, d0, d1, q0, q1, q2, q3⟩ := X.out.cells
        go_wp2_with fail
        refine (WR.out _ X.out.two.dsk.dsk RB.out).mono ?_
        intro e wc hout
        obtain ⟨AX, cX, AX', cX', rfl, hown, hb⟩ := DiskOut.as hout (S' := S) (C' := C2) (E' := 0) (n := n) (n' := m2) HW.out.1 HW.out.2.1 HW.out.2.2 HLN.out.1 HLN.out.2
        have hkA : Below wc.heap.size wc (wc.alloc (.cells #[.slice AX n cX, .slice AX' m2 cX'] 32)) := (Below.refl _ _).alloc (Nat.le_refl _) _
        have hb := hb.trans (hkA.mono hb.size)
        have XX := DBox.new (Dsk.of_own hown)
        have B := Lib.hid (B.out.trans (hb.mono B.out.size))
        have X := Lib.hid (X.out.below hb)
        have RB := Lib.hid (RB.out.below hb)
        clear hb hkA hown hout WR c0 c1 c2 c3 c4 c5 d0 d1 q0 q1 q2 q3
        obtain ⟨GX, hGX⟩ : ∃ x, x = wc.heap.size := ⟨_, rfl⟩
        go_upto_region 5 with fail
        rw [← hGX] at XX ⊢
        obtain ⟨wd, hW⟩ : ∃ x : World, x = wc.alloc (.cells #[.slice AX n cX, .slice AX' m2 cX'] 32) := ⟨_, rfl⟩
        rw [← hW] at XX X B RB ⊢
        clear hW hGX
        have XX := Lib.hid XX
        obtain ⟨c0, c1, c2, c3, c4, c5, d0, d1, q0, q1, q2, q3⟩ := X.out.cells
        obtain ⟨x0, x1⟩ := XX.out.cells
        go_wp2_with fail
        refine (R1.out AX cX AX' cX' _ XX.out.dsk).mono ?_
        rintro e wf ⟨AN, cN, rfl, hown, hb⟩
        have O1 := Lib.hid hown
        have B := Lib.hid (B.out.trans (hb.mono B.out.size))
        have X := Lib.hid (X.out.below hb)
        have RB := Lib.hid (RB.out.below hb)
        have XX := Lib.hid (XX.out.below hb)
        clear hb hown R1 x0 x1 c0 c1 c2 c3 c4 c5 d0 d1 q0 q1 q2 q3
        obtain ⟨c0, c1, c2, c3, c4, c5, d0, d1, q0, q1, q2, q3⟩ := X.out.cells
        go_wp2_with fail
        refine (RD.out _ X.out.two.dsk.dsk).mono ?_
        rintro e wg ⟨AP, cP, rfl, hown, hb⟩
        have O2 := Lib.hid hown
        have B := Lib.hid (B.out.trans (hb.mono B.out.size))
        have X := Lib.hid (X.out.below hb)
        have RB := Lib.hid (RB.out.below hb)
        have XX := Lib.hid (XX.out.below hb)
        have O1 := Lib.hid (owns_below O1.out hb)
        clear hb hown RD c0 c1 c2 c3 c4 c5 d0 d1 q0 q1 q2 q3
        obtain ⟨c0, c1, c2, c3, c4, c5, d0, d1, q0, q1, q2, q3⟩ := X.out.cells
        obtain ⟨x0, x1⟩ := XX.out.cells
        go_wp2_with fail
        refine (R3.out AX cX AX' cX' _ XX.out.dsk).mono ?_
        rintro e wh ⟨AQ, cQ, rfl, hown, hb⟩
        have O3 := Lib.hid hown
        have B := Lib.hid (B.out.trans (hb.mono B.out.size))
        have X := Lib.hid (X.out.below hb)
        have RB := Lib.hid (RB.out.below hb)
        have XX := Lib.hid (XX.out.below hb)
        have O1 := Lib.hid (owns_below O1.out hb)
        have O2 := Lib.hid (owns_below O2.out hb)
        clear hb hown R3 x0 x1 c0 c1 c2 c3 c4 c5 d0 d1 q0 q1 q2 q3
        obtain ⟨c0, c1, c2, c3, c4, c5, d0, d1, q0, q1, q2, q3⟩ := X.out.cells
        have es1 := str_arg (Arg.own O1.out)
        have es2 := str_arg RB.out
        go_wp2
        go_ret
        exact ⟨rfl, B.out⟩
      · have h13b : (l1 == l3) = false := beq_eq_false_iff_ne.2 h13
        obtain ⟨j1, j2⟩ := hk3 (.inr h13)
        rw [← hE2] at j1
        rw [← hb2] at j2
        rw [j1, j2] at R3
        obtain ⟨m4, hm4⟩ : ∃ m, m = b2.length := ⟨_, rfl⟩
        rw [← hm4] at RD R3
        clear hE2 hb2 hm4 hk3 j1 j2
        clear h13
        go_enter Try.func12, Try.ntmps12
        go_wp2_with fail
        rw [← hw0]
        clear hw0
        refine (alive_track _).mono ?_
        rintro e wa ⟨rfl, hb⟩
        have B := Lib.hid (B.out.trans (hb.mono B.out.size))
        have X := Lib.hid (X.out.below hb)
        have RB := Lib.hid (RB.out.below hb)
        clear hb c0 c1 c2 c3 c4 c5 d0 d1 q0 q1 q2 q3
        obtain ⟨c0, c1, c2, c3, c4, c5, d0, d1, q0, q1, q2, q3⟩ := X.out.cells
        go_wp2_with fail
        refine (GG.out _ X.out.two.dsk.dsk).mono ?_
        rintro e wb ⟨rfl, hb⟩
        have B := Lib.hid (B.out.trans (hb.mono B.out.size))
        have X := Lib.hid (X.out.below hb)
        have RB := Lib.hid (RB.out.below hb)
        clear hb c0 c1 c2 c3 c4 c5 d0 d1 q0 q1 q2 q3
        obtain ⟨c0, c1, c2, c3, c4, c5, d0, d1, q0, q1, q2, q3⟩ := X.out.cells
        go_wp2_with fail
        refine (WR.out _ X.out.two.dsk.dsk RB.out).mono ?_
        intro e wc hout
        obtain ⟨AX, cX, AX', cX', rfl, hown, hb⟩ := DiskOut.as hout (S' := S) (C' := C2) (E' := 0) (n := n) (n' := m2) HW.out.1 HW.out.2.1 HW.out.2.2 HLN.out.1 HLN.out.2
        have hkA : Below wc.heap.size wc (wc.alloc (.cells #[.slice AX n cX, .slice AX' m2 cX'] 32)) := (Below.refl _ _).alloc (Nat.le_refl _) _
        have hb := hb.trans (hkA.mono hb.size)
        have XX := DBox.new (Dsk.of_own hown)
        have B := Lib.hid (B.out.trans (hb.mono B.out.size))
        have X := Lib.hid (X.out.below hb)
        have RB := Lib.hid (RB.out.below hb)
        clear hb hkA hown hout WR c0 c1 c2 c3 c4 c5 d0 d1 q0 q1 q2 q3
        obtain ⟨GX, hGX⟩ : ∃ x, x = wc.heap.size := ⟨_, rfl⟩
        go_upto_region 5 with fail
        rw [← hGX] at XX ⊢
        obtain ⟨wd, hW⟩ : ∃ x : World, x = wc.alloc (.cells #[.slice AX n cX, .slice AX' m2 cX'] 32) := ⟨_, rfl⟩
        rw [← hW] at XX X B RB ⊢
        clear hW hGX
        have XX := Lib.hid XX
        obtain ⟨c0, c1, c2, c3, c4, c5, d0, d1, q0, q1, q2, q3⟩ := X.out.cells
        obtain ⟨x0, x1⟩ := XX.out.cells
        go_wp2_with fail
        refine (R1.out AX cX AX' cX' _ XX.out.dsk).mono ?_
        rintro e wf ⟨AN, cN, rfl, hown, hb⟩
        have O1 := Lib.hid hown
        have B := Lib.hid (B.out.trans (hb.mono B.out.size))
        have X := Lib.hid (X.out.below hb)
        have RB := Lib.hid (RB.out.below hb)
        have XX := Lib.hid (XX.out.below hb)
        clear hb hown R1 x0 x1 c0 c1 c2 c3 c4 c5 d0 d1 q0 q1 q2 q3
        obtain ⟨c0, c1, c2, c3, c4, c5, d0, d1, q0, q1, q2, q3⟩ := X.out.cells
        go_wp2_with fail
        refine (RD.out _ X.out.two.dsk.dsk).mono ?_
        rintro e wg ⟨AP, cP, rfl, hown, hb⟩
        have O2 := Lib.hid hown
        have B := Lib.hid (B.out.trans (hb.mono B.out.size))
        have X := Lib.hid (X.out.below hb)
        have RB := Lib.hid (RB.out.below hb)
        have XX := Lib.hid (XX.out.below hb)
        have O1 := Lib.hid (owns_below O1.out hb)
        clear hb hown RD c0 c1 c2 c3 c4 c5 d0 d1 q0 q1 q2 q3
        obtain ⟨c0, c1, c2, c3, c4, c5, d0, d1, q0, q1, q2, q3⟩ := X.out.cells
        obtain ⟨x0, x1⟩ := XX.out.cells
        go_wp2_with fail
        refine (R3.out AX cX AX' cX' _ XX.out.dsk).mono ?_
        rintro e wh ⟨AQ, cQ, rfl, hown, hb⟩
        have O3 := Lib.hid hown
        have B := Lib.hid (B.out.trans (hb.mono B.out.size))
        have X := Lib.hid (X.out.below hb)
        have RB := Lib.hid (RB.out.below hb)
        have XX := Lib.hid (XX.out.below hb)
        have O1 := Lib.hid (owns_below O1.out hb)
        have O2 := Lib.hid (owns_below O2.out hb)
        clear hb hown R3 x0 x1 c0 c1 c2 c3 c4 c5 d0 d1 q0 q1 q2 q3
        obtain ⟨c0, c1, c2, c3, c4, c5, d0, d1, q0, q1, q2, q3⟩ := X.out.cells
        have es1 := str_arg (Arg.own O1.out)
        have es2 := str_arg RB.out
        have es3 := str_arg (Arg.own O2.out)
        have es4 := str_arg (Arg.own O3.out)
        go_wp2
        go_ret
        exact ⟨rfl, B.out⟩
    · have h02b : (l0 == l2) = false := beq_eq_false_iff_ne.2 h02
      obtain ⟨j1, j2⟩ := hk3 (.inl h02)
      rw [← hE2] at j1
      rw [← hb2] at j2
      rw [j1, j2] at R3
      obtain ⟨m4, hm4⟩ : ∃ m, m = b2.length := ⟨_, rfl⟩
      rw [← hm4] at RD R3
      clear hE2 hb2 hm4 hk3 j1 j2
      clear h02
      go_enter Try.func12, Try.ntmps12
      go_wp2_with fail
      rw [← hw0]
      clear hw0
      refine (alive_track _).mono ?_
      rintro e wa ⟨rfl, hb⟩
      have B := Lib.hid (B.out.trans (hb.mono B.out.size))
      have X := Lib.hid (X.out.below hb)
      have RB := Lib.hid (RB.out.below hb)
      clear hb c0 c1 c2 c3 c4 c5 d0 d1 q0 q1 q2 q3
      obtain ⟨c0, c1, c2, c3, c4, c5, d0, d1, q0, q1, q2, q3⟩ := X.out.cells
      go_wp2_with fail
      refine (GG.out _ X.out.two.dsk.dsk).mono ?_
      rintro e wb ⟨rfl, hb⟩
      have B := Lib.hid (B.out.trans (hb.mono B.out.size))
      have X := Lib.hid (X.out.below hb)
      have RB := Lib.hid (RB.out.below hb)
      clear hb c0 c1 c2 c3 c4 c5 d0 d1 q0 q1 q2 q3
      obtain ⟨c0, c1, c2, c3, c4, c5, d0, d1, q0, q1, q2, q3⟩ := X.out.cells
      go_wp2_with fail
      refine (WR.out _ X.out.two.dsk.dsk RB.out).mono ?_
      intro e wc hout
      obtain ⟨AX, cX, AX', cX', rfl, hown, hb⟩ := DiskOut.as hout (S' := S) (C' := C2) (E' := 0) (n := n) (n' := m2) HW.out.1 HW.out.2.1 HW.out.2.2 HLN.out.1 HLN.out.2
      have hkA : Below wc.heap.size wc (wc.alloc (.cells #[.slice AX n cX, .slice AX' m2 cX'] 32)) := (Below.refl _ _).alloc (Nat.le_refl _) _
      have hb := hb.trans (hkA.mono hb.size)
      have XX := DBox.new (Dsk.of_own hown)
      have B := Lib.hid (B.out.trans (hb.mono B.out.size))
      have X := Lib.hid (X.out.below hb)
      have RB := Lib.hid (RB.out.below hb)
      clear hb hkA hown hout WR c0 c1 c2 c3 c4 c5 d0 d1 q0 q1 q2 q3
      obtain ⟨GX, hGX⟩ : ∃ x, x = wc.heap.size := ⟨_, rfl⟩
      go_upto_region 5 with fail
      rw [← hGX] at XX ⊢
      obtain ⟨wd, hW⟩ : ∃ x : World, x = wc.alloc (.cells #[.slice AX n cX, .slice AX' m2 cX'] 32) := ⟨_, rfl⟩
      rw [← hW] at XX X B RB ⊢
      clear hW hGX
      have XX := Lib.hid XX
      obtain ⟨c0, c1, c2, c3, c4, c5, d0, d1, q0, q1, q2, q3⟩ := X.out.cells
      obtain ⟨x0, x1⟩ := XX.out.cells
      go_wp2_with fail
      refine (R1.out AX cX AX' cX' _ XX.out.dsk).mono ?_
      rintro e wf ⟨AN, cN, rfl, hown, hb⟩
      have O1 := Lib.hid hown
      have B := Lib.hid (B.out.trans (hb.mono B.out.size))
      have X := Lib.hid (X.out.below hb)
      have RB := Lib.hid (RB.out.below hb)
      have XX := Lib.hid (XX.out.below hb)
      clear hb hown R1 x0 x1 c0 c1 c2 c3 c4 c5 d0 d1 q0 q1 q2 q3
      obtain ⟨c0, c1, c2, c3, c4, c5, d0, d1, q0, q1, q2, q3⟩ := X.out.cells
      go_wp2_with fail
      refine (RD.out _ X.out.two.dsk.dsk).mono ?_
      rintro e wg ⟨AP, cP, rfl, hown, hb⟩
      have O2 := Lib.hid hown
      have B := Lib.hid (B.out.trans (hb.mono B.out.size))
      have X := Lib.hid (X.out.below hb)
      have RB := Lib.hid (RB.out.below hb)
      have XX := Lib.hid (XX.out.below hb)
      have O1 := Lib.hid (owns_below O1.out hb)
      clear hb hown RD c0 c1 c2 c3 c4 c5 d0 d1 q0 q1 q2 q3
      obtain ⟨c0, c1, c2, c3, c4, c5, d0, d1, q0, q1, q2, q3⟩ := X.out.cells
      obtain ⟨x0, x1⟩ := XX.out.cells
      go_wp2_with fail
      refine (R3.out AX cX AX' cX' _ XX.out.dsk).mono ?_
      rintro e wh ⟨AQ, cQ, rfl, hown, hb⟩
      have O3 := Lib.hid hown
      have B := Lib.hid (B.out.trans (hb.mono B.out.size))
      have X := Lib.hid (X.out.below hb)
      have RB := Lib.hid (RB.out.below hb)
      have XX := Lib.hid (XX.out.below hb)
      have O1 := Lib.hid (owns_below O1.out hb)
      have O2 := Lib.hid (owns_below O2.out hb)
      clear hb hown R3 x0 x1 c0 c1 c2 c3 c4 c5 d0 d1 q0 q1 q2 q3
      obtain ⟨c0, c1, c2, c3, c4, c5, d0, d1, q0, q1, q2, q3⟩ := X.out.cells
      have es1 := str_arg (Arg.own O1.out)
      have es2 := str_arg RB.out
      have es3 := str_arg (Arg.own O2.out)
      have es4 := str_arg (Arg.own O3.out)
      go_wp2
      go_ret
      exact ⟨rfl, B.out⟩
  · have e1 : twS P T A M W Q S C l0 l1 b = [] := if_neg hE
    have e2 : twC P T A M W Q S C l0 l1 b = [] := if_neg hE
    have HW := Lib.hid (⟨e1, e2⟩ : _ ∧ _)
    obtain ⟨E, hEE⟩ : ∃ v, v = twE P T A M W Q S C l0 l1 b := ⟨_, rfl⟩
    have HE := Lib.hid hEE.symm
    have hne : (E != 0) = true := bne_iff_ne.2 (by rw [hEE]; exact hE)
    clear e1 e2 hE hEE hE2 hb2 RD hsl hpl hbl hl1
    go_enter Try.func12, Try.ntmps12
    go_wp2_with fail
    rw [← hw0]
    clear hw0
    refine (alive_track _).mono ?_
    rintro e wa ⟨rfl, hb⟩
    have B := Lib.hid (B.out.trans (hb.mono B.out.size))
    have X := Lib.hid (X.out.below hb)
    have RB := Lib.hid (RB.out.below hb)
    clear hb c0 c1 c2 c3 c4 c5 d0 d1 q0 q1 q2 q3
    obtain ⟨c0, c1, c2, c3, c4, c5, d0, d1, q0, q1, q2, q3⟩ := X.out.cells
    go_wp2_with fail
    refine (GG.out _ X.out.two.dsk.dsk).mono ?_
    rintro e wb ⟨rfl, hb⟩
    have B := Lib.hid (B.out.trans (hb.mono B.out.size))
    have X := Lib.hid (X.out.below hb)
    have RB := Lib.hid (RB.out.below hb)
    clear hb c0 c1 c2 c3 c4 c5 d0 d1 q0 q1 q2 q3
    obtain ⟨c0, c1, c2, c3, c4, c5, d0, d1, q0, q1, q2, q3⟩ := X.out.cells
    go_wp2_with fail
    refine (WR.out _ X.out.two.dsk.dsk RB.out).mono ?_
    intro e wc hout
    obtain ⟨AX, cX, AX', cX', rfl, hown, hb⟩ := DiskOut.as hout (S' := []) (C' := []) (E' := E) (n := 0) (n' := 0) HW.out.1 HW.out.2 HE.out rfl rfl
    have B := Lib.hid (B.out.trans ((hb.alloc hb.size (.cells #[.slice AX 0 cX, .slice AX' 0 cX'] 32)).mono B.out.size))
    have XX := DBox.new (Dsk.of_own hown)
    obtain ⟨x0, x1⟩ := XX.cells
    clear hout hown hb WR XX c0 c1 c2 c3 c4 c5 d0 d1 q0 q1 q2 q3
    go_wp2
    go_ret
    exact ⟨rfl, B.out⟩

end Go.Proofs.Ytnmlplfcdnakhaa
