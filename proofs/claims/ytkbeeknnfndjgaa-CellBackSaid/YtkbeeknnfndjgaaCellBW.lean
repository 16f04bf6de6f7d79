/- Layer 6, CellBack: the walk. -/
import Derived.Test.YtkbeeknnfndjgaaCellBl
import Derived.Test.YtkbeeknnfndjgaaCellA4
namespace Go.Proofs.Ytkbeeknnfndjgaa
open Go.RowKit
set_option linter.unusedVariables false

theorem cpL_range {S : List Sec} {C : List Pnd} {a m : Nat} {b : Txt} (h : cpE S C a m b = 0) : ∀ p ∈ cpL S C a m b, (a : Int) ≤ p.1 ∧ p.1 < (a : Int) + 2 * (m : Int) := by
  have hL : cpL S C a m b = writesP ((a : Int) + hF m (optsOf S C a (2 * m)) * (m : Int)) (cpT S C a m b) m := by unfold cpL; rw [if_pos h, Int.toNat_natCast]
  rw [hL]
  intro p hp
  unfold writesP someP at hp
  obtain ⟨i, hi, rfl⟩ := List.mem_map.1 hp
  have hi := List.mem_range.1 hi
  rw [if_pos hi]
  dsimp only
  rcases hF_two m (optsOf S C a (2 * m)) with h | h <;> rw [h] <;> omega
theorem Pnds.front {w : World} {A : Option Addr} {n m c : Nat} {C L : List Pnd} (h : Pnds w A (n + m) c (C ++ L)) (hn : C.length = n) : Pnds w A n c C := by
  refine ⟨hn, Nat.le_trans (Nat.le_add_right _ _) h.cap, h.max, fun s hs => h.byte s (List.mem_append_left _ hs), fun i hi => ?_⟩
  obtain ⟨b, o, Ai, ni, ci, e, hlt, h1, h2, h3⟩ := h.at_ i (by omega)
  have e2 : (C ++ L).getD i (0, []) = C.getD i (0, []) := by rw [List.getD_eq_getElem?_getD, List.getD_eq_getElem?_getD, List.getElem?_append_left (by omega)]
  rw [e2] at h2 h3
  exact ⟨b, o, Ai, ni, ci, e, hlt, h1, h2, h3⟩
theorem getD_back {C L : List Pnd} {n i : Nat} (hn : C.length = n) (h : n ≤ i) : (C ++ L).getD i (0, []) = L.getD (i - n) (0, []) := by
  rw [List.getD_eq_getElem?_getD, List.getD_eq_getElem?_getD, List.getElem?_append_right (by omega), hn]

theorem wrap64_smallJ {x : Int} (h0 : 0 ≤ x) (h1 : x ≤ 1000) : wrap64 x = x := by unfold wrap64; omega

set_option maxRecDepth 100000 in
set_option maxHeartbeats 12800000 in
theorem cback_of (a0 : Option Addr) (len0 cap0 : Nat) (b0 : Option Addr) (len1 cap1 : Nat) (S : List Sec) (C : List Pnd) (at_ wd : Int) (a3 : Option Addr) (len3 cap3 : Nat) (z3 : List Int) (w : World) (w0 : Dsk w a0 len0 cap0 b0 len1 cap1 S C) (w3 : IsRow .u8 w a3 len3 cap3 z3) :
    Calls Try.prog 11 #[diskV a0 len0 cap0 b0 len1 cap1, .int .i64 at_, .int .i64 wd, .slice a3 len3 cap3] w fun e w' => e = .returned (.bool true) ∧ Below w.heap.size w w' := by
  obtain ⟨b, hb, hbw⟩ := w3.arg
  have hby : ∀ z ∈ b, isByte z := fun z hz => wf_byte (hbw z hz)
  have BY8 := Lib.hid hby
  have hbel : Below w.heap.size w (w.alloc (.cells #[.slice a0 len0 cap0, .slice b0 len1 cap1] 25)) := (Below.refl _ _).alloc (Nat.le_refl _) _
  have XQ := Lib.hid (DBox.new w0)
  have HD0 := Lib.hid w0
  have RB := Lib.hid (hb.below hbel)
  have B := Lib.hid hbel
  have HSB := Lib.hid w0.secs.byte
  have HCB := Lib.hid w0.pnds.byte
  have hcl := w0.pnds.len
  have gg := fun w hx => great_any a0 len0 cap0 b0 len1 cap1 S C 60 w hx
  obtain ⟨c0, c1⟩ := XQ.out.cells
  have hbl := hb.len
  have hbc := Nat.le_trans hb.cap hb.max
  unfold maxLen at hbc
  clear w0 w3 hb hbw hby hbel
  cases hg1 : greatD S C 60 with
  | true =>
    rw [hg1] at gg
    have GG := Lib.hid gg
    clear gg hg1 hbl hcl
    go_enter Try.func11, Try.ntmps11
    go_wp2_with fail
    refine (alive_cell _).mono ?_
    rintro e wa ⟨rfl, hb1⟩
    have B := Lib.hid (B.out.trans (hb1.mono B.out.size))
    have XQ := Lib.hid (XQ.out.below hb1)
    have RB := Lib.hid (RB.out.below hb1)
    clear hb1 c0 c1
    obtain ⟨c0, c1⟩ := XQ.out.cells
    have G1 := Lib.hid (GG.out wa XQ.out.dsk)
    go_wp2_with fail
    refine G1.out.mono ?_
    rintro e wb ⟨rfl, hb3⟩
    have B := Lib.hid (B.out.trans (hb3.mono B.out.size))
    have XQ := Lib.hid (XQ.out.below hb3)
    have RB := Lib.hid (RB.out.below hb3)
    clear hb3 c0 c1 G1 GG
    obtain ⟨c0, c1⟩ := XQ.out.cells
    go_wp2
    go_ret
    exact ⟨rfl, B.out⟩
  | false =>
    rw [hg1] at gg
    have GG := Lib.hid gg
    have SZ := Lib.hid (small_ofD (by decide) (by decide) hg1)
    clear gg hg1
    by_cases hl1 : 200 < len3
    · have hl2 : (200 : Int) < (len3 : Int) := by omega
      clear hbl hl1 hcl
      go_enter Try.func11, Try.ntmps11
      go_wp2_with fail
      refine (alive_cell _).mono ?_
      rintro e wa ⟨rfl, hb1⟩
      have B := Lib.hid (B.out.trans (hb1.mono B.out.size))
      have XQ := Lib.hid (XQ.out.below hb1)
      have RB := Lib.hid (RB.out.below hb1)
      clear hb1 c0 c1
      obtain ⟨c0, c1⟩ := XQ.out.cells
      have G1 := Lib.hid (GG.out wa XQ.out.dsk)
      go_wp2_with fail
      refine G1.out.mono ?_
      rintro e wb ⟨rfl, hb3⟩
      have B := Lib.hid (B.out.trans (hb3.mono B.out.size))
      have XQ := Lib.hid (XQ.out.below hb3)
      have RB := Lib.hid (RB.out.below hb3)
      clear hb3 c0 c1 G1 GG
      obtain ⟨c0, c1⟩ := XQ.out.cells
      go_wp2
      go_ret
      exact ⟨rfl, B.out⟩
    · have hl2 : ¬ (200 : Int) < (len3 : Int) := by omega
      have RD := Lib.hid (fun wx hx => cread_any a0 len0 cap0 b0 len1 cap1 S C at_ wd wx hx SZ.out)
      have WR := Lib.hid (fun wx hx (hr : Arg wx .u8 a3 len3 cap3 b) => cwrite_any a0 len0 cap0 b0 len1 cap1 S C at_ wd a3 len3 cap3 b wx hx SZ.out hr BY8.out (by omega))
      have BK := Lib.hid (fun h => back (S := S) (C := C) (at_ := at_) (wd := wd) (b := b) h BY8.out HSB.out HCB.out)
      have hwE := Lib.hid (show cwS S C at_ wd b = (if cwE S C at_ wd b = 0 then S else []) ∧ cwC S C at_ wd b = (if cwE S C at_ wd b = 0 then C ++ cpL S C at_ wd b else []) from ⟨rfl, rfl⟩)
      have hbE := Lib.hid (show crE S C at_ wd ≠ 0 → crB S C at_ wd = [] from fun h => if_neg h)
      have hb3' : b.length ≤ 1000 := by omega
      by_cases hE : cwE S C at_ wd b = 0
      · obtain ⟨hp, h64⟩ := cwE_zero hE
        obtain ⟨hcE, h24, _, _⟩ := cpE_zero hp
        obtain ⟨hLl, hm1, hm4, hmay, hgood⟩ := cpL_good hp BY8.out
        obtain ⟨_, a, m, rfl, rfl, _, _, han⟩ := cellE_zero hcE
        rw [Int.toNat_natCast] at hLl hm1 hm4
        have hrange := cpL_range hp
        obtain ⟨k1, k2, k3⟩ := BK.out hE
        have hsm := SZ.out.secs
        have ha100 : a ≤ 100 := by omega
        obtain ⟨RL, hRL⟩ : ∃ L, L = cpL S C a m b := ⟨_, rfl⟩
        rw [← hRL] at k1 k2 k3 hrange hLl hgood h64
        have e1 := hwE.out.1
        have e2 := hwE.out.2
        rw [if_pos hE] at e1 e2
        rw [← hRL] at e2
        have HW := Lib.hid (⟨e1, e2, hE⟩ : _ ∧ _ ∧ _)
        have hsl : S.length = len0 := XQ.out.dsk.secs.len
        have hll : (C ++ RL).length = len1 + m := by rw [List.length_append, hcl, hLl]
        have hsmall : SmallD S (C ++ RL) := by
          have h := small_more SZ.out hgood (k := RL.length) h64
          rwa [List.take_length] at h
        have HLEN := Lib.hid (⟨hsl, hll, hcl, hLl⟩ : _ ∧ _ ∧ _ ∧ _)
        have HSM := Lib.hid hsmall
        have HR := Lib.hid (show ∀ i, i < m → (a : Int) ≤ (RL.getD i (0, [])).1 ∧ (RL.getD i (0, [])).1 < (a : Int) + 2 * (m : Int) from fun i hi => hrange _ (by rw [List.getD_eq_getElem?_getD, List.getElem?_eq_getElem (by omega)]; exact List.getElem_mem _))
        obtain ⟨v1, hv1⟩ : ∃ v, v = crV S C a m := ⟨_, rfl⟩
        obtain ⟨E1, hE1⟩ : ∃ v, v = crE S C a m := ⟨_, rfl⟩
        obtain ⟨n1, hn1⟩ : ∃ v, v = (crB S C a m).length := ⟨_, rfl⟩
        have RD2 := RD.out
        unfold CRead at RD2
        skip
        have RD3 := Lib.hid (fun wx hx => (RD.out wx hx).mono fun e w' (h : CRead wx _ _ _ e w') => (show ∃ A c, e = .returned (.tuple #[.slice A n1 c, .int .u32 v1, .int .i64 E1]) ∧ Below wx.heap.size wx w' from by rw [hn1, hv1, hE1]; obtain ⟨A, c, h1, _, h2⟩ := h; exact ⟨A, c, h1, h2⟩))
        rw [← hv1] at k3
        obtain ⟨v2, hv2⟩ : ∃ v, v = crV S (C ++ RL) a m := ⟨_, rfl⟩
        rw [← hv2] at k3
        have HK := Lib.hid (⟨k1, k2, hv2.symm⟩ : _ ∧ _ ∧ _)
        have hvl2 : ¬ v2 ≤ v1 := by omega
        have hst : ((strOfNums b).toList != (strOfNums b).toList) = false := bne_self_eq_false _
        have hst2 : ((strOfNums b).toList == (strOfNums b).toList) = true := beq_self_eq_true _
        have hl64 : len1 ≤ 64 := by omega
        have hwr : wrap64 ((len1 : Int) + (m : Int)) = (len1 : Int) + (m : Int) := wrap64_smallJ (by omega) (by omega)
        have hwm : wrap64 (2 * (m : Int)) = 2 * (m : Int) := wrap64_smallJ (by omega) (by omega)
        have hwam : wrap64 ((a : Int) + 2 * (m : Int)) = (a : Int) + 2 * (m : Int) := wrap64_smallJ (by omega) (by omega)
        have h1m := hm1
        clear hp h64 hcE h24 hLl hmay hgood han hrange k1 k2 k3 hRL e1 e2 hsl hll hsmall hv1 hE1 hn1 RD2 hv2 hwE hbE BK hsm hcl hE RD hl1 hbl
        skip
        go_enter Try.func11, Try.ntmps11
        go_wp2_with fail
        refine (alive_cell _).mono ?_
        rintro e wa ⟨rfl, hb1⟩
        have B := Lib.hid (B.out.trans (hb1.mono B.out.size))
        have XQ := Lib.hid (XQ.out.below hb1)
        have RB := Lib.hid (RB.out.below hb1)
        clear hb1 c0 c1
        obtain ⟨c0, c1⟩ := XQ.out.cells
        have G1 := Lib.hid (GG.out wa XQ.out.dsk)
        go_wp2_with fail
        refine G1.out.mono ?_
        rintro e wb ⟨rfl, hb3⟩
        have B := Lib.hid (B.out.trans (hb3.mono B.out.size))
        have XQ := Lib.hid (XQ.out.below hb3)
        have RB := Lib.hid (RB.out.below hb3)
        clear hb3 c0 c1 G1 GG
        obtain ⟨c0, c1⟩ := XQ.out.cells
        go_wp2_with fail
        refine (RD3.out wb XQ.out.dsk).mono ?_
        rintro e wc ⟨AR, cR, rfl, hb1⟩
        have B := Lib.hid (B.out.trans (hb1.mono B.out.size))
        have XQ := Lib.hid (XQ.out.below hb1)
        have RB := Lib.hid (RB.out.below hb1)
        clear hb1 c0 c1
        obtain ⟨c0, c1⟩ := XQ.out.cells
        go_wp2_with fail
        refine (WR.out wc XQ.out.dsk RB.out).mono ?_
        intro e wd2 hout
        obtain ⟨AX, cX, AX', cX', rfl, hown, hb2⟩ := DiskOut.as hout (S' := S) (C' := C ++ RL) (E' := 0) (n := len0) (n' := len1 + m) HW.out.1 HW.out.2.1 HW.out.2.2 HLEN.out.1 HLEN.out.2.1
        have hb3 := hb2.alloc hb2.size (.cells #[.slice AX len0 cX, .slice AX' (len1 + m) cX'] 25)
        have hkA : Below wd2.heap.size wd2 (wd2.alloc (.cells #[.slice AX len0 cX, .slice AX' (len1 + m) cX'] 25)) := (Below.refl _ _).alloc (Nat.le_refl _) _
        have HGX := Lib.hid (show w.heap.size < wd2.heap.size from Nat.lt_of_lt_of_le XQ.out.lt hb2.size)
        have XX := Lib.hid (DBox.new (Dsk.of_own hown))
        have OX := Lib.hid (hown.below hkA)
        have B := Lib.hid (B.out.trans (hb3.mono B.out.size))
        have XQ := Lib.hid (XQ.out.below hb3)
        have RB := Lib.hid (RB.out.below hb3)
        skip
        skip
        clear hout hown hkA hb2 hb3 c0 c1 WR RD3
        obtain ⟨GX, hGX⟩ : ∃ x, x = wd2.heap.size := ⟨_, rfl⟩
        go_upto_region 6 with fail
        rw [← hGX] at XX HGX ⊢
        obtain ⟨we, hW⟩ : ∃ x : World, x = wd2.alloc (.cells #[.slice AX len0 cX, .slice AX' (len1 + m) cX'] 25) := ⟨_, rfl⟩
        rw [← hW] at XX OX B XQ RB ⊢
        clear hW hGX
        obtain ⟨d0, d1⟩ := XX.out.cells
        obtain ⟨c0, c1⟩ := XQ.out.cells
        have kr := cread_any AX len0 cX AX' (len1 + m) cX' S (C ++ RL) a m we XX.out.dsk HSM.out
        rw [HK.out.1, HK.out.2.1, HK.out.2.2] at kr
        have KR := Lib.hid kr
        clear kr
        go_wp2_with fail
        refine KR.out.mono ?_
        rintro e wf ⟨AN, cN, rfl, hown, hb1⟩
        have es1 := str_arg (Arg.own hown)
        have es2 := str_arg (RB.out.below hb1)
        have B := Lib.hid (B.out.trans (hb1.mono B.out.size))
        have XQ := Lib.hid (XQ.out.below hb1)
        have XX := Lib.hid (XX.out.below hb1)
        have OX := Lib.hid (OX.out.below hb1)
        clear hb1 c0 c1 d0 d1 hown KR
        obtain ⟨d0, d1⟩ := XX.out.cells
        obtain ⟨c0, c1⟩ := XQ.out.cells
        go_wp2
        go_loopw [19] (fun i wr => ∃ k : Nat, k ≤ len1 + m ∧ len1 ≤ k ∧ i = .int .i64 k ∧ wr = wf) (fun i _ => len1 + m - (intOf i).toNat)
        case atStart => exact ⟨len1, Nat.le_add_right _ _, Nat.le_refl _, rfl, rfl⟩
        case round =>
          obtain ⟨k, hk, hk2, rfl, rfl⟩ := hrel
          have hmm4 := hm4
          by_cases hkn : k < len1 + m
          · have hki : (k : Int) < (len1 : Int) + (m : Int) := by omega
            obtain ⟨bk, ok, Ak, nk, ck, eA, hlt, hcs, hci, hak⟩ := XX.out.dsk.pnds.at_ k hkn
            subst eA
            rw [getD_back HLEN.out.2.2.1 hk2] at hci
            obtain ⟨r1, r2⟩ := HR.out (k - len1) (by omega)
            obtain ⟨pa, hpa⟩ : ∃ x, x = (RL.getD (k - len1) (0, [])).1 := ⟨_, rfl⟩
            rw [← hpa] at hci r1 r2
            have r3 : ¬ pa < (a : Int) := by omega
            have r4 : ¬ (a : Int) + 2 * (m : Int) ≤ pa := by omega
            clear hcs hak hpa r1 r2 es1 es2
            go_wp2
            go_roundw
            case rel => exact ⟨k + 1, by omega, by omega, by go_num, trivial⟩
            all_goals (try case measure => simp [intOf]; omega)
          · obtain rfl : k = len1 + m := by omega
            have hki : ¬ ((len1 : Int) + (m : Int)) < (len1 : Int) + (m : Int) := by omega
            obtain ⟨gx, ox, ex⟩ : ∃ g o, AX' = some ⟨g, o, none⟩ := by
              obtain ⟨bk, ok, _, _, _, eA, _⟩ := XX.out.dsk.pnds.at_ 0 (by omega)
              exact ⟨bk, ok, eA⟩
            subst ex
            have hcc := XX.out.dsk.pnds.cap
            have hcc2 : (len1 : Int) ≤ (cX' : Int) := by omega
            have f1 := XX.out.blk.free 1
            have o2 := (OX.out.box XX.out.blk 1 (.slice (some ⟨gx, ox, none⟩) len1 cX'))
            have BS := B.out.setCell (p := ⟨GX, 1, none⟩) (Nat.le_of_lt HGX.out) (.slice (some ⟨gx, ox, none⟩) len1 cX')
            have x3 := XX.out.blk.set 1 (.slice (some ⟨gx, ox, none⟩) len1 cX')
            have q3 := XQ.out.blk.away (Nat.ne_of_lt HGX.out) 1 (.slice (some ⟨gx, ox, none⟩) len1 cX')
            have x30 := x3.cell 0
            have x31 := x3.cell 1
            have q30 := q3.cell 0
            have q31 := q3.cell 1
            simp only [List.getElem?_cons_zero, List.getElem?_cons_succ, List.set_cons_zero, List.set_cons_succ] at x30 x31 q30 q31
            have SM := Lib.hid (same_yes AX len0 cX (some ⟨gx, ox, none⟩) len1 cX' S C a0 len0 cap0 b0 len1 cap1 _ ⟨(Dsk.of_own o2).secs, Pnds.front (Dsk.of_own o2).pnds HLEN.out.2.2.1⟩ (HD0.out.below BS))
            have HBS := Lib.hid BS
            clear o2 BS x3 q3 hcc es1 es2
            go_wp2_with fail
            refine SM.out.mono ?_
            rintro e wz ⟨rfl, hbz⟩
            have B := Lib.hid (HBS.out.trans (hbz.mono HBS.out.size))
            clear hbz
            go_wp2
            go_ret
            exact ⟨rfl, B.out⟩
      · have e1 := hwE.out.1
        have e2 := hwE.out.2
        rw [if_neg hE] at e1 e2
        have HW := Lib.hid (⟨e1, e2⟩ : _ ∧ _)
        obtain ⟨E2, hE2⟩ : ∃ v, v = cwE S C at_ wd b := ⟨_, rfl⟩
        have HE2 := Lib.hid hE2.symm
        have hne : (E2 != 0) = true := bne_iff_ne.2 (by rw [hE2]; exact hE)
        obtain ⟨v1, hv1⟩ : ∃ v, v = crV S C at_ wd := ⟨_, rfl⟩
        obtain ⟨E1, hE1⟩ : ∃ v, v = crE S C at_ wd := ⟨_, rfl⟩
        obtain ⟨n1, hn1⟩ : ∃ v, v = (crB S C at_ wd).length := ⟨_, rfl⟩
        have RD3 := Lib.hid (fun wx hx => (RD.out wx hx).mono fun e w' (h : CRead wx _ _ _ e w') => (show ∃ A c, e = .returned (.tuple #[.slice A n1 c, .int .u32 v1, .int .i64 E1]) ∧ Below wx.heap.size wx w' from by rw [hn1, hv1, hE1]; obtain ⟨A, c, h1, _, h2⟩ := h; exact ⟨A, c, h1, h2⟩))
        have hn0 : E1 ≠ 0 → n1 = 0 := fun h => by rw [hn1, hbE.out (by rw [← hE1]; exact h)]; rfl
        clear e1 e2 hE hE2 hv1 hE1 hn1 hwE hbE BK RD hl1 hbl hcl hb3'
        go_enter Try.func11, Try.ntmps11
        go_wp2_with fail
        refine (alive_cell _).mono ?_
        rintro e wa ⟨rfl, hb1⟩
        have B := Lib.hid (B.out.trans (hb1.mono B.out.size))
        have XQ := Lib.hid (XQ.out.below hb1)
        have RB := Lib.hid (RB.out.below hb1)
        clear hb1 c0 c1
        obtain ⟨c0, c1⟩ := XQ.out.cells
        have G1 := Lib.hid (GG.out wa XQ.out.dsk)
        go_wp2_with fail
        refine G1.out.mono ?_
        rintro e wb ⟨rfl, hb3⟩
        have B := Lib.hid (B.out.trans (hb3.mono B.out.size))
        have XQ := Lib.hid (XQ.out.below hb3)
        have RB := Lib.hid (RB.out.below hb3)
        clear hb3 c0 c1 G1 GG
        obtain ⟨c0, c1⟩ := XQ.out.cells
        go_wp2_with fail
        refine (RD3.out wb XQ.out.dsk).mono ?_
        rintro e wc ⟨AR, cR, rfl, hb1⟩
        have B := Lib.hid (B.out.trans (hb1.mono B.out.size))
        have XQ := Lib.hid (XQ.out.below hb1)
        have RB := Lib.hid (RB.out.below hb1)
        clear hb1 c0 c1
        obtain ⟨c0, c1⟩ := XQ.out.cells
        go_wp2_with fail
        refine (WR.out wc XQ.out.dsk RB.out).mono ?_
        intro e wd2 hout
        obtain ⟨AX, cX, AX', cX', rfl, hown, hb2⟩ := DiskOut.as hout (S' := []) (C' := []) (E' := E2) (n := 0) (n' := 0) HW.out.1 HW.out.2 HE2.out rfl rfl
        have B := Lib.hid (B.out.trans ((hb2.alloc hb2.size (.cells #[.slice AX 0 cX, .slice AX' 0 cX'] 25)).mono B.out.size))
        have XX := DBox.new (Dsk.of_own hown)
        obtain ⟨d0, d1⟩ := XX.cells
        clear hout hown hb2 WR RD3 XX c0 c1
        by_cases hz : E1 = 0
        · have hz2 : (E1 == 0) = true := beq_iff_eq.2 hz
          clear hz hn0
          go_wp2
          go_ret
          exact ⟨rfl, B.out⟩
        · have hz2 : (E1 == 0) = false := beq_eq_false_iff_ne.2 hz
          obtain rfl := hn0 hz
          clear hz hn0
          go_wp2
          go_ret
          exact ⟨rfl, B.out⟩

end Go.Proofs.Ytkbeeknnfndjgaa
