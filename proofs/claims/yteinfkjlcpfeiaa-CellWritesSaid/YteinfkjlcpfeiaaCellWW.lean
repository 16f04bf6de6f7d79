/- Layer 6, CellWrites: the walk. -/
import Derived.Test.YteinfkjlcpfeiaaCellRp
import Derived.Test.YteinfkjlcpfeiaaCellA4
import Derived.Test.YteinfkjlcpfeiaaDiskSp
namespace Go.Proofs.Yteinfkjlcpfeiaa
open Go.RowKit
set_option linter.unusedVariables false

theorem IsRow.sp {k : IntKind} {w : World} {a : Option Addr} {len cap : Nat} {zs : List Int} (h : IsRow k w a len cap zs) : ∀ x, a = some x → x.spot = none ∨ cap = 0 := by
  intro x hx
  rcases h with ⟨rfl, _, _, _⟩ | ⟨y, rfl, _, _, hz, hc, _⟩
  · cases hx
  · cases hx
    rcases Nat.eq_zero_or_pos cap with h | h
    · exact .inr h
    · refine .inl ?_
      have h0 := hc 0 (by omega)
      simpa [Addr.add] using World.cell?_spot h0
theorem cpl_small {S : List Sec} {C : List Pnd} {at_ wd : Int} {b : Txt} (hb : ∀ z ∈ b, isByte z) : (cpL S C at_ wd b).length ≤ 4 ∧ ∀ j, ((cpL S C at_ wd b).getD j (0, [])).2.length ≤ 100 := by
  by_cases h : cpE S C at_ wd b = 0
  · obtain ⟨h1, _, h3, _, h5⟩ := cpL_good h hb
    refine ⟨by omega, fun j => ?_⟩
    rcases Nat.lt_or_ge j (cpL S C at_ wd b).length with hj | hj
    · rw [List.getD_eq_getElem?_getD, List.getElem?_eq_getElem hj, Option.getD_some]
      have := (h5 _ (List.getElem_mem hj)).1.2.2
      omega
    · rw [List.getD_eq_getElem?_getD, List.getElem?_eq_none hj]
      simp
  · rw [show cpL S C at_ wd b = [] from if_neg h]
    exact ⟨by simp, fun j => by simp⟩
theorem cw_small {S : List Sec} {C : List Pnd} {at_ wd : Int} {b : Txt} (hs : SmallD S C) (hb : ∀ z ∈ b, isByte z) : (cwC S C at_ wd b).length ≤ 100 ∧ ∀ j, ((cwC S C at_ wd b).getD j (0, [])).2.length ≤ 100 := by
  have h : SmallD S (cwC S C at_ wd b) := by
    unfold cwC
    by_cases h : cwE S C at_ wd b = 0
    · rw [if_pos h]
      unfold cwE at h
      split at h
      · rename_i h0
        split at h
        · cases h
        · rename_i h64
          obtain ⟨_, _, _, _, h5⟩ := cpL_good h0 hb
          have := small_more hs h5 (k := (cpL S C at_ wd b).length) (by omega)
          rwa [List.take_length] at this
      · rename_i h0
        exact absurd h h0
    · rw [if_neg h]
      exact ⟨hs.secs, by simp, hs.long, by simp⟩
  exact ⟨h.pnds, fun j => h.pnd_at j⟩

set_option maxRecDepth 100000 in
set_option maxHeartbeats 12800000 in
theorem cwrites_of (a0 : Option Addr) (len0 cap0 : Nat) (b0 : Option Addr) (len1 cap1 : Nat) (S : List Sec) (C : List Pnd) (at_ wd : Int) (a3 : Option Addr) (len3 cap3 : Nat) (z3 : List Int) (w : World) (w0 : Dsk w a0 len0 cap0 b0 len1 cap1 S C) (w3 : IsRow .u8 w a3 len3 cap3 z3) :
    Calls Try.prog 10 #[diskV a0 len0 cap0 b0 len1 cap1, .int .i64 at_, .int .i64 wd, .slice a3 len3 cap3] w fun e w' => e = .returned (.bool true) ∧ Below w.heap.size w w' := by
  obtain ⟨b, hb, hbw⟩ := w3.arg
  have hby : ∀ z ∈ b, isByte z := fun z hz => wf_byte (hbw z hz)
  have hsp := w3.sp
  have hbel : Below w.heap.size w (w.alloc (.cells #[.slice a0 len0 cap0, .slice b0 len1 cap1] 25)) := (Below.refl _ _).alloc (Nat.le_refl _) _
  have X := Lib.hid (DBox.new w0)
  have RB := Lib.hid (hb.below hbel)
  have B := Lib.hid hbel
  have gg := fun w hx => great_any a0 len0 cap0 b0 len1 cap1 S C 60 w hx
  have hbl := hb.len
  have hbc := Nat.le_trans hb.cap hb.max
  unfold maxLen at hbc
  obtain ⟨c0, c1⟩ := X.out.cells
  clear w0 hbel w3 hbw hb
  cases hg1 : greatD S C 60 with
  | true =>
    rw [hg1] at gg
    have GG := Lib.hid gg
    clear gg hg1 hby hsp hbl
    go_enter Try.func10, Try.ntmps10
    go_wp2_with fail
    refine (GG.out _ X.out.dsk).mono ?_
    rintro e w1 ⟨rfl, hb⟩
    have B := Lib.hid (B.out.trans (hb.mono B.out.size))
    clear hb c0 c1
    go_wp2
    go_ret
    exact ⟨rfl, B.out⟩
  | false =>
    rw [hg1] at gg
    have GG := Lib.hid gg
    have SZ := Lib.hid (small_ofD (by decide) (by decide) hg1)
    clear gg hg1
    by_cases hl1 : 200 < len3
    · have hl2 : (200 : Int) < (len3 : Int) := by omega
      clear hbl hl1 hby hsp
      go_enter Try.func10, Try.ntmps10
      go_wp2_with fail
      refine (GG.out _ X.out.dsk).mono ?_
      rintro e w1 ⟨rfl, hb⟩
      have B := Lib.hid (B.out.trans (hb.mono B.out.size))
      clear hb c0 c1
      go_wp2
      go_ret
      exact ⟨rfl, B.out⟩
    have hl2 : ¬ (200 : Int) < (len3 : Int) := by omega
    have hl3 : len3 ≤ 200 := by omega
    have TW := Lib.hid (fun wx hx => twin_any a0 len0 cap0 b0 len1 cap1 S C wx hx SZ.out)
    have PL := Lib.hid (fun A c A' c' Am cm wx (hx : Dsk wx A len0 c A' len1 c' S C) (ha : Arg wx .u8 Am len3 cm b) => plan_any A len0 c A' len1 c' S C at_ wd Am len3 cm b wx hx SZ.out ha hby (by omega))
    have RP := Lib.hid (fun wx hx ha => rplan6_any a0 len0 cap0 b0 len1 cap1 S C at_ wd a3 len3 cap3 b wx hx SZ.out ha hby (by omega) hsp)
    have WR := Lib.hid (fun A c A' c' Am cm wx (hx : Dsk wx A len0 c A' len1 c' S C) (ha : Arg wx .u8 Am len3 cm b) => cwrite_any A len0 c A' len1 c' S C at_ wd Am len3 cm b wx hx SZ.out ha hby (by omega))
    have RW := Lib.hid (fun wx hx ha => rwrite6_any a0 len0 cap0 b0 len1 cap1 S C at_ wd a3 len3 cap3 b wx hx SZ.out ha hby (by omega) hsp)
    have SY := Lib.hid (fun A c A' c' wx (hx : Dsk wx A len0 c A' len1 c' S C) hy => same_yes A len0 c A' len1 c' S C a0 len0 cap0 b0 len1 cap1 wx hx hy)
    obtain ⟨hL4, hLT⟩ := cpl_small (S := S) (C := C) (at_ := at_) (wd := wd) hby
    obtain ⟨hC4, hCT⟩ := cw_small (at_ := at_) (wd := wd) SZ.out hby
    unfold PlanOut at PL
    unfold RPlan at RP
    unfold DiskOut at WR RW
    obtain ⟨L, hL⟩ : ∃ v, v = cpL S C at_ wd b := ⟨_, rfl⟩
    obtain ⟨E, hE⟩ : ∃ v, v = cpE S C at_ wd b := ⟨_, rfl⟩
    obtain ⟨S2, hS2⟩ : ∃ v, v = cwS S C at_ wd b := ⟨_, rfl⟩
    obtain ⟨C2, hC2⟩ : ∃ v, v = cwC S C at_ wd b := ⟨_, rfl⟩
    obtain ⟨E2, hE2⟩ : ∃ v, v = cwE S C at_ wd b := ⟨_, rfl⟩
    rw [← hL] at PL RP hL4 hLT
    rw [← hE] at PL RP
    rw [← hS2, ← hC2, ← hE2] at WR RW
    rw [← hC2] at hC4 hCT
    have SX := Lib.hid (fun A c A' c' B d B' d' wx hx hy => same_yes A S2.length c A' C2.length c' S2 C2 B S2.length d B' C2.length d' wx hx hy)
    have SP := Lib.hid (fun A c A' c' wx hx hy => rsamep_yes A L.length c A' c' L wx hx hy (by omega))
    obtain ⟨N, hN⟩ : ∃ v, v = L.length := ⟨_, rfl⟩
    obtain ⟨nS, hnS⟩ : ∃ v, v = S2.length := ⟨_, rfl⟩
    obtain ⟨nC, hnC⟩ : ∃ v, v = C2.length := ⟨_, rfl⟩
    rw [← hN] at PL RP SP hL4
    rw [← hnS, ← hnC] at WR RW SX
    rw [← hnC] at hC4
    have LT := Lib.hid hLT
    have CT := Lib.hid hCT
    have hee : (E == E) = true := beq_self_eq_true _
    have hee2 : (E2 == E2) = true := beq_self_eq_true _
    clear hL hE hS2 hC2 hE2 hby hsp hLT hCT hN hnS hnC
    go_enter Try.func10, Try.ntmps10
    go_wp2_with fail
    refine (GG.out _ X.out.dsk).mono ?_
    rintro e w1 ⟨rfl, hb⟩
    have B := Lib.hid (B.out.trans (hb.mono B.out.size))
    have X := Lib.hid (X.out.below hb)
    have RB := Lib.hid (RB.out.below hb)
    clear hb c0 c1 GG
    obtain ⟨c0, c1⟩ := X.out.cells
    go_wp2_with fail
    refine (TW.out _ X.out.dsk).mono ?_
    rintro e w2 ⟨A2, c2, A2', c2', rfl, hown, hb⟩
    have B := Lib.hid (B.out.trans (hb.mono B.out.size))
    have X := Lib.hid (X.out.below hb)
    have RB := Lib.hid (RB.out.below hb)
    have OO := Lib.hid hown
    clear hb c0 c1 TW hown
    obtain ⟨ib, hib, hbz, hb1, hb2⟩ := info_parts byte_info
    have hml : (1000 : Nat) ≤ maxLen := by decide
    go_wp2_with (at_builtin; refine wpList_dup_g w2 rfl (.tmp 33) (.tmp 34) _ rfl 5 ib _ 1 Try.underlying31 hib hbz hb1 hb2 rfl rfl a3 len3 cap3 (ints .u8 b) rfl (by rw [ints_length, RB.out.len]) RB.out.seq (ints_one _ _) (by omega) (by omega) ?_; intro AM cM w5 hown5 hbel5; have O5 := Lib.hid hown5; have B5 := Lib.hid hbel5; clear hown5 hbel5; obtain ⟨c0, c1⟩ := box_disk w5 A2 len0 c2 A2' len1 c2')
    have K5 : Below w2.heap.size w2 (w5.alloc (.cells #[.slice A2 len0 c2, .slice A2' len1 c2'] 25)) := B5.out.alloc B5.out.size _
    have X := Lib.hid (X.out.below K5)
    have RB := Lib.hid (RB.out.below K5)
    have O := DBox.new ((Dsk.of_own OO.out).below B5.out)
    have OM := owns_below O5.out (show Below w5.heap.size w5 (w5.alloc (.cells #[.slice A2 len0 c2, .slice A2' len1 c2'] 25)) from (Below.refl _ _).alloc (Nat.le_refl _) _)
    have B := Lib.hid (B.out.trans (K5.mono B.out.size))
    obtain ⟨GO, hGO⟩ : ∃ x, x = w5.heap.size := ⟨_, rfl⟩
    rw [← hGO] at O ⊢
    obtain ⟨w6, hw6⟩ : ∃ x : World, x = w5.alloc (.cells #[.slice A2 len0 c2, .slice A2' len1 c2'] 25) := ⟨_, rfl⟩
    rw [← hw6] at X RB O OM B c0 c1 ⊢
    rw [← hGO] at c0 c1
    have O := Lib.hid O
    have M := Lib.hid (Arg.own OM)
    clear hGO hw6 K5 OO O5 B5 OM hib hbz hb1 hb2 hl2
    go_wp2_with fail
    refine (PL.out A2 c2 A2' c2' AM cM w6 O.out.dsk M.out).mono ?_
    rintro e w7 ⟨Al, cl, rfl, hl, hb⟩
    have D := Lib.hid hb
    have OL := Lib.hid hl
    clear hb hl c0 c1 PL
    obtain ⟨c0, c1⟩ := (X.out.below D.out).cells
    go_wp2_with fail
    refine (RP.out w7 (X.out.below D.out).dsk (RB.out.below D.out)).mono ?_
    rintro e w8 ⟨Am, cm, rfl, hm, hb⟩
    have OL := Lib.hid (OL.out.below hb)
    have D := Lib.hid (D.out.trans (hb.mono D.out.size))
    have PM := Lib.hid hm
    clear hb hm c0 c1 RP
    obtain ⟨d0, d1⟩ := (O.out.below D.out).cells
    go_wp2_with fail
    refine (WR.out A2 c2 A2' c2' AM cM w8 (O.out.below D.out).dsk (M.out.below D.out)).mono ?_
    rintro e w9 ⟨AX, cX, AX', cX', rfl, hown, hb⟩
    have hkA : Below w9.heap.size w9 (w9.alloc (.cells #[.slice AX nS cX, .slice AX' nC cX'] 25)) := (Below.refl _ _).alloc (Nat.le_refl _) _
    have hb3 := hb.trans (hkA.mono hb.size)
    have XX := DBox.new (Dsk.of_own hown)
    have OX := Lib.hid ((hown.below hkA).lower D.out.size)
    have OL := Lib.hid (OL.out.below hb3)
    have PM := Lib.hid (PM.out.below hb3)
    have D := Lib.hid (D.out.trans (hb3.mono D.out.size))
    clear hb hb3 hkA hown d0 d1 WR
    obtain ⟨GX, hGX⟩ : ∃ x, x = w9.heap.size := ⟨_, rfl⟩
    go_upto_region 7 with fail
    rw [← hGX] at XX ⊢
    obtain ⟨wa, hwa⟩ : ∃ x : World, x = w9.alloc (.cells #[.slice AX nS cX, .slice AX' nC cX'] 25) := ⟨_, rfl⟩
    rw [← hwa] at XX OX OL PM D ⊢
    have XX := Lib.hid XX
    clear hwa hGX
    obtain ⟨c0, c1⟩ := (X.out.below D.out).cells
    go_wp2_with fail
    refine (RW.out wa (X.out.below D.out).dsk (RB.out.below D.out)).mono ?_
    rintro e wb ⟨AY, cY, AY', cY', rfl, hown, hb⟩
    have hkA : Below wb.heap.size wb (wb.alloc (.cells #[.slice AY nS cY, .slice AY' nC cY'] 25)) := (Below.refl _ _).alloc (Nat.le_refl _) _
    have hb3 := hb.trans (hkA.mono hb.size)
    have YY := DBox.new (Dsk.of_own hown)
    have OX := Lib.hid (OX.out.below hb3)
    have OL := Lib.hid (OL.out.below hb3)
    have PM := Lib.hid (PM.out.below hb3)
    have XX := Lib.hid (XX.out.below hb3)
    have D := Lib.hid (D.out.trans (hb3.mono D.out.size))
    clear hb hb3 hkA hown c0 c1 RW
    obtain ⟨GY, hGY⟩ : ∃ x, x = wb.heap.size := ⟨_, rfl⟩
    go_upto_region 8 with fail
    rw [← hGY] at YY ⊢
    obtain ⟨wc, hwc⟩ : ∃ x : World, x = wb.alloc (.cells #[.slice AY nS cY, .slice AY' nC cY'] 25) := ⟨_, rfl⟩
    rw [← hwc] at XX YY OX OL PM D ⊢
    have YY := Lib.hid YY
    clear hwc hGY
    go_wp2_with fail
    refine (SP.out Al cl Am cm wc (Pnds.of_own OL.out) PM.out).mono ?_
    rintro e wd' ⟨rfl, hb⟩
    have OX := Lib.hid (OX.out.below hb)
    have OL := Lib.hid (OL.out.below hb)
    have XX := Lib.hid (XX.out.below hb)
    have YY := Lib.hid (YY.out.below hb)
    have D := Lib.hid (D.out.trans (hb.mono D.out.size))
    clear hb PM SP
    obtain ⟨c0, c1⟩ := XX.out.cells
    obtain ⟨d0, d1⟩ := YY.out.cells
    go_wp2_with fail
    refine (SX.out AX cX AX' cX' AY cY AY' cY' wd' XX.out.dsk YY.out.dsk).mono ?_
    rintro e we ⟨rfl, hb⟩
    have OX := Lib.hid (OX.out.below hb)
    have OL := Lib.hid (OL.out.below hb)
    have XB := Lib.hid (XX.out.below hb).blk
    have D := Lib.hid (D.out.trans (hb.mono D.out.size))
    have QX := Lib.hid OX.out.pnds
    clear hb SX YY XX OX c0 c1 d0 d1
    go_wp2
    go_loopw [20] (fun x wr => ∃ i : Nat, i ≤ N ∧ x = .int .i64 i ∧ (∃ L', OwnPnds wr w6.heap.size Al N cl L' ∧ ∀ j, (L'.getD j (0, [])).2.length = (L.getD j (0, [])).2.length) ∧ (∃ C', OwnPnds wr w6.heap.size AX' nC cX' C' ∧ ∀ j, (C'.getD j (0, [])).2.length = (C2.getD j (0, [])).2.length) ∧ Blk wr GX 25 [.slice AX nS cX, .slice AX' nC cX'] ∧ Below w6.heap.size w6 wr) (fun x _ => N - (intOf x).toNat)
    case atStart => exact ⟨0, Nat.zero_le _, rfl, ⟨L, OL.out, fun _ => rfl⟩, ⟨C2, QX.out, fun _ => rfl⟩, XB.out, D.out⟩
    case round =>
      obtain ⟨i, hi, rfl, ⟨L1, hp, hm⟩, ⟨C1, hq, hl⟩, hx, hb1⟩ := hrel
      by_cases hin : i < N
      · have hsi := LT.out i
        have hi1 : (i : Int) < (N : Int) := by omega
        obtain ⟨T, hT⟩ : ∃ T, T = (L.getD i (0, [])).2.length := ⟨_, rfl⟩
        rw [← hT] at hsi
        have HT := Lib.hid hT
        have P1 := Lib.hid hp
        have M1 := Lib.hid hm
        have Q1 := Lib.hid hq
        have L1' := Lib.hid hl
        have X1 := Lib.hid hx
        have B1 := Lib.hid hb1
        clear hp hm hq hl hx hb1 hT
        go_wp2
        go_loopw [21] (fun x wx => ∃ k : Nat, k ≤ T ∧ x = .int .i64 k ∧ (∃ L', OwnPnds wx w6.heap.size Al N cl L' ∧ ∀ j, (L'.getD j (0, [])).2.length = (L.getD j (0, [])).2.length) ∧ (∃ C', OwnPnds wx w6.heap.size AX' nC cX' C' ∧ ∀ j, (C'.getD j (0, [])).2.length = (C2.getD j (0, [])).2.length) ∧ Blk wx GX 25 [.slice AX nS cX, .slice AX' nC cX'] ∧ Below w6.heap.size w6 wx) (fun x _ => T - (intOf x).toNat)
        case atStart => exact ⟨0, Nat.zero_le _, rfl, ⟨L1, P1.out, M1.out⟩, ⟨C1, Q1.out, L1'.out⟩, X1.out, B1.out⟩
        case round =>
          obtain ⟨k, hk, rfl, ⟨L2, hp, hm⟩, ⟨C3, hq, hl⟩, hx, hb⟩ := hrel
          obtain ⟨gA, Ai, ni, ci, hgA, _, hcA, _, _, hro, hln, hci, hcm⟩ := hp.row hin
          subst hgA
          rw [hm i, ← HT.out] at hln
          subst hln
          unfold maxLen at hcm
          by_cases hkL : k < T
          · obtain ⟨g, o, rfl, hbg, hu, hcg, hfg⟩ := hro.at_ hkL
            have hbyte : isByte ((L2.getD i (0, [])).2.getD k 0) := (Pnds.of_own hp).byte_at i _ (getD_mem _ k (by have := hro.1; omega))
            obtain ⟨x, hxx⟩ : ∃ x, x = (L2.getD i (0, [])).2.getD k 0 := ⟨_, rfl⟩
            rw [← hxx] at hcg hbyte
            have hx0 : 0 ≤ x := hbyte.1
            have hx1 : x < 256 := hbyte.2
            obtain ⟨L3, hP3, _, hM3⟩ := hp.touch hu (o + k) (z := (x + 1) % 256) ⟨by omega, by omega⟩
            obtain ⟨C4, hQ3, _, hN3⟩ := hq.touch hu (o + k) (z := (x + 1) % 256) ⟨by omega, by omega⟩
            have P3 := Lib.hid hP3
            have Q3 := Lib.hid hQ3
            have M3 := Lib.hid (fun j => (hM3 j).trans (hm j))
            have N3 := Lib.hid (fun j => (hN3 j).trans (hl j))
            have X3 := Lib.hid (hx.touchedU (by decide) hu (o + k) (.int .u8 ((x + 1) % 256)))
            have B3 := Lib.hid (hb.setCell (p := ⟨g, o + k, none⟩) hbg (.int .u8 ((x + 1) % 256)))
            have hw1 : IntKind.i64.wrap (i : Int) = (i : Int) := Lib.wrap_i64_small i (by omega)
            have hw2 : IntKind.i64.wrap (k : Int) = (k : Int) := Lib.wrap_i64_small k (by omega)
            have hk1 : (k : Int) < (T : Int) := by omega
            clear hxx hbyte hp hm hq hl hx hb hro hu hP3 hQ3 hM3 hN3
            go_wp2
            refine wp_region_still_tail 16 (by kernel_rfl) (by kernel_rfl) ?_
            simp only [List.take_succ_cons, List.take_zero, List.drop_succ_cons, List.drop_zero]
            repeat still_step
            try refine wpStill_nil ?_
            change wpList _ _ _ _ _ wr.drew
            go_wp2
            go_roundw
            case rel =>
              refine ⟨k + 1, by omega, by go_num, ⟨L3, ?_, M3.out⟩, ⟨C4, ?_, N3.out⟩, ?_, ?_⟩
              · exact (show OwnPnds (wr.setCell ⟨g, o + k, none⟩ (.int .u8 ((x + 1) % 256))).drew _ _ N cl L3 from P3.out.below (below_drewN (Below.refl _ _) 1))
              · exact (show OwnPnds (wr.setCell ⟨g, o + k, none⟩ (.int .u8 ((x + 1) % 256))).drew _ _ nC cX' C4 from Q3.out.below (below_drewN (Below.refl _ _) 1))
              · exact X3.out
              · exact (show Below _ w6 (wr.setCell ⟨g, o + k, none⟩ (.int .u8 ((x + 1) % 256))).drew from below_drewN B3.out 1)
            case measure => simp [intOf]; omega
          · obtain rfl : k = T := by omega
            have P2 := Lib.hid hp
            have M2 := Lib.hid hm
            have Q2 := Lib.hid hq
            have N2 := Lib.hid hl
            have X2 := Lib.hid hx
            have B2 := Lib.hid hb
            clear hp hm hq hl hx hb hro
            go_wp2
            go_roundw
            case rel => exact ⟨i + 1, by omega, by go_num, ⟨L2, P2.out, M2.out⟩, ⟨C3, Q2.out, N2.out⟩, X2.out, B2.out⟩
            case measure => simp [intOf]; omega
      · obtain rfl : i = N := by omega
        have Q1 := Lib.hid hq
        have L1' := Lib.hid hl
        have X1 := Lib.hid hx
        have B1 := Lib.hid hb1
        clear hp hm hq hl hx hb1
        go_wp2
        go_loopw [22] (fun x wr => ∃ i : Nat, i ≤ nC ∧ x = .int .i64 i ∧ (∃ C', OwnPnds wr w6.heap.size AX' nC cX' C' ∧ ∀ j, (C'.getD j (0, [])).2.length = (C2.getD j (0, [])).2.length) ∧ Blk wr GX 25 [.slice AX nS cX, .slice AX' nC cX'] ∧ Below w6.heap.size w6 wr) (fun x _ => nC - (intOf x).toNat)
        case atStart => exact ⟨0, Nat.zero_le _, rfl, ⟨C1, Q1.out, L1'.out⟩, X1.out, B1.out⟩
        case round =>
          obtain ⟨i, hi, rfl, ⟨C3, hq, hl⟩, hx, hb1⟩ := hrel
          have q0 := hx.cell 1
          simp only [List.getElem?_cons_zero, List.getElem?_cons_succ] at q0
          by_cases hin : i < nC
          · have hsi := CT.out i
            have hi1 : (i : Int) < (nC : Int) := by omega
            obtain ⟨T, hT⟩ : ∃ T, T = (C2.getD i (0, [])).2.length := ⟨_, rfl⟩
            rw [← hT] at hsi
            have HT := Lib.hid hT
            have Q3 := Lib.hid hq
            have N3 := Lib.hid hl
            have X3 := Lib.hid hx
            have B3 := Lib.hid hb1
            clear hq hl hx hb1 hT
            go_wp2
            go_loopw [23] (fun x wx => ∃ k : Nat, k ≤ T ∧ x = .int .i64 k ∧ (∃ C', OwnPnds wx w6.heap.size AX' nC cX' C' ∧ ∀ j, (C'.getD j (0, [])).2.length = (C2.getD j (0, [])).2.length) ∧ Blk wx GX 25 [.slice AX nS cX, .slice AX' nC cX'] ∧ Below w6.heap.size w6 wx) (fun x _ => T - (intOf x).toNat)
            case atStart => exact ⟨0, Nat.zero_le _, rfl, ⟨C3, Q3.out, N3.out⟩, X3.out, B3.out⟩
            case round =>
              obtain ⟨k, hk, rfl, ⟨C4, hq, hl⟩, hx, hb⟩ := hrel
              obtain ⟨gA, Ai, ni, ci, hgA, _, hcA, _, _, hro, hln, hci, hcm⟩ := hq.row hin
              subst hgA
              rw [hl i, ← HT.out] at hln
              subst hln
              have q0 := hx.cell 1
              simp only [List.getElem?_cons_zero, List.getElem?_cons_succ] at q0
              unfold maxLen at hcm
              by_cases hkL : k < T
              · obtain ⟨g, o, rfl, hbg, hu, hcg, hfg⟩ := hro.at_ hkL
                have hbyte : isByte ((C4.getD i (0, [])).2.getD k 0) := (Pnds.of_own hq).byte_at i _ (getD_mem _ k (by have := hro.1; omega))
                obtain ⟨x, hxx⟩ : ∃ x, x = (C4.getD i (0, [])).2.getD k 0 := ⟨_, rfl⟩
                rw [← hxx] at hcg hbyte
                have hx0 : 0 ≤ x := hbyte.1
                have hx1 : x < 256 := hbyte.2
                obtain ⟨C5, hQ5, _, hN5⟩ := hq.touch hu (o + k) (z := (x + 1) % 256) ⟨by omega, by omega⟩
                have Q5 := Lib.hid hQ5
                have N5 := Lib.hid (fun j => (hN5 j).trans (hl j))
                have X5 := Lib.hid (hx.touchedU (by decide) hu (o + k) (.int .u8 ((x + 1) % 256)))
                have B5 := Lib.hid (hb.setCell (p := ⟨g, o + k, none⟩) hbg (.int .u8 ((x + 1) % 256)))
                have hw1 : IntKind.i64.wrap (i : Int) = (i : Int) := Lib.wrap_i64_small i (by omega)
                have hw2 : IntKind.i64.wrap (k : Int) = (k : Int) := Lib.wrap_i64_small k (by omega)
                have hk1 : (k : Int) < (T : Int) := by omega
                clear hxx hbyte hq hl hx hb hro hu hQ5 hN5
                go_wp2
                refine wp_region_still_tail 18 (by kernel_rfl) (by kernel_rfl) ?_
                simp only [List.take_succ_cons, List.take_zero, List.drop_succ_cons, List.drop_zero]
                repeat still_step
                try refine wpStill_nil ?_
                change wpList _ _ _ _ _ wr.drew
                go_wp2
                go_roundw
                case rel =>
                  refine ⟨k + 1, by omega, by go_num, ⟨C5, ?_, N5.out⟩, ?_, ?_⟩
                  · exact (show OwnPnds (wr.setCell ⟨g, o + k, none⟩ (.int .u8 ((x + 1) % 256))).drew _ _ nC cX' C5 from Q5.out.below (below_drewN (Below.refl _ _) 1))
                  · exact X5.out
                  · exact (show Below _ w6 (wr.setCell ⟨g, o + k, none⟩ (.int .u8 ((x + 1) % 256))).drew from below_drewN B5.out 1)
                case measure => simp [intOf]; omega
              · obtain rfl : k = T := by omega
                have Q2 := Lib.hid hq
                have N2 := Lib.hid hl
                have X2 := Lib.hid hx
                have B2 := Lib.hid hb
                clear hq hl hx hb hro
                go_wp2
                go_roundw
                case rel => exact ⟨i + 1, by omega, by go_num, ⟨C4, Q2.out, N2.out⟩, X2.out, B2.out⟩
                case measure => simp [intOf]; omega
          · obtain rfl : i = nC := by omega
            have D9 := Lib.hid hb1
            have O9 := Lib.hid (O.out.below hb1)
            have X9 := Lib.hid (X.out.below hb1)
            obtain ⟨c0, c1⟩ := X9.out.cells
            obtain ⟨d0, d1⟩ := O9.out.cells
            clear hq hl hx hb1
            go_wp2_with fail
            refine (SY.out A2 c2 A2' c2' _ O9.out.dsk X9.out.dsk).mono ?_
            rintro e wz ⟨rfl, hb⟩
            have D := Lib.hid (D9.out.trans (hb.mono D9.out.size))
            have es1 := str_arg (M.out.below D.out)
            have es2 := str_arg (RB.out.below D.out)
            have hst : ((strOfNums b).toList == (strOfNums b).toList) = true := beq_self_eq_true _
            have BF := Lib.hid (B.out.trans (D.out.mono B.out.size))
            clear hb c0 c1 d0 d1
            go_wp2
            go_ret
            exact ⟨rfl, BF.out⟩

end Go.Proofs.Yteinfkjlcpfeiaa
