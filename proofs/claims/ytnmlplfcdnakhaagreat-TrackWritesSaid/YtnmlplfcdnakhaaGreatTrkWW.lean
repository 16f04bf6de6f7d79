/- Layer 8, TrackWrites: the walk. -/
import Derived.Test.YtnmlplfcdnakhaaGreatTrkRp
import Derived.Test.YtnmlplfcdnakhaaGreatCellAp0
import Derived.Test.YtnmlplfcdnakhaaGreatDiskSp
namespace Go.Proofs.YtnmlplfcdnakhaaGreat
open Go.RowKit
set_option linter.unusedVariables false

/-- One's mark is set. -/
theorem OwnSecs.setBad {w : World} {base : Nat} {A : Option Addr} {n c : Nat} {ss : List Sec} (h : OwnSecs w base A n c ss) {i : Nat} (hi : i < n) (x : Bool) :
    ∃ g, A = some ⟨g, 0, none⟩ ∧ base ≤ g ∧ (∀ {k : Nat} {cs : List Value}, Blk w k 27 cs → k ≠ g) ∧
      ∃ ss', OwnSecs (w.setCell ⟨g, i * 2 + 1, none⟩ (.bool x)) base A n c ss' ∧ ∀ j, (ss'.getD j (false, [])).2.length = (ss.getD j (false, [])).2.length := by
  have hall := h
  obtain ⟨vs, hown, hl, hby, hin⟩ := h
  have hvl : vs.length = n * 2 := hown.1
  obtain ⟨g, v, rfl, hbg, hc, hf, hset⟩ := owns_at2 hown (show i * 2 + 1 < n * 2 by omega)
  refine ⟨g, rfl, hbg, fun hb e => hall.not_blk hb (by rw [e]; rfl), ss.set i (x, (ss.getD i (false, [])).2), ⟨_, hset (.bool x), by rw [List.length_set]; exact hl, ?_, fun j hj => ?_⟩, fun j => ?_⟩
  · intro y hy z hzz
    rcases List.mem_or_eq_of_mem_set hy with hy | rfl
    · exact hby y hy z hzz
    · refine hby (ss.getD i (false, [])) ?_ z hzz
      rw [List.getD_eq_getElem?_getD, List.getElem?_eq_getElem (by omega), Option.getD_some]
      exact List.getElem_mem _
  · have hkeep : ∀ {A' : Option Addr} {n' c' : Nat} {xs : List Int}, OwnTxt w base A' n' c' xs → OwnTxt (w.setCell ⟨g, i * 2 + 1, none⟩ (.bool x)) base A' n' c' xs := fun hx =>
      hx.keep fun g' _ hu => by
        have hne : g' ≠ g := fun e => by subst e; exact u8_row (by decide) hu hown rfl
        exact Below.heap_setCell w _ _ g' hne
    obtain ⟨Aj, nj, cj, hv, hx, hoj⟩ := hin j hj
    by_cases e : i = j
    · subst e
      have e2 : (ss.set i (x, (ss.getD i (false, [])).2)).getD i (false, []) = (x, (ss.getD i (false, [])).2) := by simp [List.getD_eq_getElem?_getD, show i < ss.length by omega]
      rw [e2]
      exact ⟨Aj, nj, cj, by rw [List.getElem?_set_ne (by omega)]; exact hv, List.getElem?_set_self (by omega), hkeep hoj⟩
    · have e2 : (ss.set i (x, (ss.getD i (false, [])).2)).getD j (false, []) = ss.getD j (false, []) := by simp [List.getD_eq_getElem?_getD, List.getElem?_set_ne e]
      rw [e2]
      exact ⟨Aj, nj, cj, by rw [List.getElem?_set_ne (by omega)]; exact hv, by rw [List.getElem?_set_ne (by omega)]; exact hx, hkeep hoj⟩
  · by_cases e : i = j
    · subst e
      rcases Nat.lt_or_ge i ss.length with hs | hs
      · simp [List.getD_eq_getElem?_getD, hs]
      · omega
    · simp [List.getD_eq_getElem?_getD, List.getElem?_set_ne e]

theorem tpl_few {P T K M W Q : Int} {S : List Sec} {C : List Pnd} {p k : Int} {b : Txt} (hb : ∀ z ∈ b, isByte z) : (tpL P T K M W Q S C p k b).length ≤ 4 := by
  unfold tpL
  split
  · rename_i h
    obtain ⟨_, _, h0⟩ := tpE_zero h
    obtain ⟨h1, _, h3, _⟩ := cpL_good h0 (sealed_byte hb)
    omega
  · simp
theorem tws_few {P T K M W Q : Int} {S : List Sec} {C : List Pnd} {p k : Int} {b : Txt} (hs : SmallD S C) : (twS P T K M W Q S C p k b).length ≤ 300 ∧ ∀ j, ((twS P T K M W Q S C p k b).getD j (false, [])).2.length ≤ 100 := by
  unfold twS
  split
  · exact ⟨hs.secs, fun j => hs.sec_at j⟩
  · exact ⟨by simp, fun j => by simp⟩

set_option maxRecDepth 100000 in
set_option maxHeartbeats 12800000 in
theorem twrites_of (P T K M W Q : Int) (D : Option Addr) (n c : Nat) (D' : Option Addr) (n' c' : Nat) (S : List Sec) (C : List Pnd) (p k : Int) (a4 : Option Addr) (len4 cap4 : Nat) (z4 : List Int) (w : World) (hq : Dsk w D n c D' n' c' S C) (w4 : IsRow .u8 w a4 len4 cap4 z4) :
    Calls Tryz.prog 3 #[cfgV P T K M W Q, diskV D n c D' n' c', .int .i64 p, .int .i64 k, .slice a4 len4 cap4] w fun e w' => e = .returned (.bool true) ∧ Below w.heap.size w w' := by
  obtain ⟨b, hb, hbw⟩ := w4.arg
  have hby : ∀ z ∈ b, isByte z := fun z hz => wf_byte (hbw z hz)
  obtain ⟨x, hbel⟩ := TBox.new P T K M W Q hq
  obtain ⟨w0, hw0⟩ : ∃ x : World, x = (w.alloc (.cells #[.int .i64 P, .int .i64 T, .int .i64 K, .int .i64 M, .int .i64 W, .int .i64 Q] 23)).alloc (.cells #[.slice D n c, .slice D' n' c'] 27) := ⟨_, rfl⟩
  rw [← hw0] at x hbel
  have X := Lib.hid x
  have RB := Lib.hid (hb.below hbel)
  have B := Lib.hid hbel
  have gg := fun w hx => great_any D n c D' n' c' S C 300 w hx
  have hbl := hb.len
  have hbc := Nat.le_trans hb.cap hb.max
  unfold maxLen at hbc
  obtain ⟨c0, c1, c2, c3, c4, c5, d0, d1⟩ := x.cells
  clear hq hbel w4 hbw hb x
  cases hg1 : greatD S C 300 with
  | true =>
    rw [hg1] at gg
    have GG := Lib.hid gg
    clear gg hg1 hby hbl
    go_enter Tryz.func3, Tryz.ntmps3
    go_wp2_with fail
    rw [← hw0]
    clear hw0
    refine (GG.out _ X.out.dsk.dsk).mono ?_
    rintro e w1 ⟨rfl, hb⟩
    have B := Lib.hid (B.out.trans (hb.mono B.out.size))
    clear hb c0 c1 c2 c3 c4 c5 d0 d1
    go_wp2
    go_ret
    exact ⟨rfl, B.out⟩
  | false =>
    rw [hg1] at gg
    have GG := Lib.hid gg
    have SZ := Lib.hid (small_ofD (by decide) (by decide) hg1)
    clear gg hg1
    by_cases hl1 : 100 < len4
    · have hl2 : (100 : Int) < (len4 : Int) := by omega
      clear hbl hl1 hby
      go_enter Tryz.func3, Tryz.ntmps3
      go_wp2_with fail
      rw [← hw0]
      clear hw0
      refine (GG.out _ X.out.dsk.dsk).mono ?_
      rintro e w1 ⟨rfl, hb⟩
      have B := Lib.hid (B.out.trans (hb.mono B.out.size))
      clear hb c0 c1 c2 c3 c4 c5 d0 d1
      go_wp2
      go_ret
      exact ⟨rfl, B.out⟩
    have hl2 : ¬ (100 : Int) < (len4 : Int) := by omega
    have hl3 : len4 ≤ 100 := by omega
    have TW := Lib.hid (fun wx hx => twin_any D n c D' n' c' S C wx hx SZ.out)
    have PL := Lib.hid (fun B1 e1 B1' e1' Am cm wx (hx : Dsk wx B1 n e1 B1' n' e1' S C) (ha : Arg wx .u8 Am len4 cm b) => tplan_any P T K M W Q B1 n e1 B1' n' e1' S C p k Am len4 cm b wx hx SZ.out ha hby)
    have RP := Lib.hid (fun wx hx ha => rplanT_any P T K M W Q D n c D' n' c' S C p k a4 len4 cap4 b wx hx SZ.out ha hby)
    have WR := Lib.hid (fun B1 e1 B1' e1' Am cm wx (hx : Dsk wx B1 n e1 B1' n' e1' S C) (ha : Arg wx .u8 Am len4 cm b) => twrite_any P T K M W Q B1 n e1 B1' n' e1' S C p k Am len4 cm b wx hx SZ.out ha hby)
    have RW := Lib.hid (fun wx hx ha => rwriteT_any P T K M W Q D n c D' n' c' S C p k a4 len4 cap4 b wx hx SZ.out ha hby)
    have SY := Lib.hid (fun B1 e1 B1' e1' wx (hx : Dsk wx B1 n e1 B1' n' e1' S C) hy => same_yes B1 n e1 B1' n' e1' S C D n c D' n' c' wx hx hy)
    have hL4 := tpl_few (P := P) (T := T) (K := K) (M := M) (W := W) (Q := Q) (S := S) (C := C) (p := p) (k := k) hby
    obtain ⟨hS3, hST⟩ := tws_few (P := P) (T := T) (K := K) (M := M) (W := W) (Q := Q) (p := p) (k := k) (b := b) SZ.out
    unfold PlanOut at PL
    unfold RPlan at RP
    unfold DiskOut at WR RW
    obtain ⟨L, hL⟩ : ∃ v, v = tpL P T K M W Q S C p k b := ⟨_, rfl⟩
    obtain ⟨E, hE⟩ : ∃ v, v = tpE P T K M W Q S C p k b := ⟨_, rfl⟩
    obtain ⟨S2, hS2⟩ : ∃ v, v = twS P T K M W Q S C p k b := ⟨_, rfl⟩
    obtain ⟨C2, hC2⟩ : ∃ v, v = twC P T K M W Q S C p k b := ⟨_, rfl⟩
    obtain ⟨E2, hE2⟩ : ∃ v, v = twE P T K M W Q S C p k b := ⟨_, rfl⟩
    rw [← hL] at PL RP hL4
    rw [← hE] at PL RP
    rw [← hS2, ← hC2, ← hE2] at WR RW
    rw [← hS2] at hS3 hST
    have SX := Lib.hid (fun B1 e1 B1' e1' B2 e2 B2' e2' wx hx hy => same_yes B1 S2.length e1 B1' C2.length e1' S2 C2 B2 S2.length e2 B2' C2.length e2' wx hx hy)
    have SP := Lib.hid (fun B1 e1 B1' e1' wx hx hy => rsamep_yes B1 L.length e1 B1' e1' L wx hx hy (by omega))
    obtain ⟨N, hN⟩ : ∃ v, v = L.length := ⟨_, rfl⟩
    obtain ⟨nS, hnS⟩ : ∃ v, v = S2.length := ⟨_, rfl⟩
    obtain ⟨nC, hnC⟩ : ∃ v, v = C2.length := ⟨_, rfl⟩
    rw [← hN] at PL RP SP hL4
    rw [← hnS, ← hnC] at WR RW SX
    rw [← hnS] at hS3
    have ST := Lib.hid hST
    have hee : (E == E) = true := beq_self_eq_true _
    have hee2 : (E2 == E2) = true := beq_self_eq_true _
    clear hL hE hS2 hC2 hE2 hby hST hN hnS hnC
    go_enter Tryz.func3, Tryz.ntmps3
    go_wp2_with fail
    rw [← hw0]
    clear hw0
    refine (GG.out _ X.out.dsk.dsk).mono ?_
    rintro e w1 ⟨rfl, hb⟩
    have B := Lib.hid (B.out.trans (hb.mono B.out.size))
    have X := Lib.hid (X.out.below hb)
    have RB := Lib.hid (RB.out.below hb)
    clear hb c0 c1 c2 c3 c4 c5 d0 d1 GG
    obtain ⟨c0, c1, c2, c3, c4, c5, d0, d1⟩ := X.out.cells
    go_wp2_with fail
    refine (TW.out _ X.out.dsk.dsk).mono ?_
    rintro e w2 ⟨A2, a2, A2', a2', rfl, hown, hb⟩
    have B := Lib.hid (B.out.trans (hb.mono B.out.size))
    have X := Lib.hid (X.out.below hb)
    have RB := Lib.hid (RB.out.below hb)
    have OO := Lib.hid hown
    clear hb c0 c1 c2 c3 c4 c5 d0 d1 TW hown
    obtain ⟨ib, hib, hbz, hb1, hb2⟩ := info_parts byte_info
    have hml : (1000 : Nat) ≤ maxLen := by decide
    go_wp2_with (at_builtin; refine wpList_dup_g w2 rfl (.tmp 33) (.tmp 34) _ rfl 5 ib _ 1 Tryz.underlying28 hib hbz hb1 hb2 rfl rfl a4 len4 cap4 (ints .u8 b) rfl (by rw [ints_length, RB.out.len]) RB.out.seq (ints_one _ _) (by omega) (by omega) ?_; intro AM cM w5 hown5 hbel5; have O5 := Lib.hid hown5; have B5 := Lib.hid hbel5; clear hown5 hbel5; obtain ⟨o0, o1⟩ := box_disk w5 A2 n a2 A2' n' a2'; have KK : Below w2.heap.size w2 (w5.alloc (.cells #[.slice A2 n a2, .slice A2' n' a2'] 27)) := B5.out.alloc B5.out.size _; obtain ⟨c0, c1, c2, c3, c4, c5, d0, d1⟩ := (X.out.below KK).cells; clear KK)
    have K5 : Below w2.heap.size w2 (w5.alloc (.cells #[.slice A2 n a2, .slice A2' n' a2'] 27)) := B5.out.alloc B5.out.size _
    have X := Lib.hid (X.out.below K5)
    have RB := Lib.hid (RB.out.below K5)
    have O := DBox.new ((Dsk.of_own OO.out).below B5.out)
    have OM := owns_below O5.out (show Below w5.heap.size w5 (w5.alloc (.cells #[.slice A2 n a2, .slice A2' n' a2'] 27)) from (Below.refl _ _).alloc (Nat.le_refl _) _)
    have B := Lib.hid (B.out.trans (K5.mono B.out.size))
    obtain ⟨GO, hGO⟩ : ∃ x, x = w5.heap.size := ⟨_, rfl⟩
    rw [← hGO] at O ⊢
    obtain ⟨w6, hw6⟩ : ∃ x : World, x = w5.alloc (.cells #[.slice A2 n a2, .slice A2' n' a2'] 27) := ⟨_, rfl⟩
    rw [← hw6] at X RB O OM B o0 o1 c0 c1 c2 c3 c4 c5 d0 d1 ⊢
    rw [← hGO] at o0 o1
    have O := Lib.hid O
    have M1 := Lib.hid (Arg.own OM)
    clear hGO hw6 K5 OO O5 B5 OM hib hbz hb1 hb2 hl2
    have D := Lib.hid (Below.refl w6.heap.size w6)
    go_wp2_with fail
    refine (PL.out A2 a2 A2' a2' AM cM w6 O.out.dsk M1.out).mono ?_
    rintro e w7 ⟨Al, cl, rfl, hl, hb⟩
    have D := Lib.hid hb
    have OL := Lib.hid hl
    clear hb hl c0 c1 c2 c3 c4 c5 d0 d1 o0 o1 PL
    obtain ⟨c0, c1, c2, c3, c4, c5, d0, d1⟩ := (X.out.below D.out).cells
    go_wp2_with fail
    refine (RP.out w7 (X.out.below D.out).dsk.dsk (RB.out.below D.out)).mono ?_
    rintro e w8 ⟨Am, cm, rfl, hm, hb⟩
    have OL := Lib.hid (OL.out.below hb)
    have D := Lib.hid (D.out.trans (hb.mono D.out.size))
    have PM := Lib.hid hm
    clear hb hm c0 c1 c2 c3 c4 c5 d0 d1 RP
    obtain ⟨c0, c1, c2, c3, c4, c5, d0, d1⟩ := (X.out.below D.out).cells
    obtain ⟨o0, o1⟩ := (O.out.below D.out).cells
    go_wp2_with fail
    refine (WR.out A2 a2 A2' a2' AM cM w8 (O.out.below D.out).dsk (M1.out.below D.out)).mono ?_
    rintro e w9 ⟨AX, cX, AX', cX', rfl, hown, hb⟩
    have hkA : Below w9.heap.size w9 (w9.alloc (.cells #[.slice AX nS cX, .slice AX' nC cX'] 27)) := (Below.refl _ _).alloc (Nat.le_refl _) _
    have hb3 := hb.trans (hkA.mono hb.size)
    have XX := DBox.new (Dsk.of_own hown)
    have OX := Lib.hid ((hown.below hkA).lower D.out.size)
    have OL := Lib.hid (OL.out.below hb3)
    have PM := Lib.hid (PM.out.below hb3)
    have D := Lib.hid (D.out.trans (hb3.mono D.out.size))
    clear hb hb3 hkA hown c0 c1 c2 c3 c4 c5 d0 d1 o0 o1 WR
    obtain ⟨GX, hGX⟩ : ∃ x, x = w9.heap.size := ⟨_, rfl⟩
    go_upto_region 7 with fail
    rw [← hGX] at XX ⊢
    obtain ⟨wa, hwa⟩ : ∃ x : World, x = w9.alloc (.cells #[.slice AX nS cX, .slice AX' nC cX'] 27) := ⟨_, rfl⟩
    rw [← hwa] at XX OX OL PM D ⊢
    have XX := Lib.hid XX
    clear hwa hGX
    obtain ⟨c0, c1, c2, c3, c4, c5, d0, d1⟩ := (X.out.below D.out).cells
    go_wp2_with fail
    refine (RW.out wa (X.out.below D.out).dsk.dsk (RB.out.below D.out)).mono ?_
    rintro e wb ⟨AY, cY, AY', cY', rfl, hown, hb⟩
    have hkA : Below wb.heap.size wb (wb.alloc (.cells #[.slice AY nS cY, .slice AY' nC cY'] 27)) := (Below.refl _ _).alloc (Nat.le_refl _) _
    have hb3 := hb.trans (hkA.mono hb.size)
    have YY := DBox.new (Dsk.of_own hown)
    have OX := Lib.hid (OX.out.below hb3)
    have OL := Lib.hid (OL.out.below hb3)
    have PM := Lib.hid (PM.out.below hb3)
    have XX := Lib.hid (XX.out.below hb3)
    have D := Lib.hid (D.out.trans (hb3.mono D.out.size))
    clear hb hb3 hkA hown c0 c1 c2 c3 c4 c5 d0 d1 RW
    obtain ⟨GY, hGY⟩ : ∃ x, x = wb.heap.size := ⟨_, rfl⟩
    go_upto_region 8 with fail
    rw [← hGY] at YY ⊢
    obtain ⟨wc, hwc⟩ : ∃ x : World, x = wb.alloc (.cells #[.slice AY nS cY, .slice AY' nC cY'] 27) := ⟨_, rfl⟩
    rw [← hwc] at XX YY OX OL PM D ⊢
    have YY := Lib.hid YY
    clear hwc hGY
    go_wp2_with fail
    refine (SP.out Al cl Am cm wc (Pnds.of_own OL.out) PM.out).mono ?_
    rintro e wd' ⟨rfl, hb⟩
    have OX := Lib.hid (OX.out.below hb)
    have XX := Lib.hid (XX.out.below hb)
    have YY := Lib.hid (YY.out.below hb)
    have D := Lib.hid (D.out.trans (hb.mono D.out.size))
    clear hb PM SP OL
    obtain ⟨c0, c1⟩ := XX.out.cells
    obtain ⟨d0, d1⟩ := YY.out.cells
    go_wp2_with fail
    refine (SX.out AX cX AX' cX' AY cY AY' cY' wd' XX.out.dsk YY.out.dsk).mono ?_
    rintro e we ⟨rfl, hb⟩
    have OX := Lib.hid (OX.out.below hb)
    have XB := Lib.hid (XX.out.below hb).blk
    have D := Lib.hid (D.out.trans (hb.mono D.out.size))
    have QX := Lib.hid OX.out.secs
    clear hb SX YY XX OX c0 c1 d0 d1
    go_wp2
    go_loopw [22] (fun x wr => ∃ i : Nat, i ≤ nS ∧ x = .int .i64 i ∧ (∃ S9, OwnSecs wr w6.heap.size AX nS cX S9 ∧ ∀ j, (S9.getD j (false, [])).2.length = (S2.getD j (false, [])).2.length) ∧ Blk wr GX 27 [.slice AX nS cX, .slice AX' nC cX'] ∧ Below w6.heap.size w6 wr) (fun x _ => nS - (intOf x).toNat)
    case atStart => exact ⟨0, Nat.zero_le _, rfl, ⟨S2, QX.out, fun _ => rfl⟩, XB.out, D.out⟩
    case round =>
      obtain ⟨i, hi, rfl, ⟨S3, hq, hl⟩, hx, hb1⟩ := hrel
      have q0 := hx.cell 0
      simp only [List.getElem?_cons_zero] at q0
      by_cases hin : i < nS
      · have hsi := ST.out i
        have hi1 : (i : Int) < (nS : Int) := by omega
        obtain ⟨gA, Ai, ni, ci, hgA, _, hcA, hcB, hfB, _, _, hci, hcm⟩ := hq.row hin
        obtain ⟨gB, hgB, hbB, hne, S4, hq4, hl4⟩ := hq.setBad hin true
        rw [hgA] at hgB
        cases hgB
        subst hgA
        have hnx := hne hx
        obtain ⟨TT, hT⟩ : ∃ T, T = (S2.getD i (false, [])).2.length := ⟨_, rfl⟩
        rw [← hT] at hsi
        have HT := Lib.hid hT
        have Q4 := Lib.hid hq4
        have N4 := Lib.hid (fun j => (hl4 j).trans (hl j))
        have X4 := Lib.hid (hx.away hnx (i * 2 + 1) (.bool true))
        have B4 := Lib.hid (hb1.setCell (p := ⟨gA, i * 2 + 1, none⟩) hbB (.bool true))
        clear hq hl hx hb1 hT hne hnx hq4 hl4 hci hcm
        go_wp2
        go_loopw [23] (fun x wx => ∃ m : Nat, m ≤ TT ∧ x = .int .i64 m ∧ (∃ S9, OwnSecs wx w6.heap.size (some ⟨gA, 0, none⟩) nS cX S9 ∧ ∀ j, (S9.getD j (false, [])).2.length = (S2.getD j (false, [])).2.length) ∧ Blk wx GX 27 [.slice (some ⟨gA, 0, none⟩) nS cX, .slice AX' nC cX'] ∧ Below w6.heap.size w6 wx) (fun x _ => TT - (intOf x).toNat)
        case atStart => exact ⟨0, Nat.zero_le _, rfl, ⟨S4, Q4.out, N4.out⟩, X4.out, B4.out⟩
        case round =>
          obtain ⟨m, hm, rfl, ⟨S5, hq, hl⟩, hx, hb⟩ := hrel
          obtain ⟨gC, Ai, ni, ci, hgC, _, hcA, hcB, _, hro, hln, hci, hcm⟩ := hq.row hin
          cases hgC
          rw [hl i, ← HT.out] at hln
          subst hln
          have q0 := hx.cell 0
          simp only [List.getElem?_cons_zero] at q0
          unfold maxLen at hcm
          by_cases hkL : m < TT
          · obtain ⟨g, o, rfl, hbg, hu, hcg, hfg⟩ := hro.at_ hkL
            obtain ⟨S6, hQ6, _, hN6⟩ := hq.touch hu (o + m) (z := 7) ⟨by omega, by omega⟩
            have Q6 := Lib.hid hQ6
            have N6 := Lib.hid (fun j => (hN6 j).trans (hl j))
            have X6 := Lib.hid (hx.touchedU (by decide) hu (o + m) (.int .u8 7))
            have B6 := Lib.hid (hb.setCell (p := ⟨g, o + m, none⟩) hbg (.int .u8 7))
            have hk1 : (m : Int) < (TT : Int) := by omega
            clear hq hl hx hb hro hu hQ6 hN6
            go_wp2
            go_roundw
            case rel => exact ⟨m + 1, by omega, by go_num, ⟨S6, Q6.out, N6.out⟩, X6.out, B6.out⟩
            case measure => simp [intOf]; omega
          · obtain rfl : m = TT := by omega
            have Q5 := Lib.hid hq
            have N5 := Lib.hid hl
            have X5 := Lib.hid hx
            have B5 := Lib.hid hb
            clear hq hl hx hb hro
            go_wp2
            go_roundw
            case rel => exact ⟨i + 1, by omega, by go_num, ⟨S5, Q5.out, N5.out⟩, X5.out, B5.out⟩
            case measure => simp [intOf]; omega
      · obtain rfl : i = nS := by omega
        have D9 := Lib.hid hb1
        have O9 := Lib.hid (O.out.below hb1)
        have X9 := Lib.hid (X.out.below hb1)
        obtain ⟨c0, c1, c2, c3, c4, c5, d0, d1⟩ := X9.out.cells
        obtain ⟨o0, o1⟩ := O9.out.cells
        clear hq hl hx hb1
        go_wp2_with fail
        refine (SY.out A2 a2 A2' a2' _ O9.out.dsk X9.out.dsk.dsk).mono ?_
        rintro e wz ⟨rfl, hb⟩
        have D := Lib.hid (D9.out.trans (hb.mono D9.out.size))
        have es1 := str_arg (M1.out.below D.out)
        have es2 := str_arg (RB.out.below D.out)
        have hst : ((strOfNums b).toList == (strOfNums b).toList) = true := beq_self_eq_true _
        have BF := Lib.hid (B.out.trans (D.out.mono B.out.size))
        clear hb c0 c1 c2 c3 c4 c5 d0 d1 o0 o1
        go_wp2
        go_ret
        exact ⟨rfl, BF.out⟩

end Go.Proofs.YtnmlplfcdnakhaaGreat
