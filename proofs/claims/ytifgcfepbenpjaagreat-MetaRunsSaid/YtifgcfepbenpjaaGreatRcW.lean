/- Layer 12, MetaRuns: the walk. -/
import Derived.Test.YtifgcfepbenpjaaGreatRcX
namespace Go.Proofs.YtifgcfepbenpjaaGreat
open Go.RowKit
set_option linter.unusedVariables false

/-- A disk of the call's own, whose sizes are small. -/
def clDskS (mk : Option Addr → Nat → Option Addr → Nat → Value) (base : Nat) (S : List Sec) (C : List Pnd) : Cl stD :=
  ⟨fun v w => ∃ A c A' c', v = mk A c A' c' ∧ OwnDsk w base A S.length c A' C.length c' S C ∧ SmallD S C, fun hb h => by obtain ⟨A, c, A', c', e, h, g⟩ := h; exact ⟨A, c, A', c', e, h.below hb, g⟩, fun hs h => by obtain ⟨A, c, A', c', e, h, g⟩ := h; obtain ⟨_, _, _, _, _, hb, rfl⟩ := hs; exact ⟨A, c, A', c', e, h.two hb _ _, g⟩⟩
/-- What holds from step to step of a run. -/
def RunInv (P T A M W Q : Int) (w : World) (h6 h7 n0 : Nat) (i : Value) (wr : World) : Prop := ∃ (j : Nat) (S : List Sec) (D : Option Addr) (d : Nat) (D' : Option Addr) (d' : Nat) (B : Option Addr) (c : Nat) (m : Mt), j ≤ n0 ∧ i = .int .i64 j ∧ Blk wr h6 25 [.slice D S.length d, .slice D' 0 d'] ∧ Blk wr h7 32 (metL m.s.1 m.s.2.1 m.s.2.2 m.n m.u B m.t.length c) ∧ OwnDsk wr w.heap.size D S.length d D' 0 d' S [] ∧ SmallD S [] ∧ OwnRecs wr w.heap.size B m.t.length c m.t ∧ Inv12 P T A M W Q S m (j : Int) ∧ Below w.heap.size w wr ∧ w.heap.size ≤ h6 ∧ h7 = h6 + 1

theorem eq_same (a b c : Int) (w : World) : (Op.equalIn 10000 29 (supV a b c) (supV a b c)).run Tryz.prog w = .ok true w := by
  rw [eq_sup]
  simp
theorem Crash12.sup {P T A M W Q : Int} {S : List Sec} {s : Sup} {t : List Rc} {n B V i : Int} (C : Crash12 P T A M W Q S s t n B V i) : isS s := by
  have := C.R.gen
  have := C.boot
  have := C.gen
  have := C.few
  exact ⟨⟨by omega, by omega⟩, ⟨by omega, by omega⟩⟩
theorem runs_sup {P T A M W Q : Int} {S : List Sec} {s : Sup} {t : List Rc} {n B V i : Int} (R : Runs12 P T A M W Q S s t n B V) (hi : i ≤ 1000) (h0 : 0 ≤ s.1) (h1 : s.1 ≤ 2 * i) (hB : B ≤ 65536 * (s.1 + 1)) : isS s := by
  have := R.gen
  exact ⟨⟨by omega, by omega⟩, ⟨by omega, by omega⟩⟩

set_option maxRecDepth 100000 in
set_option maxHeartbeats 12800000 in
theorem mruns_of (P T A M W Q : Int) (Al : Option Addr) (n0 cl0 : Nat) (L : List Stp) (w : World) (hl : Stps w Al n0 cl0 L) :
    Calls Tryz.prog 7 #[cfgV P T A M W Q, .slice Al n0 cl0] w fun e w' => e = .returned (.bool true) ∧ Below w.heap.size w w' := by
  obtain ⟨x, hb0⟩ := box_cfg w P T A M W Q
  obtain ⟨w0, hw0⟩ : ∃ y, y = w.alloc (.cells #[.int .i64 P, .int .i64 T, .int .i64 A, .int .i64 M, .int .i64 W, .int .i64 Q] 36) := ⟨_, rfl⟩
  rw [← hw0] at x hb0
  have X := Lib.hid x
  have B := Lib.hid hb0
  have HL := Lib.hid hl
  clear x hb0 hl
  obtain ⟨X_0, X_1, X_2, X_3, X_4, X_5⟩ := X.out.cfg
  go_enter Tryz.func7, Tryz.ntmps7
  go_wp2_with fail
  rw [← hw0]
  clear hw0
  clear X_0 X_1 X_2 X_3 X_4 X_5
  refine (alive12_any _).mono ?_
  rintro e v1 ⟨rfl, hb⟩
  have B := Lib.hid (B.out.trans (hb.mono B.out.size))
  have X := Lib.hid (X.out.below hb X.out.lt)
  clear hb 
  obtain ⟨X_0, X_1, X_2, X_3, X_4, X_5⟩ := X.out.cfg
  by_cases h20 : 20 < n0
  · have g : (20 : Int) < (n0 : Int) := by omega
    go_wp2
    go_ret
    exact ⟨rfl, B.out⟩
  have g20 : ¬ (20 : Int) < (n0 : Int) := by omega
  have H20 := Lib.hid h20
  have PK := Lib.hid (fun wx => pcheck_any P T A M W Q wx)
  by_cases hc : mayC P T A M W Q
  case neg =>
    have e0 : chkC P T A M W Q ≠ 0 := fun h => hc (by unfold chkC at h; split at h; assumption; cases h)
    have e1 : (chkC P T A M W Q != 0) = true := by simpa using e0
    have e2 : (chkC P T A M W Q == 0) = false := by simpa using e0
    obtain ⟨E, hE⟩ : ∃ y, y = chkC P T A M W Q := ⟨_, rfl⟩
    rw [← hE] at PK e0 e1 e2
    clear hE hc h20
    go_wp2_with fail
    clear X_0 X_1 X_2 X_3 X_4 X_5
    refine (PK.out _).mono ?_
    rintro e v2 ⟨rfl, hb⟩
    have B := Lib.hid (B.out.trans (hb.mono B.out.size))
    have X := Lib.hid (X.out.below hb X.out.lt)
    clear hb PK
    obtain ⟨X_0, X_1, X_2, X_3, X_4, X_5⟩ := X.out.cfg
    go_wp2
    go_ret
    exact ⟨rfl, B.out⟩
  case pos =>
    have e0 : chkC P T A M W Q = 0 := if_pos hc
    rw [e0] at PK
    clear e0 h20
    go_wp2_with fail
    clear X_0 X_1 X_2 X_3 X_4 X_5
    refine (PK.out _).mono ?_
    rintro e v2 ⟨rfl, hb⟩
    have B := Lib.hid (B.out.trans (hb.mono B.out.size))
    have X := Lib.hid (X.out.below hb X.out.lt)
    clear hb PK
    obtain ⟨X_0, X_1, X_2, X_3, X_4, X_5⟩ := X.out.cfg
    have BO := Lib.hid (fun wx => booted12_any P T A M W Q wx hc)
    clear hc
    go_wp2_with fail
    clear X_0 X_1 X_2 X_3 X_4 X_5
    refine (BO.out _).mono ?_
    rintro e w2 ⟨S0, D0, d0, D0', d0', B0, k0, rfl, hd0, hs0, hr0, hi0, hb⟩
    have hsz := B.out.size
    have B := Lib.hid (B.out.trans (hb.mono B.out.size))
    have X := Lib.hid (X.out.below hb X.out.lt)
    obtain ⟨hm, hk⟩ := met_box (w2.alloc (.cells #[.slice D0 S0.length d0, .slice D0' 0 d0'] 25)) 1 0 0 0 0 B0 0 k0
    rw [World.size_alloc] at hm
    have h3 : Below w2.heap.size w2 (w2.alloc (.cells #[.slice D0 S0.length d0, .slice D0' 0 d0'] 25)) := (Below.refl _ _).alloc (Nat.le_refl _) _
    have h4 := h3.trans (hk.mono h3.size)
    have hx := Blk.new w2 25 [.slice D0 S0.length d0, .slice D0' 0 d0']
    have AT0 := Lib.hid (show RunInv P T A M W Q w w2.heap.size (w2.heap.size + 1) n0 (.int .i64 ((0 : Nat) : Int)) ((w2.alloc (.cells #[.slice D0 S0.length d0, .slice D0' 0 d0'] 25)).alloc (.cells #[.int .u32 1, .int .i64 0, .int .u64 0, .int .i64 0, .int .i64 0, .slice B0 0 k0] 32)) from
      ⟨0, S0, D0, d0, D0', d0', B0, k0, ⟨(1, 0, 0), 0, 0, []⟩, Nat.zero_le _, rfl, hx.below hk hx.lt, hm, (hd0.lower hsz).below h4, hs0, (hr0.lower hsz).below h4, hi0, B.out.trans (h4.mono B.out.size), B.out.size, rfl⟩)
    have LW := Lib.hid (show w.heap.size ≤ w2.heap.size from B.out.size)
    have XW := Lib.hid (X.out.below h4 X.out.lt)
    have CW := Lib.hid (h4.size)
    clear hm hk h3 h4 hx hd0 hs0 hr0 hi0 B hb hsz X BO
    go_wp2
    go_loopw [9] (fun i wr => RunInv P T A M W Q w w2.heap.size (w2.heap.size + 1) n0 i wr ∧ Blk wr w.heap.size 36 [.int .i64 P, .int .i64 T, .int .i64 A, .int .i64 M, .int .i64 W, .int .i64 Q]) (fun i _ => n0 - (intOf i).toNat)
    case atStart => exact ⟨AT0.out, XW.out⟩
    case round =>
      obtain ⟨⟨j, S, D, d, D', d', Bm, cm, m, hj, rfl, hbD, hbM, hd, hs, hr, hi, hbl, _, _⟩, hcf⟩ := hrel
      have X := Lib.hid hcf
      have XD := Lib.hid hbD
      have XM := Lib.hid hbM
      have DQ := Lib.hid hd
      have SM := Lib.hid hs
      have RM := Lib.hid hr
      have HI := Lib.hid hi
      have B := Lib.hid hbl
      clear hbD hbM hd hs hr hi hbl AT0 hcf XW CW
      obtain ⟨⟨v, a, g⟩, n, u, t⟩ := m
      dsimp only at XM RM
      have KT := Lib.hid (three_of12 HI.out.R.tab)
      dsimp only at KT
      obtain ⟨kt, hkt⟩ : ∃ y, y = t.length := ⟨_, rfl⟩
      rw [← hkt] at XM RM KT
      have HKT := Lib.hid hkt
      have PO := Lib.hid (fun S D d D' d' wx hx hs => popen12_any P T A M W Q D S.length d D' 0 d' S [] wx hx hs)
      unfold MetOut at PO
      clear hkt
      by_cases hjn : j < n0
      · as_aux_lemma =>
        have hji : (j : Int) < (n0 : Int) := by omega
        have hst := HL.out.below B.out
        obtain ⟨b, o, A1, n1, c1, A2, n2, c2, hA0, hcs, ha1, ha2⟩ := hst.row hjn
        obtain ⟨hby1, hby2⟩ := hst.byte_at j
        subst hA0
        have CS := Lib.hid hcs
        have NA := Lib.hid ha1
        have FA := Lib.hid ha2
        have YB := Lib.hid hby1
        have FB := Lib.hid hby2
        have L1 := Lib.hid ha1.len
        have L2 := Lib.hid ha2.len
        clear hcs ha1 ha2 hby1 hby2 hst
        obtain ⟨sT, hsT⟩ : ∃ y, y = L.getD j zStp := ⟨_, rfl⟩
        rw [← hsT] at CS NA FA YB FB L1 L2
        clear hsT
        obtain ⟨Tn, mn, Tf, ag⟩ := sT
        dsimp only at CS NA FA YB FB L1 L2
        obtain ⟨_, CS_0, CS_1, CS_2, CS_3⟩ := CS.out
        by_cases h1 : 100 < n1
        · have g : (100 : Int) < (n1 : Int) := by omega
          go_wp2
          go_ret
          exact ⟨rfl, B.out⟩
        by_cases h2 : 200 < n2
        · have g : (200 : Int) < (n2 : Int) := by omega
          have g' : ¬ (100 : Int) < (n1 : Int) := by omega
          go_wp2
          go_ret
          exact ⟨rfl, B.out⟩
        have g1 : ¬ (100 : Int) < (n1 : Int) := by omega
        have g2 : ¬ (200 : Int) < (n2 : Int) := by omega
        have hj20 : (j : Int) ≤ 20 := by have := H20.out; omega
        have HJ := Lib.hid hj20
        have G1 := Lib.hid g1
        have G2 := Lib.hid g2
        have IS := Lib.hid (HI.out.sup (by omega))
        dsimp only at IS
        obtain ⟨m2, hm2⟩ : ∃ y, y = cmO P T A M W Q S [] ⟨(v, a, g), n, u, t⟩ Tn := ⟨_, rfl⟩
        obtain ⟨La, hLa⟩ : ∃ y, y = cmL P T A M W Q S [] ⟨(v, a, g), n, u, t⟩ Tn := ⟨_, rfl⟩
        obtain ⟨E2, hE2⟩ : ∃ y, y = cmE P T A M W Q S [] ⟨(v, a, g), n, u, t⟩ Tn := ⟨_, rfl⟩
        have LA10 := Lib.hid (show La.length ≤ 10 by rw [hLa]; exact cmL_many)
        have PR := Lib.hid (fun wx hx hy => porderly_any P T A M W Q D S.length d D' 0 d' S [] v a g n u Bm kt cm t wx hx SM.out IS.out hy (Nat.le_trans KT.out (by decide)))
        rw [HI.out.orderly (by omega), HI.out.bo (by omega)] at PR
        have PC := Lib.hid (fun wx hx hy hz => pcommit12_any P T A M W Q D S.length d D' 0 d' S [] v a g n u Bm kt cm t A1 n1 c1 Tn wx hx SM.out IS.out hy (Nat.le_trans KT.out (by decide)) hz YB.out (by omega))
        rw [← hm2, ← hLa, ← hE2] at PC
        have HM2 := Lib.hid hm2
        have HLa := Lib.hid hLa
        have HE2 := Lib.hid hE2
        clear hm2 hLa hE2 KT
        unfold PlanOutB at PC
        obtain ⟨⟨v2, a2, g2'⟩, nn2, u2, t2⟩ := m2
        dsimp only at PC
        obtain ⟨k2, hk2⟩ : ∃ y, y = t2.length := ⟨_, rfl⟩
        obtain ⟨nl, hnl⟩ : ∃ y, y = La.length := ⟨_, rfl⟩
        rw [← hk2, ← hnl] at PC
        rw [← hnl] at LA10
        have HK2 := Lib.hid hk2
        have HNL := Lib.hid hnl
        clear hk2 hnl h1 h2 hj20
        obtain ⟨X_0, X_1, X_2, X_3, X_4, X_5⟩ := X.out.cfg
        obtain ⟨XD_0, XD_1⟩ := XD.out.two_
        obtain ⟨XM_0, XM_1, XM_2, XM_3, XM_4, XM_5⟩ := XM.out.met
        go_wp2_with fail
        clear CS_0 CS_1 CS_2 CS_3 X_0 X_1 X_2 X_3 X_4 X_5 XD_0 XD_1 XM_0 XM_1 XM_2 XM_3 XM_4 XM_5
        refine (PR.out _ (Dsk.of_own DQ.out) (Recs.of_own RM.out)).mono ?_
        rintro e v3 ⟨rfl, hb⟩
        have B := Lib.hid (B.out.trans (hb.mono B.out.size))
        have X := Lib.hid (X.out.below hb X.out.lt)
        have XD := Lib.hid (XD.out.below hb XD.out.lt)
        have XM := Lib.hid (XM.out.below hb XM.out.lt)
        have DQ := Lib.hid (DQ.out.below hb)
        have RM := Lib.hid (RM.out.below hb)
        have CS := Lib.hid (CS.out.below hb)
        have NA := Lib.hid (NA.out.below hb)
        have FA := Lib.hid (FA.out.below hb)
        clear hb PR
        obtain ⟨X_0, X_1, X_2, X_3, X_4, X_5⟩ := X.out.cfg
        obtain ⟨XD_0, XD_1⟩ := XD.out.two_
        obtain ⟨XM_0, XM_1, XM_2, XM_3, XM_4, XM_5⟩ := XM.out.met
        obtain ⟨_, CS_0, CS_1, CS_2, CS_3⟩ := CS.out
        go_upto_region 13 with fail
        clear X_0 X_1 X_2 X_3 X_4 X_5 XD_0 XD_1 XM_0 XM_1 XM_2 XM_3 XM_4 XM_5 CS_0 CS_1 CS_2 CS_3
        refine wp_region_upto2 rfl 17 (fun a0 f ax wx => ∃ x0 x1 x2 x3 x4 x5 x6 x7 x8 x9 x10 x11 x12 x13 x14 x15 x16 : Value, ax = ((((((((((((((((a0.put (some 92) x0).put (some 93) x1).put (some 94) x2).put (some 95) x3).put (some 96) x4).put (some 97) x5).put (some 98) x6).put (some 99) x7).put (some 100) x8).put (some 91) x9).put (some 101) x10).put (some 102) x11).put (some 103) x12).put (some 12) x13).put (some 13) x15).put (some 14) x16) ∧ Below v3.heap.size v3 wx ∧ (∀ jq, f jq = true → (([(Cl.is (.agg #[.int .i64 P, .int .i64 T, .int .i64 A, .int .i64 M, .int .i64 W, .int .i64 Q])), (Cl.is (.agg #[.slice D S.length d, .slice D' 0 d'])), (Cl.is (.agg #[.int .u32 v, .int .i64 a, .int .u64 g, .int .i64 n, .int .i64 u, .slice Bm kt cm])), (Cl.is (.slice (some ⟨b, o, none⟩) n0 cl0)), (Cl.is (.int .i64 j)), (Cl.is (.pointer (some ⟨b, o + j * 4, none⟩))), (Cl.is (.pointer (some ⟨b, o + j * 4, none⟩))), (Cl.is (.slice A1 n1 c1)), (clPlan (fun A8 c8 A9 c9 => .tuple #[metV v2 a2 g2' nn2 u2 A8 k2 c8, .slice A9 nl c9, .int .i64 E2]) w.heap.size k2 t2 nl La), (clPlan (fun A8 c8 A9 c9 => .tuple #[metV v2 a2 g2' nn2 u2 A8 k2 c8, .slice A9 nl c9, .int .i64 E2]) w.heap.size k2 t2 nl La), (clRecs (fun A8 c8 => metV v2 a2 g2' nn2 u2 A8 k2 c8) w.heap.size k2 t2), (clActs (fun A9 c9 => .slice A9 nl c9) w.heap.size nl La), (Cl.is (.int .i64 E2)), (Cl.any), (Cl.any), (clActs (fun A9 c9 => .slice A9 nl c9) w.heap.size nl La), (Cl.is (.int .i64 E2))] : List (Cl stM)).getD jq Cl.any).p ([x0, x1, x2, x3, x4, x5, x6, x7, x8, x9, x10, x11, x12, x13, x14, x15, x16].getD jq undef) wx) ∧ BoxS 13 14 v3.heap.size 32 (metL 0 0 0 0 0 none 0 0) (fun wx h => ∃ A c, Blk wx h 32 (metL v2 a2 g2' nn2 u2 A k2 c) ∧ OwnRecs wx w.heap.size A k2 c t2) f x13 wx) (by decide) (by kernel_rfl) ?_ ?_ ?_
        · exact ⟨u92, u93, u94, u95, u96, u97, u98, u99, u100, u91, u101, u102, u103, u12, undef, u13, u14, (by simp only [Act.put, List.setIfInBounds_toArray, List.set_cons_zero, List.set_cons_succ]), (Below.refl _ _).drew, (fun j h => (by cases h)), BoxS.start⟩
        · refine ⟨⟨⟨⟨⟨⟨⟨⟨⟨⟨⟨⟨⟨⟨⟨⟨⟨trivial, ?_⟩, ?_⟩, ?_⟩, ?_⟩, ?_⟩, ?_⟩, ?_⟩, ?_⟩, ?_⟩, ?_⟩, ?_⟩, ?_⟩, ?_⟩, ?_⟩, ?_⟩, ?_⟩, ?_⟩
          · as_aux_lemma =>
            intro f ax wx hJ hf hd K' hK
            obtain ⟨x0, x1, x2, x3, x4, x5, x6, x7, x8, x9, x10, x11, x12, x13, x14, x15, x16, hax, hB, hp, hq⟩ := hJ
            simp only [Act.put, List.setIfInBounds_toArray, List.set_cons_zero, List.set_cons_succ] at hax
            subst hax
            have HK := Lib.hid hK
            have HP := Lib.hid hp
            have HQ := Lib.hid hq
            have HF := Lib.hid hf
            clear hK hp hq hf hd
            obtain ⟨X_0, X_1, X_2, X_3, X_4, X_5⟩ := (X.out.below hB X.out.lt).cfg
            go_simp
            exact HK.out _ _ ⟨.agg #[.int .i64 P, .int .i64 T, .int .i64 A, .int .i64 M, .int .i64 W, .int .i64 Q], x1, x2, x3, x4, x5, x6, x7, x8, x9, x10, x11, x12, x13, x14, x15, x16, (by simp only [Act.put, List.setIfInBounds_toArray, List.set_cons_zero, List.set_cons_succ]), hB, stepP [x0, x1, x2, x3, x4, x5, x6, x7, x8, x9, x10, x11, x12, x13, x14, x15, x16] 0 (.agg #[.int .i64 P, .int .i64 T, .int .i64 A, .int .i64 M, .int .i64 W, .int .i64 Q]) HP.out (by simp) rfl, HQ.out.pure (by decide) (by decide)⟩
          · as_aux_lemma =>
            intro f ax wx hJ hf hd K' hK
            obtain ⟨x0, x1, x2, x3, x4, x5, x6, x7, x8, x9, x10, x11, x12, x13, x14, x15, x16, hax, hB, hp, hq⟩ := hJ
            simp only [Act.put, List.setIfInBounds_toArray, List.set_cons_zero, List.set_cons_succ] at hax
            subst hax
            have HK := Lib.hid hK
            have HP := Lib.hid hp
            have HQ := Lib.hid hq
            have HF := Lib.hid hf
            clear hK hp hq hf hd
            obtain ⟨XD_0, XD_1⟩ := (XD.out.below hB XD.out.lt).two_
            go_simp
            exact HK.out _ _ ⟨x0, .agg #[.slice D S.length d, .slice D' 0 d'], x2, x3, x4, x5, x6, x7, x8, x9, x10, x11, x12, x13, x14, x15, x16, (by simp only [Act.put, List.setIfInBounds_toArray, List.set_cons_zero, List.set_cons_succ]), hB, stepP [x0, x1, x2, x3, x4, x5, x6, x7, x8, x9, x10, x11, x12, x13, x14, x15, x16] 1 (.agg #[.slice D S.length d, .slice D' 0 d']) HP.out (by simp) rfl, HQ.out.pure (by decide) (by decide)⟩
          · as_aux_lemma =>
            intro f ax wx hJ hf hd K' hK
            obtain ⟨x0, x1, x2, x3, x4, x5, x6, x7, x8, x9, x10, x11, x12, x13, x14, x15, x16, hax, hB, hp, hq⟩ := hJ
            simp only [Act.put, List.setIfInBounds_toArray, List.set_cons_zero, List.set_cons_succ] at hax
            subst hax
            have HK := Lib.hid hK
            have HP := Lib.hid hp
            have HQ := Lib.hid hq
            have HF := Lib.hid hf
            clear hK hp hq hf hd
            obtain ⟨XM_0, XM_1, XM_2, XM_3, XM_4, XM_5⟩ := (XM.out.below hB XM.out.lt).met
            go_simp
            exact HK.out _ _ ⟨x0, x1, .agg #[.int .u32 v, .int .i64 a, .int .u64 g, .int .i64 n, .int .i64 u, .slice Bm kt cm], x3, x4, x5, x6, x7, x8, x9, x10, x11, x12, x13, x14, x15, x16, (by simp only [Act.put, List.setIfInBounds_toArray, List.set_cons_zero, List.set_cons_succ]), hB, stepP [x0, x1, x2, x3, x4, x5, x6, x7, x8, x9, x10, x11, x12, x13, x14, x15, x16] 2 (.agg #[.int .u32 v, .int .i64 a, .int .u64 g, .int .i64 n, .int .i64 u, .slice Bm kt cm]) HP.out (by simp) rfl, HQ.out.pure (by decide) (by decide)⟩
          · as_aux_lemma =>
            intro f ax wx hJ hf hd K' hK
            obtain ⟨x0, x1, x2, x3, x4, x5, x6, x7, x8, x9, x10, x11, x12, x13, x14, x15, x16, hax, hB, hp, hq⟩ := hJ
            simp only [Act.put, List.setIfInBounds_toArray, List.set_cons_zero, List.set_cons_succ] at hax
            subst hax
            have HK := Lib.hid hK
            have HP := Lib.hid hp
            have HQ := Lib.hid hq
            have HF := Lib.hid hf
            clear hK hp hq hf hd
            go_simp
            exact HK.out _ _ ⟨x0, x1, x2, .slice (some ⟨b, o, none⟩) n0 cl0, x4, x5, x6, x7, x8, x9, x10, x11, x12, x13, x14, x15, x16, (by simp only [Act.put, List.setIfInBounds_toArray, List.set_cons_zero, List.set_cons_succ]), hB, stepP [x0, x1, x2, x3, x4, x5, x6, x7, x8, x9, x10, x11, x12, x13, x14, x15, x16] 3 (.slice (some ⟨b, o, none⟩) n0 cl0) HP.out (by simp) rfl, HQ.out.pure (by decide) (by decide)⟩
          · as_aux_lemma =>
            intro f ax wx hJ hf hd K' hK
            obtain ⟨x0, x1, x2, x3, x4, x5, x6, x7, x8, x9, x10, x11, x12, x13, x14, x15, x16, hax, hB, hp, hq⟩ := hJ
            simp only [Act.put, List.setIfInBounds_toArray, List.set_cons_zero, List.set_cons_succ] at hax
            subst hax
            have HK := Lib.hid hK
            have HP := Lib.hid hp
            have HQ := Lib.hid hq
            have HF := Lib.hid hf
            clear hK hp hq hf hd
            go_simp
            exact HK.out _ _ ⟨x0, x1, x2, x3, .int .i64 j, x5, x6, x7, x8, x9, x10, x11, x12, x13, x14, x15, x16, (by simp only [Act.put, List.setIfInBounds_toArray, List.set_cons_zero, List.set_cons_succ]), hB, stepP [x0, x1, x2, x3, x4, x5, x6, x7, x8, x9, x10, x11, x12, x13, x14, x15, x16] 4 (.int .i64 j) HP.out (by simp) rfl, HQ.out.pure (by decide) (by decide)⟩
          · as_aux_lemma =>
            intro f ax wx hJ hf hd K' hK
            obtain ⟨x0, x1, x2, x3, x4, x5, x6, x7, x8, x9, x10, x11, x12, x13, x14, x15, x16, hax, hB, hp, hq⟩ := hJ
            simp only [Act.put, List.setIfInBounds_toArray, List.set_cons_zero, List.set_cons_succ] at hax
            subst hax
            have HK := Lib.hid hK
            have e3 : x3 = .slice (some ⟨b, o, none⟩) n0 cl0 := hp 3 (deps_at (k := 0) rfl rfl rfl hd)
            subst e3
            have e4 : x4 = .int .i64 j := hp 4 (deps_at (k := 1) rfl rfl rfl hd)
            subst e4
            have HP := Lib.hid hp
            have HQ := Lib.hid hq
            have HF := Lib.hid hf
            clear hK hp hq hf hd
            go_simp
            exact HK.out _ _ ⟨x0, x1, x2, .slice (some ⟨b, o, none⟩) n0 cl0, .int .i64 j, .pointer (some ⟨b, o + j * 4, none⟩), x6, x7, x8, x9, x10, x11, x12, x13, x14, x15, x16, (by simp only [Act.put, List.setIfInBounds_toArray, List.set_cons_zero, List.set_cons_succ]), hB, stepP [x0, x1, x2, .slice (some ⟨b, o, none⟩) n0 cl0, .int .i64 j, x5, x6, x7, x8, x9, x10, x11, x12, x13, x14, x15, x16] 5 (.pointer (some ⟨b, o + j * 4, none⟩)) HP.out (by simp) rfl, HQ.out.pure (by decide) (by decide)⟩
          · as_aux_lemma =>
            intro f ax wx hJ hf hd K' hK
            obtain ⟨x0, x1, x2, x3, x4, x5, x6, x7, x8, x9, x10, x11, x12, x13, x14, x15, x16, hax, hB, hp, hq⟩ := hJ
            simp only [Act.put, List.setIfInBounds_toArray, List.set_cons_zero, List.set_cons_succ] at hax
            subst hax
            have HK := Lib.hid hK
            have e5 : x5 = .pointer (some ⟨b, o + j * 4, none⟩) := hp 5 (deps_at (k := 0) rfl rfl rfl hd)
            subst e5
            have HP := Lib.hid hp
            have HQ := Lib.hid hq
            have HF := Lib.hid hf
            clear hK hp hq hf hd
            go_simp
            exact HK.out _ _ ⟨x0, x1, x2, x3, x4, .pointer (some ⟨b, o + j * 4, none⟩), .pointer (some ⟨b, o + j * 4, none⟩), x7, x8, x9, x10, x11, x12, x13, x14, x15, x16, (by simp only [Act.put, List.setIfInBounds_toArray, List.set_cons_zero, List.set_cons_succ]), hB, stepP [x0, x1, x2, x3, x4, .pointer (some ⟨b, o + j * 4, none⟩), x6, x7, x8, x9, x10, x11, x12, x13, x14, x15, x16] 6 (.pointer (some ⟨b, o + j * 4, none⟩)) HP.out (by simp) rfl, HQ.out.pure (by decide) (by decide)⟩
          · as_aux_lemma =>
            intro f ax wx hJ hf hd K' hK
            obtain ⟨x0, x1, x2, x3, x4, x5, x6, x7, x8, x9, x10, x11, x12, x13, x14, x15, x16, hax, hB, hp, hq⟩ := hJ
            simp only [Act.put, List.setIfInBounds_toArray, List.set_cons_zero, List.set_cons_succ] at hax
            subst hax
            have HK := Lib.hid hK
            have e6 : x6 = .pointer (some ⟨b, o + j * 4, none⟩) := hp 6 (deps_at (k := 0) rfl rfl rfl hd)
            subst e6
            have HP := Lib.hid hp
            have HQ := Lib.hid hq
            have HF := Lib.hid hf
            clear hK hp hq hf hd
            obtain ⟨_, CS_0, CS_1, CS_2, CS_3⟩ := CS.out.below hB
            go_simp
            exact HK.out _ _ ⟨x0, x1, x2, x3, x4, x5, .pointer (some ⟨b, o + j * 4, none⟩), .slice A1 n1 c1, x8, x9, x10, x11, x12, x13, x14, x15, x16, (by simp only [Act.put, List.setIfInBounds_toArray, List.set_cons_zero, List.set_cons_succ]), hB, stepP [x0, x1, x2, x3, x4, x5, .pointer (some ⟨b, o + j * 4, none⟩), x7, x8, x9, x10, x11, x12, x13, x14, x15, x16] 7 (.slice A1 n1 c1) HP.out (by simp) rfl, HQ.out.pure (by decide) (by decide)⟩
          · as_aux_lemma =>
            intro f ax wx hJ hf hd K' hK
            obtain ⟨x0, x1, x2, x3, x4, x5, x6, x7, x8, x9, x10, x11, x12, x13, x14, x15, x16, hax, hB, hp, hq⟩ := hJ
            simp only [Act.put, List.setIfInBounds_toArray, List.set_cons_zero, List.set_cons_succ] at hax
            subst hax
            have HK := Lib.hid hK
            have e0 : x0 = .agg #[.int .i64 P, .int .i64 T, .int .i64 A, .int .i64 M, .int .i64 W, .int .i64 Q] := hp 0 (deps_at (k := 0) rfl rfl rfl hd)
            subst e0
            have e1 : x1 = .agg #[.slice D S.length d, .slice D' 0 d'] := hp 1 (deps_at (k := 1) rfl rfl rfl hd)
            subst e1
            have e2 : x2 = .agg #[.int .u32 v, .int .i64 a, .int .u64 g, .int .i64 n, .int .i64 u, .slice Bm kt cm] := hp 2 (deps_at (k := 2) rfl rfl rfl hd)
            subst e2
            have e7 : x7 = .slice A1 n1 c1 := hp 7 (deps_at (k := 3) rfl rfl rfl hd)
            subst e7
            have HP := Lib.hid hp
            have HQ := Lib.hid hq
            have HF := Lib.hid hf
            clear hK hp hq hf hd
            go_simp
            go_wp2_with (go_at_call 10; refine (PC.out _ (Dsk.of_own (DQ.out.below hB)) (Recs.of_own (RM.out.below hB)) (NA.out.below hB)).mono ?_; rintro e w3 ⟨A8, c8, A9, c9, rfl, hown, hacts, hb⟩)
            exact HK.out _ _ ⟨.agg #[.int .i64 P, .int .i64 T, .int .i64 A, .int .i64 M, .int .i64 W, .int .i64 Q], .agg #[.slice D S.length d, .slice D' 0 d'], .agg #[.int .u32 v, .int .i64 a, .int .u64 g, .int .i64 n, .int .i64 u, .slice Bm kt cm], x3, x4, x5, x6, .slice A1 n1 c1, .tuple #[metV v2 a2 g2' nn2 u2 A8 k2 c8, .slice A9 nl c9, .int .i64 E2], x9, x10, x11, x12, x13, x14, x15, x16, (by simp only [Act.put, List.setIfInBounds_toArray, List.set_cons_zero, List.set_cons_succ]), hB.trans (hb.mono hB.size), stepB [.agg #[.int .i64 P, .int .i64 T, .int .i64 A, .int .i64 M, .int .i64 W, .int .i64 Q], .agg #[.slice D S.length d, .slice D' 0 d'], .agg #[.int .u32 v, .int .i64 a, .int .u64 g, .int .i64 n, .int .i64 u, .slice Bm kt cm], x3, x4, x5, x6, .slice A1 n1 c1, x8, x9, x10, x11, x12, x13, x14, x15, x16] 8 (.tuple #[metV v2 a2 g2' nn2 u2 A8 k2 c8, .slice A9 nl c9, .int .i64 E2]) hb HP.out (by simp) ⟨A8, c8, A9, c9, rfl, hown.lower (Nat.le_trans B.out.size hB.size), hacts.lower (Nat.le_trans B.out.size hB.size)⟩, HQ.out.grow (by decide) (by decide) hb (fun g k => (by obtain ⟨A8, c8, q1, q2⟩ := k; exact ⟨A8, c8, q1.below hb q1.lt, q2.below hb⟩))⟩
          · as_aux_lemma =>
            intro f ax wx hJ hf hd K' hK
            obtain ⟨x0, x1, x2, x3, x4, x5, x6, x7, x8, x9, x10, x11, x12, x13, x14, x15, x16, hax, hB, hp, hq⟩ := hJ
            simp only [Act.put, List.setIfInBounds_toArray, List.set_cons_zero, List.set_cons_succ] at hax
            subst hax
            have HK := Lib.hid hK
            obtain ⟨A8, c8, A9, c9, e8, f8⟩ := hp 8 (deps_at (k := 0) rfl rfl rfl hd)
            subst e8
            have F8 := Lib.hid f8
            clear f8
            have HP := Lib.hid hp
            have HQ := Lib.hid hq
            have HF := Lib.hid hf
            clear hK hp hq hf hd
            go_simp
            exact HK.out _ _ ⟨x0, x1, x2, x3, x4, x5, x6, x7, .tuple #[metV v2 a2 g2' nn2 u2 A8 k2 c8, .slice A9 nl c9, .int .i64 E2], .tuple #[metV v2 a2 g2' nn2 u2 A8 k2 c8, .slice A9 nl c9, .int .i64 E2], x10, x11, x12, x13, x14, x15, x16, (by simp only [Act.put, List.setIfInBounds_toArray, List.set_cons_zero, List.set_cons_succ]), hB, stepP [x0, x1, x2, x3, x4, x5, x6, x7, .tuple #[metV v2 a2 g2' nn2 u2 A8 k2 c8, .slice A9 nl c9, .int .i64 E2], x9, x10, x11, x12, x13, x14, x15, x16] 9 (.tuple #[metV v2 a2 g2' nn2 u2 A8 k2 c8, .slice A9 nl c9, .int .i64 E2]) HP.out (by simp) ⟨A8, c8, A9, c9, rfl, F8.out⟩, HQ.out.pure (by decide) (by decide)⟩
          · as_aux_lemma =>
            intro f ax wx hJ hf hd K' hK
            obtain ⟨x0, x1, x2, x3, x4, x5, x6, x7, x8, x9, x10, x11, x12, x13, x14, x15, x16, hax, hB, hp, hq⟩ := hJ
            simp only [Act.put, List.setIfInBounds_toArray, List.set_cons_zero, List.set_cons_succ] at hax
            subst hax
            have HK := Lib.hid hK
            obtain ⟨A8, c8, A9, c9, e9, f9⟩ := hp 9 (deps_at (k := 0) rfl rfl rfl hd)
            subst e9
            have F9 := Lib.hid f9
            clear f9
            have HP := Lib.hid hp
            have HQ := Lib.hid hq
            have HF := Lib.hid hf
            clear hK hp hq hf hd
            go_simp
            exact HK.out _ _ ⟨x0, x1, x2, x3, x4, x5, x6, x7, x8, .tuple #[metV v2 a2 g2' nn2 u2 A8 k2 c8, .slice A9 nl c9, .int .i64 E2], metV v2 a2 g2' nn2 u2 A8 k2 c8, x11, x12, x13, x14, x15, x16, (by simp only [Act.put, List.setIfInBounds_toArray, List.set_cons_zero, List.set_cons_succ]), hB, stepP [x0, x1, x2, x3, x4, x5, x6, x7, x8, .tuple #[metV v2 a2 g2' nn2 u2 A8 k2 c8, .slice A9 nl c9, .int .i64 E2], x10, x11, x12, x13, x14, x15, x16] 10 (metV v2 a2 g2' nn2 u2 A8 k2 c8) HP.out (by simp) ⟨A8, c8, rfl, F9.out.1⟩, HQ.out.pure (by decide) (by decide)⟩
          · as_aux_lemma =>
            intro f ax wx hJ hf hd K' hK
            obtain ⟨x0, x1, x2, x3, x4, x5, x6, x7, x8, x9, x10, x11, x12, x13, x14, x15, x16, hax, hB, hp, hq⟩ := hJ
            simp only [Act.put, List.setIfInBounds_toArray, List.set_cons_zero, List.set_cons_succ] at hax
            subst hax
            have HK := Lib.hid hK
            obtain ⟨A8, c8, A9, c9, e9, f9⟩ := hp 9 (deps_at (k := 0) rfl rfl rfl hd)
            subst e9
            have F9 := Lib.hid f9
            clear f9
            have HP := Lib.hid hp
            have HQ := Lib.hid hq
            have HF := Lib.hid hf
            clear hK hp hq hf hd
            go_simp
            exact HK.out _ _ ⟨x0, x1, x2, x3, x4, x5, x6, x7, x8, .tuple #[metV v2 a2 g2' nn2 u2 A8 k2 c8, .slice A9 nl c9, .int .i64 E2], x10, .slice A9 nl c9, x12, x13, x14, x15, x16, (by simp only [Act.put, List.setIfInBounds_toArray, List.set_cons_zero, List.set_cons_succ]), hB, stepP [x0, x1, x2, x3, x4, x5, x6, x7, x8, .tuple #[metV v2 a2 g2' nn2 u2 A8 k2 c8, .slice A9 nl c9, .int .i64 E2], x10, x11, x12, x13, x14, x15, x16] 11 (.slice A9 nl c9) HP.out (by simp) ⟨A9, c9, rfl, F9.out.2⟩, HQ.out.pure (by decide) (by decide)⟩
          · as_aux_lemma =>
            intro f ax wx hJ hf hd K' hK
            obtain ⟨x0, x1, x2, x3, x4, x5, x6, x7, x8, x9, x10, x11, x12, x13, x14, x15, x16, hax, hB, hp, hq⟩ := hJ
            simp only [Act.put, List.setIfInBounds_toArray, List.set_cons_zero, List.set_cons_succ] at hax
            subst hax
            have HK := Lib.hid hK
            obtain ⟨A8, c8, A9, c9, e9, f9⟩ := hp 9 (deps_at (k := 0) rfl rfl rfl hd)
            subst e9
            have F9 := Lib.hid f9
            clear f9
            have HP := Lib.hid hp
            have HQ := Lib.hid hq
            have HF := Lib.hid hf
            clear hK hp hq hf hd
            go_simp
            exact HK.out _ _ ⟨x0, x1, x2, x3, x4, x5, x6, x7, x8, .tuple #[metV v2 a2 g2' nn2 u2 A8 k2 c8, .slice A9 nl c9, .int .i64 E2], x10, x11, .int .i64 E2, x13, x14, x15, x16, (by simp only [Act.put, List.setIfInBounds_toArray, List.set_cons_zero, List.set_cons_succ]), hB, stepP [x0, x1, x2, x3, x4, x5, x6, x7, x8, .tuple #[metV v2 a2 g2' nn2 u2 A8 k2 c8, .slice A9 nl c9, .int .i64 E2], x10, x11, x12, x13, x14, x15, x16] 12 (.int .i64 E2) HP.out (by simp) rfl, HQ.out.pure (by decide) (by decide)⟩
          · as_aux_lemma =>
            intro f ax wx hJ hf hd K' hK
            obtain ⟨x0, x1, x2, x3, x4, x5, x6, x7, x8, x9, x10, x11, x12, x13, x14, x15, x16, hax, hB, hp, hq⟩ := hJ
            simp only [Act.put, List.setIfInBounds_toArray, List.set_cons_zero, List.set_cons_succ] at hax
            subst hax
            have HK := Lib.hid hK
            have HP := Lib.hid hp
            have HQ := Lib.hid hq
            have HF := Lib.hid hf
            clear hK hp hq hf hd
            go_simp
            exact HK.out _ _ ⟨x0, x1, x2, x3, x4, x5, x6, x7, x8, x9, x10, x11, x12, .pointer (some ⟨wx.heap.size, 0, none⟩), x14, x15, x16, (by simp only [Act.put, List.setIfInBounds_toArray, List.set_cons_zero, List.set_cons_succ]), hB.trans (((Below.refl _ _).alloc (Nat.le_refl _) _).mono hB.size), stepB [x0, x1, x2, x3, x4, x5, x6, x7, x8, x9, x10, x11, x12, x13, x14, x15, x16] 13 (.pointer (some ⟨wx.heap.size, 0, none⟩)) ((Below.refl _ _).alloc (Nat.le_refl _) _) HP.out (by simp) trivial, HQ.out.alloc HF.out (by decide) hB.size⟩
          · as_aux_lemma =>
            intro f ax wx hJ hf hd K' hK
            obtain ⟨x0, x1, x2, x3, x4, x5, x6, x7, x8, x9, x10, x11, x12, x13, x14, x15, x16, hax, hB, hp, hq⟩ := hJ
            simp only [Act.put, List.setIfInBounds_toArray, List.set_cons_zero, List.set_cons_succ] at hax
            subst hax
            have HK := Lib.hid hK
            obtain ⟨A9z, c9z, e10, f10⟩ := hp 10 (deps_at (k := 1) rfl rfl rfl hd)
            subst e10
            have F10 := Lib.hid f10
            clear f10
            have qa := deps_at (k := 0) rfl rfl rfl hd
            obtain ⟨hg, eg, lg, zg, _⟩ := hq.2 qa
            have ZG := Lib.hid (zg hf)
            subst eg
            clear zg
            have HP := Lib.hid hp
            have HQ := Lib.hid hq
            have HF := Lib.hid hf
            clear hK hp hq hf hd
            obtain ⟨z0, z1, z2, z3, z4, z5⟩ := ZG.out.met
            have fz := ZG.out.free
            go_simp
            exact HK.out _ _ ⟨x0, x1, x2, x3, x4, x5, x6, x7, x8, x9, metV v2 a2 g2' nn2 u2 A9z k2 c9z, x11, x12, .pointer (some ⟨hg, 0, none⟩), x14, x15, x16, (by simp only [Act.put, List.setIfInBounds_toArray, List.set_cons_zero, List.set_cons_succ]), below_sixM hB lg v2 a2 g2' nn2 u2 A9z k2 c9z, stepT [x0, x1, x2, x3, x4, x5, x6, x7, x8, x9, metV v2 a2 g2' nn2 u2 A9z k2 c9z, x11, x12, .pointer (some ⟨hg, 0, none⟩), x14, x15, x16] 14 x14 HP.out (fun c _ k => c.sto (stM.six ZG.out v2 a2 g2' nn2 u2 A9z k2 c9z) k) (by simp) trivial, HQ.out.store qa (by decide) (fun g e => (by cases e; exact ⟨A9z, c9z, ZG.out.sixM v2 a2 g2' nn2 u2 A9z k2 c9z, F10.out.boxSix ZG.out v2 a2 g2' nn2 u2 A9z k2 c9z⟩))⟩
          · as_aux_lemma =>
            intro f ax wx hJ hf hd K' hK
            obtain ⟨x0, x1, x2, x3, x4, x5, x6, x7, x8, x9, x10, x11, x12, x13, x14, x15, x16, hax, hB, hp, hq⟩ := hJ
            simp only [Act.put, List.setIfInBounds_toArray, List.set_cons_zero, List.set_cons_succ] at hax
            subst hax
            have HK := Lib.hid hK
            obtain ⟨A9, c9, e11, f11⟩ := hp 11 (deps_at (k := 0) rfl rfl rfl hd)
            subst e11
            have F11 := Lib.hid f11
            clear f11
            have HP := Lib.hid hp
            have HQ := Lib.hid hq
            have HF := Lib.hid hf
            clear hK hp hq hf hd
            go_simp
            exact HK.out _ _ ⟨x0, x1, x2, x3, x4, x5, x6, x7, x8, x9, x10, .slice A9 nl c9, x12, x13, x14, .slice A9 nl c9, x16, (by simp only [Act.put, List.setIfInBounds_toArray, List.set_cons_zero, List.set_cons_succ]), hB, stepP [x0, x1, x2, x3, x4, x5, x6, x7, x8, x9, x10, .slice A9 nl c9, x12, x13, x14, x15, x16] 15 (.slice A9 nl c9) HP.out (by simp) ⟨A9, c9, rfl, F11.out⟩, HQ.out.pure (by decide) (by decide)⟩
          · as_aux_lemma =>
            intro f ax wx hJ hf hd K' hK
            obtain ⟨x0, x1, x2, x3, x4, x5, x6, x7, x8, x9, x10, x11, x12, x13, x14, x15, x16, hax, hB, hp, hq⟩ := hJ
            simp only [Act.put, List.setIfInBounds_toArray, List.set_cons_zero, List.set_cons_succ] at hax
            subst hax
            have HK := Lib.hid hK
            have e12 : x12 = .int .i64 E2 := hp 12 (deps_at (k := 0) rfl rfl rfl hd)
            subst e12
            have HP := Lib.hid hp
            have HQ := Lib.hid hq
            have HF := Lib.hid hf
            clear hK hp hq hf hd
            go_simp
            exact HK.out _ _ ⟨x0, x1, x2, x3, x4, x5, x6, x7, x8, x9, x10, x11, .int .i64 E2, x13, x14, x15, .int .i64 E2, (by simp only [Act.put, List.setIfInBounds_toArray, List.set_cons_zero, List.set_cons_succ]), hB, stepP [x0, x1, x2, x3, x4, x5, x6, x7, x8, x9, x10, x11, .int .i64 E2, x13, x14, x15, x16] 16 (.int .i64 E2) HP.out (by simp) rfl, HQ.out.pure (by decide) (by decide)⟩
        · as_aux_lemma =>
          intro f ax v4 hall hJ fuel
          obtain ⟨x0, x1, x2, x3, x4, x5, x6, x7, x8, x9, x10, x11, x12, x13, x14, x15, x16, hax, hB, hp, hq⟩ := hJ
          simp only [Act.put, List.setIfInBounds_toArray, List.set_cons_zero, List.set_cons_succ] at hax
          have e0 : x0 = .agg #[.int .i64 P, .int .i64 T, .int .i64 A, .int .i64 M, .int .i64 W, .int .i64 Q] := hp 0 (hall 0 (by decide))
          subst e0
          have e1 : x1 = .agg #[.slice D S.length d, .slice D' 0 d'] := hp 1 (hall 1 (by decide))
          subst e1
          have e2 : x2 = .agg #[.int .u32 v, .int .i64 a, .int .u64 g, .int .i64 n, .int .i64 u, .slice Bm kt cm] := hp 2 (hall 2 (by decide))
          subst e2
          have e3 : x3 = .slice (some ⟨b, o, none⟩) n0 cl0 := hp 3 (hall 3 (by decide))
          subst e3
          have e4 : x4 = .int .i64 j := hp 4 (hall 4 (by decide))
          subst e4
          have e5 : x5 = .pointer (some ⟨b, o + j * 4, none⟩) := hp 5 (hall 5 (by decide))
          subst e5
          have e6 : x6 = .pointer (some ⟨b, o + j * 4, none⟩) := hp 6 (hall 6 (by decide))
          subst e6
          have e7 : x7 = .slice A1 n1 c1 := hp 7 (hall 7 (by decide))
          subst e7
          obtain ⟨A8, c8, A9, c9, e8, f8⟩ := hp 8 (hall 8 (by decide))
          subst e8
          have F8 := Lib.hid f8
          clear f8
          obtain ⟨A8, c8, A9, c9, e9, f9⟩ := hp 9 (hall 9 (by decide))
          subst e9
          have F9 := Lib.hid f9
          clear f9
          obtain ⟨A8, c8, e10, f10⟩ := hp 10 (hall 10 (by decide))
          subst e10
          have F10 := Lib.hid f10
          clear f10
          obtain ⟨A9, c9, e11, f11⟩ := hp 11 (hall 11 (by decide))
          subst e11
          have F11 := Lib.hid f11
          clear f11
          have e12 : x12 = .int .i64 E2 := hp 12 (hall 12 (by decide))
          subst e12
          obtain ⟨A9, c9, e15, f15⟩ := hp 15 (hall 15 (by decide))
          subst e15
          have F15 := Lib.hid f15
          clear f15
          have e16 : x16 = .int .i64 E2 := hp 16 (hall 16 (by decide))
          subst e16
          obtain ⟨hg, eg, lg, _, fg⟩ := hq.2 (hall 13 (by decide))
          have FG := fg (hall 14 (by decide))
          subst eg
          subst hax
          clear hp hq fg hall
          refine wpAny_done (by kernel_rfl) ?_ _
  
          dsimp only
          obtain ⟨A8, c8, hz, ho⟩ := FG
          have Z12 := Lib.hid hz
          have R12 := Lib.hid ho
          have AC := Lib.hid F15.out
          have L12 := Lib.hid (show w2.heap.size + 1 < hg from Nat.lt_of_lt_of_le XM.out.lt lg)
          have B := Lib.hid (B.out.trans (hB.mono B.out.size))
          have X := Lib.hid (X.out.below hB X.out.lt)
          have XD := Lib.hid (XD.out.below hB XD.out.lt)
          have XM := Lib.hid (XM.out.below hB XM.out.lt)
          have DQ := Lib.hid (DQ.out.below hB)
          have RM := Lib.hid (RM.out.below hB)
          have CS := Lib.hid (CS.out.below hB)
          have NA := Lib.hid (NA.out.below hB)
          have FA := Lib.hid (FA.out.below hB)
          clear hB hz ho lg F8 F9 F10 F11 F15 PC
          obtain ⟨h12, rfl⟩ : ∃ y, y = hg := ⟨_, rfl⟩
          have w64 : IntKind.i64.wrap ((j : Int) + 1) = (j : Int) + 1 := Lib.wrap_i64_small (j + 1) (by have := HJ.out; omega)
          have J1 : ((j + 1 : Nat) : Int) = (j : Int) + 1 := by omega
          have HJ1 := Lib.hid J1
          clear J1
          cases hp : putR t Tn with
          | none => as_aux_lemma =>
            have hE : E2 = 110 := HE2.out.trans (HI.out.bad (by have := HJ.out; omega) hp)
            clear HE2
            subst hE
            clear hp
            go_wp2
            go_roundw
            case rel => exact ⟨⟨j + 1, S, D, d, D', d', Bm, cm, ⟨(v, a, g), n, u, t⟩, by omega, by go_num, XD.out, (by rw [← HKT.out]; exact XM.out), DQ.out, SM.out, (by rw [← HKT.out]; exact RM.out), (by rw [HJ1.out]; exact HI.out.next), B.out, LW.out, rfl⟩, X.out⟩
            all_goals (try case measure => simp [intOf]; omega)
          | some t' => as_aux_lemma =>
            have hE : E2 = 0 := HE2.out.trans (HI.out.com (by have := HJ.out; omega) hp).1
            clear HE2
            subst hE
            by_cases hm0 : mn < 0 ∨ (nl : Int) ≤ mn
            · as_aux_lemma =>
              obtain ⟨_, S', hdn, hi'⟩ := run_all HI.out (by have := HJ.out; omega) hp YB.out
              rw [← HLa.out, ← HNL.out] at hdn
              rw [← HM2.out] at hi'
              have HI2 := Lib.hid hi'
              obtain ⟨LA, hoa, hax⟩ := AC.out.is
              have DN := Lib.hid (done12_any D d D' d' S [] A9 nl c9 _ LA La (nl : Int) S' [] _ (Dsk.of_own DQ.out) SM.out hoa hax (by rw [Int.toNat_natCast]; exact hdn) AC.out.byte (by have := LA10.out; omega))
              have DQ0 := Lib.hid DQ.out
              have LB0 := Lib.hid B.out.size
              have LM0 := Lib.hid XM.out.lt
              clear hoa hax hdn hi' hp
              have hm1 : mn < 0 ∨ (¬ mn < 0 ∧ (nl : Int) ≤ mn) := by omega
              clear hm0
              obtain ⟨_, CS_0, CS_1, CS_2, CS_3⟩ := CS.out
              obtain ⟨XD_0, XD_1⟩ := XD.out.two_
              rcases hm1 with hm1 | ⟨hm1, hm2⟩
              all_goals (
                go_wp2_with fail
                clear CS_0 CS_1 CS_2 CS_3 XD_0 XD_1
                (try clear hm2)
                clear hm1
                refine (DN.out).mono ?_
                rintro e v5 ⟨A15, c15, A15', c15', rfl, hdd, hsd, hb⟩
                have hY := Blk.new v5 25 [.slice A15 S'.length c15, .slice A15' 0 c15']
                have hk : Below v5.heap.size v5 (v5.alloc (.cells #[.slice A15 S'.length c15, .slice A15' 0 c15'] 25)) := (Below.refl _ _).alloc (Nat.le_refl _) _
                have hb0 := hb
                replace hb := hb.trans (hk.mono hb.size)
                have B := Lib.hid (B.out.trans (hb.mono B.out.size))
                have X := Lib.hid (X.out.below hb X.out.lt)
                have XD := Lib.hid (XD.out.below hb XD.out.lt)
                have XM := Lib.hid (XM.out.below hb XM.out.lt)
                have DQ := Lib.hid (DQ.out.below hb)
                have RM := Lib.hid (RM.out.below hb)
                have CS := Lib.hid (CS.out.below hb)
                have NA := Lib.hid (NA.out.below hb)
                have FA := Lib.hid (FA.out.below hb)
                have Z12 := Lib.hid (Z12.out.below hb Z12.out.lt)
                have R12 := Lib.hid (R12.out.below hb)
                have AC := Lib.hid (AC.out.below hb)
                have D15 := Lib.hid ((hdd.own (DQ0.out.below hb0) LB0.out).below hk)
                have S15 := Lib.hid (hsd)
                have L15 := Lib.hid (Nat.lt_of_lt_of_le LM0.out hb0.size)
                have Z15 := Lib.hid hY
                clear hY hk hb0
                clear hb DN DQ0 LB0 LM0 hdd hsd
                go_upto_region 23 with fail
                obtain ⟨v6, hv6⟩ : ∃ y, y = v5.alloc (.cells #[.slice A15 S'.length c15, .slice A15' 0 c15'] 25) := ⟨_, rfl⟩
                rw [← hv6] at B X XD XM DQ RM CS NA FA Z12 R12 AC D15 Z15 ⊢
                clear hv6
                clear DQ
                clear RM
                clear CS
                clear NA
                clear FA
                clear AC
                obtain ⟨yb, hyb⟩ : ∃ y, y = v5.heap.size := ⟨_, rfl⟩
                obtain ⟨h5, hh5⟩ : ∃ y, y = h12 := ⟨_, rfl⟩
                rw [← hyb] at Z15 L15 ⊢
                rw [← hh5] at Z12 L12 ⊢
                clear hyb hh5
                have nq1 : w2.heap.size + 1 < yb := L15.out
                have nq2 : w2.heap.size + 1 < h5 := L12.out
                obtain ⟨V0, hV0⟩ : ∃ y, y = v6.drew := ⟨_, rfl⟩
                have hb : Below v6.heap.size v6 v6.drew := (Below.refl _ _).drew
                rw [← hV0] at hb
                have B := Lib.hid (B.out.trans (hb.mono B.out.size))
                have X := Lib.hid (X.out.below hb X.out.lt)
                have XD := Lib.hid (XD.out.below hb XD.out.lt)
                have XM := Lib.hid (XM.out.below hb XM.out.lt)
                have Z12 := Lib.hid (Z12.out.below hb Z12.out.lt)
                have R12 := Lib.hid (R12.out.below hb)
                have D15 := Lib.hid (D15.out.below hb)
                have Z15 := Lib.hid (Z15.out.below hb Z15.out.lt)
                clear hb
                have FD1 := XD.out.two (.slice A15 S'.length c15) (.slice A15' 0 c15')
                have FM1 := (XM.out.away (g' := w2.heap.size) (by omega) 0 (.slice A15 S'.length c15)).away (g' := w2.heap.size) (by omega) 1 (.slice A15' 0 c15')
                have e1 := ((Z15.out.away (g' := w2.heap.size) (by omega) 0 (.slice A15 S'.length c15)).away (g' := w2.heap.size) (by omega) 1 (.slice A15' 0 c15'))
                have e2 := ((Z12.out.away (g' := w2.heap.size) (by omega) 0 (.slice A15 S'.length c15)).away (g' := w2.heap.size) (by omega) 1 (.slice A15' 0 c15'))
                have FX1 := (X.out.offBox XD.out (by decide) 0 (.slice A15 S'.length c15)).offBox (XD.out.set 0 _) (by decide) 1 (.slice A15' 0 c15')
                have FO1 := D15.out.two XD.out (.slice A15 S'.length c15) (.slice A15' 0 c15')
                have FR1 := (R12.out.boxD XD.out 0 (.slice A15 S'.length c15)).boxD (XD.out.set 0 _) 1 (.slice A15' 0 c15')
                have FB1 := below_two B.out LW.out (.slice A15 S'.length c15) (.slice A15' 0 c15')
                obtain ⟨V1, hV1⟩ : ∃ y, y = (V0.setCell ⟨w2.heap.size, 0, none⟩ (.slice A15 S'.length c15)).setCell ⟨w2.heap.size, 1, none⟩ (.slice A15' 0 c15') := ⟨_, rfl⟩
                rw [← hV1] at FD1 FM1 e1 e2 FX1 FO1 FR1 FB1
                have FD := Lib.hid (FD1.sixOff (G := w2.heap.size + 1) (by omega) v2 a2 g2' nn2 u2 A8 k2 c8)
                have FM := Lib.hid (FM1.sixM v2 a2 g2' nn2 u2 A8 k2 c8)
                have e3 := e1.sixOff (G := w2.heap.size + 1) (by omega) v2 a2 g2' nn2 u2 A8 k2 c8
                have e4 := e2.sixOff (G := w2.heap.size + 1) (by omega) v2 a2 g2' nn2 u2 A8 k2 c8
                have FX := Lib.hid (FX1.offSix FM1 (by decide) v2 a2 g2' nn2 u2 A8 k2 c8)
                have FO := Lib.hid (FO1.sixM FM1 v2 a2 g2' nn2 u2 A8 k2 c8)
                have FR := Lib.hid (FR1.boxSix FM1 v2 a2 g2' nn2 u2 A8 k2 c8)
                have FB := Lib.hid (below_sixM FB1 (show w.heap.size ≤ w2.heap.size + 1 from Nat.le_trans LW.out (Nat.le_succ _)) v2 a2 g2' nn2 u2 A8 k2 c8)
                obtain ⟨V2, hV2⟩ : ∃ y, y = (((((V1.setCell ⟨w2.heap.size + 1, 0, none⟩ (.int .u32 v2)).setCell ⟨w2.heap.size + 1, 1, none⟩ (.int .i64 a2)).setCell ⟨w2.heap.size + 1, 2, none⟩ (.int .u64 g2')).setCell ⟨w2.heap.size + 1, 3, none⟩ (.int .i64 nn2)).setCell ⟨w2.heap.size + 1, 4, none⟩ (.int .i64 u2)).setCell ⟨w2.heap.size + 1, 5, none⟩ (.slice A8 k2 c8) := ⟨_, rfl⟩
                rw [← hV2] at FD FM e3 e4 FX FO FR FB
                have keepX : ∀ wx, Blk wx yb 25 [.slice A15 S'.length c15, .slice A15' 0 c15'] → Blk wx h5 32 (metL v2 a2 g2' nn2 u2 A8 k2 c8) → wx.cell? ⟨yb, 0, none⟩ = some (.slice A15 S'.length c15) ∧ wx.cell? ⟨yb, 1, none⟩ = some (.slice A15' 0 c15') ∧ wx.cell? ⟨h5, 0, none⟩ = some (.int .u32 v2) ∧ wx.cell? ⟨h5, 1, none⟩ = some (.int .i64 a2) ∧ wx.cell? ⟨h5, 2, none⟩ = some (.int .u64 g2') ∧ wx.cell? ⟨h5, 3, none⟩ = some (.int .i64 nn2) ∧ wx.cell? ⟨h5, 4, none⟩ = some (.int .i64 u2) ∧ wx.cell? ⟨h5, 5, none⟩ = some (.slice A8 k2 c8) := fun wx hy hz => by
                  obtain ⟨a0, a1⟩ := hy.two_
                  obtain ⟨b0, b1, b2, b3, b4, b5⟩ := hz.met
                  exact ⟨a0, a1, b0, b1, b2, b3, b4, b5⟩
                have kx0 := Lib.hid (keepX V0 Z15.out Z12.out)
                have kx1 := Lib.hid (keepX V1 e1 e2)
                have kx2 := Lib.hid (keepX V2 e3 e4)
                have XM1 := Lib.hid FM1
                have HV0 := Lib.hid hV0
                have HV1 := Lib.hid hV1
                have HV2 := Lib.hid hV2
                clear FD1 FM1 e1 e2 e3 e4 FX1 FO1 FR1 FB1 keepX nq1 nq2 hV0 hV1 hV2 Z15 Z12 D15 R12 X
                refine wp_region_upto2 rfl 4 (fun a0 f ax wx => ∃ x0 x1 : Value, ax = ((a0.put (some 140) x0).put (some 141) x1) ∧ (f 0 = true → x0 = .agg #[.slice A15 S'.length c15, .slice A15' 0 c15']) ∧ (f 1 = true → x1 = .agg #[.int .u32 v2, .int .i64 a2, .int .u64 g2', .int .i64 nn2, .int .i64 u2, .slice A8 k2 c8]) ∧ (wx.cell? ⟨yb, 0, none⟩ = some (.slice A15 S'.length c15) ∧ wx.cell? ⟨yb, 1, none⟩ = some (.slice A15' 0 c15') ∧ wx.cell? ⟨h5, 0, none⟩ = some (.int .u32 v2) ∧ wx.cell? ⟨h5, 1, none⟩ = some (.int .i64 a2) ∧ wx.cell? ⟨h5, 2, none⟩ = some (.int .u64 g2') ∧ wx.cell? ⟨h5, 3, none⟩ = some (.int .i64 nn2) ∧ wx.cell? ⟨h5, 4, none⟩ = some (.int .i64 u2) ∧ wx.cell? ⟨h5, 5, none⟩ = some (.slice A8 k2 c8)) ∧ (f 3 = true → f 2 = true) ∧ (f 2 = false → wx = V0) ∧ (f 2 = true → f 3 = false → wx = V1) ∧ (f 3 = true → wx = V2)) (by decide) (by kernel_rfl) ?_ ?_ ?_
                · rw [← HV0.out]
                  exact ⟨u140, u141, (by simp only [Act.put, List.setIfInBounds_toArray, List.set_cons_zero, List.set_cons_succ]), (fun h => by cases h), (fun h => by cases h), kx0.out, (fun h => by cases h), (fun _ => rfl), (fun h => by cases h), (fun h => by cases h)⟩
                · refine ⟨⟨⟨⟨trivial, ?_⟩, ?_⟩, ?_⟩, ?_⟩
                  · as_aux_lemma =>
                      intro f ax wx hJ hf hd K' hK
                      obtain ⟨x0, x1, hax, h0, h1, hS, h32, hw0, hw1, hw2⟩ := hJ
                      simp only [Act.put, List.setIfInBounds_toArray, List.set_cons_zero, List.set_cons_succ] at hax
                      subst hax
                      have HK := Lib.hid hK
                      have HS := Lib.hid hS
                      have H0 := Lib.hid h0
                      have H1 := Lib.hid h1
                      have H3 := Lib.hid (And.intro h32 (And.intro hw0 (And.intro hw1 hw2)))
                      clear hK hS h0 h1 h32 hw0 hw1 hw2 hf hd
                      obtain ⟨a0, a1, b0, b1, b2, b3, b4, b5⟩ := HS.out
                      go_simp
                      exact HK.out _ _ ⟨.agg #[.slice A15 S'.length c15, .slice A15' 0 c15'], x1, (by simp only [Act.put, List.setIfInBounds_toArray, List.set_cons_zero, List.set_cons_succ]), (fun _ => rfl), (fun h => H1.out (more_of (by decide) h)), HS.out, (fun h => keep_of (H3.out.1 (more_of (by decide) h))), (fun h => H3.out.2.1 (less_of (by decide) h)), (fun h g => H3.out.2.2.1 (more_of (by decide) h) (less_of (by decide) g)), (fun h => H3.out.2.2.2 (more_of (by decide) h))⟩
                  · as_aux_lemma =>
                      intro f ax wx hJ hf hd K' hK
                      obtain ⟨x0, x1, hax, h0, h1, hS, h32, hw0, hw1, hw2⟩ := hJ
                      simp only [Act.put, List.setIfInBounds_toArray, List.set_cons_zero, List.set_cons_succ] at hax
                      subst hax
                      have HK := Lib.hid hK
                      have HS := Lib.hid hS
                      have H0 := Lib.hid h0
                      have H1 := Lib.hid h1
                      have H3 := Lib.hid (And.intro h32 (And.intro hw0 (And.intro hw1 hw2)))
                      clear hK hS h0 h1 h32 hw0 hw1 hw2 hf hd
                      obtain ⟨a0, a1, b0, b1, b2, b3, b4, b5⟩ := HS.out
                      go_simp
                      exact HK.out _ _ ⟨x0, .agg #[.int .u32 v2, .int .i64 a2, .int .u64 g2', .int .i64 nn2, .int .i64 u2, .slice A8 k2 c8], (by simp only [Act.put, List.setIfInBounds_toArray, List.set_cons_zero, List.set_cons_succ]), (fun h => H0.out (more_of (by decide) h)), (fun _ => rfl), HS.out, (fun h => keep_of (H3.out.1 (more_of (by decide) h))), (fun h => H3.out.2.1 (less_of (by decide) h)), (fun h g => H3.out.2.2.1 (more_of (by decide) h) (less_of (by decide) g)), (fun h => H3.out.2.2.2 (more_of (by decide) h))⟩
                  · as_aux_lemma =>
                      intro f ax wx hJ hf hd K' hK
                      obtain ⟨x0, x1, hax, h0, h1, hS, h32, hw0, hw1, hw2⟩ := hJ
                      simp only [Act.put, List.setIfInBounds_toArray, List.set_cons_zero, List.set_cons_succ] at hax
                      subst hax
                      have HK := Lib.hid hK
                      have e0 : x0 = .agg #[.slice A15 S'.length c15, .slice A15' 0 c15'] := h0 (deps_at (k := 0) rfl rfl rfl hd)
                      subst e0
                      have ew : wx = V0 := hw0 hf
                      subst ew
                      have hf3 : f 3 = false := by
                        cases h : f 3
                        · rfl
                        · rw [h32 h] at hf
                          cases hf
                      have H1 := Lib.hid h1
                      have F3 := Lib.hid hf3
                      obtain ⟨z0, z1⟩ := XD.out.two_
                      have fz := XD.out.free
                      clear hK hS h0 h1 h32 hw0 hw1 hw2 hf hd hf3
                      go_simp
                      rw [← HV1.out]
                      exact HK.out _ _ ⟨.agg #[.slice A15 S'.length c15, .slice A15' 0 c15'], x1, (by simp only [Act.put, List.setIfInBounds_toArray, List.set_cons_zero, List.set_cons_succ]), (fun _ => rfl), (fun h => H1.out (more_of (by decide) h)), kx1.out, (fun _ => rfl), (fun h => by simp at h), (fun _ _ => rfl), (fun h => by have h := more_of (by decide) h; rw [F3.out] at h; cases h)⟩
                  · as_aux_lemma =>
                      intro f ax wx hJ hf hd K' hK
                      obtain ⟨x0, x1, hax, h0, h1, hS, h32, hw0, hw1, hw2⟩ := hJ
                      simp only [Act.put, List.setIfInBounds_toArray, List.set_cons_zero, List.set_cons_succ] at hax
                      subst hax
                      have HK := Lib.hid hK
                      have q2 : f 2 = true := deps_at (k := 1) rfl rfl rfl hd
                      have e1 : x1 = .agg #[.int .u32 v2, .int .i64 a2, .int .u64 g2', .int .i64 nn2, .int .i64 u2, .slice A8 k2 c8] := h1 (deps_at (k := 0) rfl rfl rfl hd)
                      subst e1
                      have ew : wx = V1 := hw1 q2 hf
                      subst ew
                      have H0 := Lib.hid h0
                      have F2 := Lib.hid q2
                      obtain ⟨z0, z1, z2, z3, z4, z5⟩ := XM1.out.met
                      have fz := XM1.out.free
                      clear hK hS h0 h1 h32 hw0 hw1 hw2 hf hd q2
                      go_simp
                      rw [← HV2.out]
                      exact HK.out _ _ ⟨x0, .agg #[.int .u32 v2, .int .i64 a2, .int .u64 g2', .int .i64 nn2, .int .i64 u2, .slice A8 k2 c8], (by simp only [Act.put, List.setIfInBounds_toArray, List.set_cons_zero, List.set_cons_succ]), (fun h => H0.out (more_of (by decide) h)), (fun _ => rfl), kx2.out, (fun _ => keep_of F2.out), (fun h => by have h := less_of (by decide) h; rw [F2.out] at h; cases h), (fun _ h => by simp at h), (fun _ => rfl)⟩
                · as_aux_lemma =>
                  intro f ax wx hall hJ fuel
                  obtain ⟨x0, x1, hax, h0, h1, hS, h32, hw0, hw1, hw2⟩ := hJ
                  simp only [Act.put, List.setIfInBounds_toArray, List.set_cons_zero, List.set_cons_succ] at hax
                  have e0 := h0 (hall 0 (by decide))
                  have e1 := h1 (hall 1 (by decide))
                  have e2 : wx = V2 := hw2 (hall 3 (by decide))
                  subst e0
                  subst e1
                  subst e2
                  subst hax
                  clear hall hS h32 h0 h1 hw0 hw1 hw2 kx0 kx1 kx2 XM1 HV0 HV1 XD XM B
                  refine wpAny_done (by kernel_rfl) ?_ _
                  go_wp2
                  go_roundw
                  case rel => exact ⟨⟨j + 1, S', A15, c15, A15', c15', A8, c8, ⟨(v2, a2, g2'), nn2, u2, t2⟩, by omega, by go_num, FD.out, (by rw [← HK2.out]; exact FM.out), FO.out, S15.out, (by rw [← HK2.out]; exact FR.out), (by rw [HJ1.out]; exact HI2.out), FB.out, LW.out, rfl⟩, FX.out⟩
                  all_goals (try case measure => simp [intOf]; omega))
            · as_aux_lemma =>
              obtain ⟨S1, C1, hdn, hmy, hcr⟩ := run_crash HI.out (by have := HJ.out; omega) hp YB.out mn.toNat
              rw [← HLa.out] at hdn
              obtain ⟨s3, n3, t3, hs3, ht3, hC⟩ := hcr Tf
              clear hcr hp
              obtain ⟨bo3, a3, g3⟩ := s3
              have hs4 : bo3 = v := hs3
              subst hs4
              clear hs3
              rw [← HM2.out] at ht3
              have ht4 : t3 = t ∨ t3 = t2 := ht3
              clear ht3
              obtain ⟨S2, hS2⟩ : ∃ y, y = crS S1 C1 Tf := ⟨_, rfl⟩
              rw [← hS2] at hC
              obtain ⟨hbE, S3, C3, hdn3, hmy3, hcr3⟩ := run_half hC ag.toNat
              obtain ⟨s4, hs4, R4, hv0, hv1, hB4⟩ := hcr3 Tf
              clear hcr3
              obtain ⟨S4, hS4⟩ : ∃ y, y = crS S3 C3 Tf := ⟨_, rfl⟩
              rw [← hS4] at R4
              obtain ⟨bo4, a4, g4⟩ := s4
              dsimp only at hs4 hv0 hv1 hB4
              have hcv := hC.ver
              have hcf := hC.few
              have IS4 := Lib.hid (runs_sup R4 hcf.2 hv0 hv1 hB4)
              obtain ⟨hE5, hM5, S5, hdn5, hi5⟩ := run_boot R4 hcf ⟨hv0, hv1⟩ hB4 hcv hC.all
              dsimp only at hM5 hi5
              have HI5 := Lib.hid hi5
              have HDN := Lib.hid hdn
              have HMY := Lib.hid hmy
              have T3 := Lib.hid ht4
              have HC := Lib.hid hC
              have HDN3 := Lib.hid hdn3
              have HMY3 := Lib.hid hmy3
              have HR4 := Lib.hid R4
              have HDN5 := Lib.hid hdn5
              have VV := Lib.hid (show ¬ bo4 < bo3 ∧ IntKind.u32.wrap (bo4 + 1) = bo4 + 1 from ⟨by omega, wraps_u32 _ (by omega) (by omega)⟩)
              clear hdn hmy ht4 hdn3 hmy3 hdn5 hi5 hcv hcf hs4 hB4
              have hm1 : ¬ mn < 0 := fun h => hm0 (.inl h)
              have hm2 : ¬ (nl : Int) ≤ mn := fun h => hm0 (.inr h)
              clear hm0
              have SM2 := Lib.hid (fun h : SmallD S1 C1 => (by rw [hS2]; exact cr_small h Tf : SmallD S2 []))
              have CR := Lib.hid (fun A c A' c' wx h0 hx hf => dsk_does.crash A S1.length c A' C1.length c' S1 C1 A2 n2 c2 Tf wx hx h0 hf FB.out (by rw [L2.out]; have := G2.out; omega))
              rw [show chkD S1 C1 = 0 from if_pos HMY.out, ← hS2] at CR
              have SM4 := Lib.hid (fun h : SmallD S3 C3 => (by rw [hS4]; exact cr_small h Tf : SmallD S4 []))
              have CR4 := Lib.hid (fun A c A' c' wx h0 hx hf => dsk_does.crash A S3.length c A' C3.length c' S3 C3 A2 n2 c2 Tf wx hx h0 hf FB.out (by rw [L2.out]; have := G2.out; omega))
              rw [show chkD S3 C3 = 0 from if_pos HMY3.out, ← hS4] at CR4
              clear hS2 hS4 HMY HMY3
              have IS3 := Lib.hid HC.out.sup
              have P3 := Lib.hid (PO.out S2)
              rw [HC.out.R.seen.1, HC.out.R.seen.2] at P3
              dsimp only at P3
              have P5 := Lib.hid (PO.out S4)
              rw [R4.seen.1, R4.seen.2] at P5
              dsimp only at P5
              have K3 := Lib.hid (three_of12 HC.out.R.tab)
              obtain ⟨k3, hk3⟩ : ∃ y, y = t3.length := ⟨_, rfl⟩
              rw [← hk3] at P3 P5 K3
              have HK3 := Lib.hid hk3
              clear hk3 R4 hC
              have PB := Lib.hid (fun Az cz Az' cz' hs Bz cB wx hx hy => pboot12_any P T A M W Q Az S2.length cz Az' 0 cz' S2 [] bo3 a3 g3 n3 0 Bz k3 cB t3 wx hx hs IS3.out hy (Nat.le_trans K3.out (by decide)))
              rw [hbE] at PB
              obtain ⟨m5, hm5⟩ : ∃ y, y = bootM P T A M W Q S2 [] ⟨(bo3, a3, g3), n3, 0, t3⟩ := ⟨_, rfl⟩
              obtain ⟨l5, hl5⟩ : ∃ y, y = bootA P T A M W Q S2 [] ⟨(bo3, a3, g3), n3, 0, t3⟩ := ⟨_, rfl⟩
              have L5L := Lib.hid (show l5.length ≤ 2 by rw [hl5]; exact bootA_many)
              rw [← hm5, ← hl5] at PB
              rw [← hl5] at HDN3
              clear hm5 hl5 hbE
              unfold PlanOutB at PB
              obtain ⟨⟨e1, e2, e3⟩, e4, e5, et⟩ := m5
              dsimp only at PB
              obtain ⟨ke, hke⟩ : ∃ y, y = et.length := ⟨_, rfl⟩
              obtain ⟨n5, hn5⟩ : ∃ y, y = l5.length := ⟨_, rfl⟩
              rw [← hke, ← hn5] at PB
              rw [← hn5] at L5L
              clear hke hn5
              have PB6 := Lib.hid (fun Az cz Az' cz' hs Bz cB wx hx hy => pboot12_any P T A M W Q Az S4.length cz Az' 0 cz' S4 [] bo4 a4 g4 n3 0 Bz k3 cB t3 wx hx hs IS4.out hy (Nat.le_trans K3.out (by decide)))
              rw [hE5, hM5] at PB6
              obtain ⟨l6, hl6⟩ : ∃ y, y = bootA P T A M W Q S4 [] ⟨(bo4, a4, g4), n3, 0, t3⟩ := ⟨_, rfl⟩
              have L6L := Lib.hid (show l6.length ≤ 2 by rw [hl6]; exact bootA_many)
              rw [← hl6] at PB6
              rw [← hl6] at HDN5
              clear hl6 hE5 hM5
              unfold PlanOutB at PB6
              dsimp only at PB6
              obtain ⟨n6, hn6⟩ : ∃ y, y = l6.length := ⟨_, rfl⟩
              rw [← hn6, ← HK3.out] at PB6
              rw [← hn6] at L6L HDN5
              clear hn6
              have DN1 := Lib.hid (fun wx LA base (hq : Dsk wx D S.length d D' 0 d' S []) hoa hax (hby : ∀ a ∈ La, ∀ z ∈ a.2.2, isByte z) => done12_any D d D' d' S [] A9 nl c9 base LA La mn S1 C1 wx hq SM.out hoa hax HDN.out hby (by have := LA10.out; omega))
              clear HDN IS3 IS4 hv0 hv1
              obtain ⟨_, CS_0, CS_1, CS_2, CS_3⟩ := CS.out
              go_upto_region 24 with fail
              clear CS_0 CS_1 CS_2 CS_3
              refine wp_region_upto2 rfl 14 (fun a0 f ax wx => ∃ x0 x1 x2 x3 x4 x5 x6 x7 x8 x9 x10 x11 x12 x13 : Value, ax = (((((((((((((a0.put (some 143) x0).put (some 144) x1).put (some 145) x2).put (some 146) x3).put (some 147) x4).put (some 148) x5).put (some 149) x6).put (some 150) x7).put (some 142) x8).put (some 151) x9).put (some 152) x10).put (some 17) x11).put (some 18) x13) ∧ Below v4.heap.size v4 wx ∧ (∀ jq, f jq = true → (([(Cl.is (.agg #[.slice D S.length d, .slice D' 0 d'])), (Cl.is (.slice A9 nl c9)), (Cl.is (.slice (some ⟨b, o, none⟩) n0 cl0)), (Cl.is (.int .i64 j)), (Cl.is (.pointer (some ⟨b, o + j * 4, none⟩))), (Cl.is (.pointer (some ⟨b, o + j * 4 + 1, none⟩))), (Cl.is (.int .i64 mn)), (clDskS (fun Ay cy Ay' cy' => .tuple #[diskV Ay S1.length cy Ay' C1.length cy', .bool true]) w.heap.size S1 C1), (clDskS (fun Ay cy Ay' cy' => .tuple #[diskV Ay S1.length cy Ay' C1.length cy', .bool true]) w.heap.size S1 C1), (clDskS (fun Ay cy Ay' cy' => diskV Ay S1.length cy Ay' C1.length cy') w.heap.size S1 C1), (Cl.is (.bool true)), (Cl.any), (Cl.any), (Cl.is (.bool true))] : List (Cl stD)).getD jq Cl.any).p ([x0, x1, x2, x3, x4, x5, x6, x7, x8, x9, x10, x11, x12, x13].getD jq undef) wx) ∧ BoxS 11 12 v4.heap.size 25 [.slice none 0 0, .slice none 0 0] (fun wx h => ∃ Ay cy Ay' cy', Blk wx h 25 [.slice Ay S1.length cy, .slice Ay' C1.length cy'] ∧ OwnDsk wx w.heap.size Ay S1.length cy Ay' C1.length cy' S1 C1 ∧ SmallD S1 C1) f x11 wx) (by decide) (by kernel_rfl) ?_ ?_ ?_
              · exact ⟨u143, u144, u145, u146, u147, u148, u149, u150, u142, u151, u152, u17, undef, u18, (by simp only [Act.put, List.setIfInBounds_toArray, List.set_cons_zero, List.set_cons_succ]), (Below.refl _ _).drew, (fun j h => (by cases h)), BoxS.start⟩
              · refine ⟨⟨⟨⟨⟨⟨⟨⟨⟨⟨⟨⟨⟨⟨trivial, ?_⟩, ?_⟩, ?_⟩, ?_⟩, ?_⟩, ?_⟩, ?_⟩, ?_⟩, ?_⟩, ?_⟩, ?_⟩, ?_⟩, ?_⟩, ?_⟩
                · as_aux_lemma =>
                  intro f ax wx hJ hf hd K' hK
                  obtain ⟨x0, x1, x2, x3, x4, x5, x6, x7, x8, x9, x10, x11, x12, x13, hax, hB, hp, hq⟩ := hJ
                  simp only [Act.put, List.setIfInBounds_toArray, List.set_cons_zero, List.set_cons_succ] at hax
                  subst hax
                  have HK := Lib.hid hK
                  have HP := Lib.hid hp
                  have HQ := Lib.hid hq
                  have HF := Lib.hid hf
                  clear hK hp hq hf hd
                  obtain ⟨XD_0, XD_1⟩ := (XD.out.below hB XD.out.lt).two_
                  go_simp
                  exact HK.out _ _ ⟨.agg #[.slice D S.length d, .slice D' 0 d'], x1, x2, x3, x4, x5, x6, x7, x8, x9, x10, x11, x12, x13, (by simp only [Act.put, List.setIfInBounds_toArray, List.set_cons_zero, List.set_cons_succ]), hB, stepP [x0, x1, x2, x3, x4, x5, x6, x7, x8, x9, x10, x11, x12, x13] 0 (.agg #[.slice D S.length d, .slice D' 0 d']) HP.out (by simp) rfl, HQ.out.pure (by decide) (by decide)⟩
                · as_aux_lemma =>
                  intro f ax wx hJ hf hd K' hK
                  obtain ⟨x0, x1, x2, x3, x4, x5, x6, x7, x8, x9, x10, x11, x12, x13, hax, hB, hp, hq⟩ := hJ
                  simp only [Act.put, List.setIfInBounds_toArray, List.set_cons_zero, List.set_cons_succ] at hax
                  subst hax
                  have HK := Lib.hid hK
                  have HP := Lib.hid hp
                  have HQ := Lib.hid hq
                  have HF := Lib.hid hf
                  clear hK hp hq hf hd
                  go_simp
                  exact HK.out _ _ ⟨x0, .slice A9 nl c9, x2, x3, x4, x5, x6, x7, x8, x9, x10, x11, x12, x13, (by simp only [Act.put, List.setIfInBounds_toArray, List.set_cons_zero, List.set_cons_succ]), hB, stepP [x0, x1, x2, x3, x4, x5, x6, x7, x8, x9, x10, x11, x12, x13] 1 (.slice A9 nl c9) HP.out (by simp) rfl, HQ.out.pure (by decide) (by decide)⟩
                · as_aux_lemma =>
                  intro f ax wx hJ hf hd K' hK
                  obtain ⟨x0, x1, x2, x3, x4, x5, x6, x7, x8, x9, x10, x11, x12, x13, hax, hB, hp, hq⟩ := hJ
                  simp only [Act.put, List.setIfInBounds_toArray, List.set_cons_zero, List.set_cons_succ] at hax
                  subst hax
                  have HK := Lib.hid hK
                  have HP := Lib.hid hp
                  have HQ := Lib.hid hq
                  have HF := Lib.hid hf
                  clear hK hp hq hf hd
                  go_simp
                  exact HK.out _ _ ⟨x0, x1, .slice (some ⟨b, o, none⟩) n0 cl0, x3, x4, x5, x6, x7, x8, x9, x10, x11, x12, x13, (by simp only [Act.put, List.setIfInBounds_toArray, List.set_cons_zero, List.set_cons_succ]), hB, stepP [x0, x1, x2, x3, x4, x5, x6, x7, x8, x9, x10, x11, x12, x13] 2 (.slice (some ⟨b, o, none⟩) n0 cl0) HP.out (by simp) rfl, HQ.out.pure (by decide) (by decide)⟩
                · as_aux_lemma =>
                  intro f ax wx hJ hf hd K' hK
                  obtain ⟨x0, x1, x2, x3, x4, x5, x6, x7, x8, x9, x10, x11, x12, x13, hax, hB, hp, hq⟩ := hJ
                  simp only [Act.put, List.setIfInBounds_toArray, List.set_cons_zero, List.set_cons_succ] at hax
                  subst hax
                  have HK := Lib.hid hK
                  have HP := Lib.hid hp
                  have HQ := Lib.hid hq
                  have HF := Lib.hid hf
                  clear hK hp hq hf hd
                  go_simp
                  exact HK.out _ _ ⟨x0, x1, x2, .int .i64 j, x4, x5, x6, x7, x8, x9, x10, x11, x12, x13, (by simp only [Act.put, List.setIfInBounds_toArray, List.set_cons_zero, List.set_cons_succ]), hB, stepP [x0, x1, x2, x3, x4, x5, x6, x7, x8, x9, x10, x11, x12, x13] 3 (.int .i64 j) HP.out (by simp) rfl, HQ.out.pure (by decide) (by decide)⟩
                · as_aux_lemma =>
                  intro f ax wx hJ hf hd K' hK
                  obtain ⟨x0, x1, x2, x3, x4, x5, x6, x7, x8, x9, x10, x11, x12, x13, hax, hB, hp, hq⟩ := hJ
                  simp only [Act.put, List.setIfInBounds_toArray, List.set_cons_zero, List.set_cons_succ] at hax
                  subst hax
                  have HK := Lib.hid hK
                  have e2 : x2 = .slice (some ⟨b, o, none⟩) n0 cl0 := hp 2 (deps_at (k := 0) rfl rfl rfl hd)
                  subst e2
                  have e3 : x3 = .int .i64 j := hp 3 (deps_at (k := 1) rfl rfl rfl hd)
                  subst e3
                  have HP := Lib.hid hp
                  have HQ := Lib.hid hq
                  have HF := Lib.hid hf
                  clear hK hp hq hf hd
                  go_simp
                  exact HK.out _ _ ⟨x0, x1, .slice (some ⟨b, o, none⟩) n0 cl0, .int .i64 j, .pointer (some ⟨b, o + j * 4, none⟩), x5, x6, x7, x8, x9, x10, x11, x12, x13, (by simp only [Act.put, List.setIfInBounds_toArray, List.set_cons_zero, List.set_cons_succ]), hB, stepP [x0, x1, .slice (some ⟨b, o, none⟩) n0 cl0, .int .i64 j, x4, x5, x6, x7, x8, x9, x10, x11, x12, x13] 4 (.pointer (some ⟨b, o + j * 4, none⟩)) HP.out (by simp) rfl, HQ.out.pure (by decide) (by decide)⟩
                · as_aux_lemma =>
                  intro f ax wx hJ hf hd K' hK
                  obtain ⟨x0, x1, x2, x3, x4, x5, x6, x7, x8, x9, x10, x11, x12, x13, hax, hB, hp, hq⟩ := hJ
                  simp only [Act.put, List.setIfInBounds_toArray, List.set_cons_zero, List.set_cons_succ] at hax
                  subst hax
                  have HK := Lib.hid hK
                  have e4 : x4 = .pointer (some ⟨b, o + j * 4, none⟩) := hp 4 (deps_at (k := 0) rfl rfl rfl hd)
                  subst e4
                  have HP := Lib.hid hp
                  have HQ := Lib.hid hq
                  have HF := Lib.hid hf
                  clear hK hp hq hf hd
                  go_simp
                  exact HK.out _ _ ⟨x0, x1, x2, x3, .pointer (some ⟨b, o + j * 4, none⟩), .pointer (some ⟨b, o + j * 4 + 1, none⟩), x6, x7, x8, x9, x10, x11, x12, x13, (by simp only [Act.put, List.setIfInBounds_toArray, List.set_cons_zero, List.set_cons_succ]), hB, stepP [x0, x1, x2, x3, .pointer (some ⟨b, o + j * 4, none⟩), x5, x6, x7, x8, x9, x10, x11, x12, x13] 5 (.pointer (some ⟨b, o + j * 4 + 1, none⟩)) HP.out (by simp) rfl, HQ.out.pure (by decide) (by decide)⟩
                · as_aux_lemma =>
                  intro f ax wx hJ hf hd K' hK
                  obtain ⟨x0, x1, x2, x3, x4, x5, x6, x7, x8, x9, x10, x11, x12, x13, hax, hB, hp, hq⟩ := hJ
                  simp only [Act.put, List.setIfInBounds_toArray, List.set_cons_zero, List.set_cons_succ] at hax
                  subst hax
                  have HK := Lib.hid hK
                  have e5 : x5 = .pointer (some ⟨b, o + j * 4 + 1, none⟩) := hp 5 (deps_at (k := 0) rfl rfl rfl hd)
                  subst e5
                  have HP := Lib.hid hp
                  have HQ := Lib.hid hq
                  have HF := Lib.hid hf
                  clear hK hp hq hf hd
                  obtain ⟨_, CS_0, CS_1, CS_2, CS_3⟩ := CS.out.below hB
                  go_simp
                  exact HK.out _ _ ⟨x0, x1, x2, x3, x4, .pointer (some ⟨b, o + j * 4 + 1, none⟩), .int .i64 mn, x7, x8, x9, x10, x11, x12, x13, (by simp only [Act.put, List.setIfInBounds_toArray, List.set_cons_zero, List.set_cons_succ]), hB, stepP [x0, x1, x2, x3, x4, .pointer (some ⟨b, o + j * 4 + 1, none⟩), x6, x7, x8, x9, x10, x11, x12, x13] 6 (.int .i64 mn) HP.out (by simp) rfl, HQ.out.pure (by decide) (by decide)⟩
                · as_aux_lemma =>
                  intro f ax wx hJ hf hd K' hK
                  obtain ⟨x0, x1, x2, x3, x4, x5, x6, x7, x8, x9, x10, x11, x12, x13, hax, hB, hp, hq⟩ := hJ
                  simp only [Act.put, List.setIfInBounds_toArray, List.set_cons_zero, List.set_cons_succ] at hax
                  subst hax
                  have HK := Lib.hid hK
                  have e0 : x0 = .agg #[.slice D S.length d, .slice D' 0 d'] := hp 0 (deps_at (k := 0) rfl rfl rfl hd)
                  subst e0
                  have e1 : x1 = .slice A9 nl c9 := hp 1 (deps_at (k := 1) rfl rfl rfl hd)
                  subst e1
                  have e6 : x6 = .int .i64 mn := hp 6 (deps_at (k := 2) rfl rfl rfl hd)
                  subst e6
                  have HP := Lib.hid hp
                  have HQ := Lib.hid hq
                  have HF := Lib.hid hf
                  clear hK hp hq hf hd
                  go_simp
                  obtain ⟨LA, hoa, hax⟩ := (AC.out.below hB).is
                  have hby := AC.out.byte
                  go_wp2_with (go_at_call 15; refine (DN1.out wx LA _ (Dsk.of_own (DQ.out.below hB)) hoa hax hby).mono ?_; rintro e w3 ⟨Ay, cy, Ay', cy', rfl, hdd, hsd, hb⟩; have hown := hdd.own ((DQ.out.below hB).below hb) (Nat.le_trans B.out.size hB.size))
                  exact HK.out _ _ ⟨.agg #[.slice D S.length d, .slice D' 0 d'], .slice A9 nl c9, x2, x3, x4, x5, .int .i64 mn, .tuple #[diskV Ay S1.length cy Ay' C1.length cy', .bool true], x8, x9, x10, x11, x12, x13, (by simp only [Act.put, List.setIfInBounds_toArray, List.set_cons_zero, List.set_cons_succ]), hB.trans (hb.mono hB.size), stepB [.agg #[.slice D S.length d, .slice D' 0 d'], .slice A9 nl c9, x2, x3, x4, x5, .int .i64 mn, x7, x8, x9, x10, x11, x12, x13] 7 (.tuple #[diskV Ay S1.length cy Ay' C1.length cy', .bool true]) hb HP.out (by simp) ⟨Ay, cy, Ay', cy', rfl, hown, hsd⟩, HQ.out.grow (by decide) (by decide) hb (fun g k => (by obtain ⟨Ay, cy, Ay', cy', q1, q2, q3⟩ := k; exact ⟨Ay, cy, Ay', cy', q1.below hb q1.lt, q2.below hb, q3⟩))⟩
                · as_aux_lemma =>
                  intro f ax wx hJ hf hd K' hK
                  obtain ⟨x0, x1, x2, x3, x4, x5, x6, x7, x8, x9, x10, x11, x12, x13, hax, hB, hp, hq⟩ := hJ
                  simp only [Act.put, List.setIfInBounds_toArray, List.set_cons_zero, List.set_cons_succ] at hax
                  subst hax
                  have HK := Lib.hid hK
                  obtain ⟨Ay, cy, Ay', cy', e7, f7⟩ := hp 7 (deps_at (k := 0) rfl rfl rfl hd)
                  subst e7
                  have F7 := Lib.hid f7
                  clear f7
                  have HP := Lib.hid hp
                  have HQ := Lib.hid hq
                  have HF := Lib.hid hf
                  clear hK hp hq hf hd
                  go_simp
                  exact HK.out _ _ ⟨x0, x1, x2, x3, x4, x5, x6, .tuple #[diskV Ay S1.length cy Ay' C1.length cy', .bool true], .tuple #[diskV Ay S1.length cy Ay' C1.length cy', .bool true], x9, x10, x11, x12, x13, (by simp only [Act.put, List.setIfInBounds_toArray, List.set_cons_zero, List.set_cons_succ]), hB, stepP [x0, x1, x2, x3, x4, x5, x6, .tuple #[diskV Ay S1.length cy Ay' C1.length cy', .bool true], x8, x9, x10, x11, x12, x13] 8 (.tuple #[diskV Ay S1.length cy Ay' C1.length cy', .bool true]) HP.out (by simp) ⟨Ay, cy, Ay', cy', rfl, F7.out⟩, HQ.out.pure (by decide) (by decide)⟩
                · as_aux_lemma =>
                  intro f ax wx hJ hf hd K' hK
                  obtain ⟨x0, x1, x2, x3, x4, x5, x6, x7, x8, x9, x10, x11, x12, x13, hax, hB, hp, hq⟩ := hJ
                  simp only [Act.put, List.setIfInBounds_toArray, List.set_cons_zero, List.set_cons_succ] at hax
                  subst hax
                  have HK := Lib.hid hK
                  obtain ⟨Ay, cy, Ay', cy', e8, f8⟩ := hp 8 (deps_at (k := 0) rfl rfl rfl hd)
                  subst e8
                  have F8 := Lib.hid f8
                  clear f8
                  have HP := Lib.hid hp
                  have HQ := Lib.hid hq
                  have HF := Lib.hid hf
                  clear hK hp hq hf hd
                  go_simp
                  exact HK.out _ _ ⟨x0, x1, x2, x3, x4, x5, x6, x7, .tuple #[diskV Ay S1.length cy Ay' C1.length cy', .bool true], diskV Ay S1.length cy Ay' C1.length cy', x10, x11, x12, x13, (by simp only [Act.put, List.setIfInBounds_toArray, List.set_cons_zero, List.set_cons_succ]), hB, stepP [x0, x1, x2, x3, x4, x5, x6, x7, .tuple #[diskV Ay S1.length cy Ay' C1.length cy', .bool true], x9, x10, x11, x12, x13] 9 (diskV Ay S1.length cy Ay' C1.length cy') HP.out (by simp) ⟨Ay, cy, Ay', cy', rfl, F8.out⟩, HQ.out.pure (by decide) (by decide)⟩
                · as_aux_lemma =>
                  intro f ax wx hJ hf hd K' hK
                  obtain ⟨x0, x1, x2, x3, x4, x5, x6, x7, x8, x9, x10, x11, x12, x13, hax, hB, hp, hq⟩ := hJ
                  simp only [Act.put, List.setIfInBounds_toArray, List.set_cons_zero, List.set_cons_succ] at hax
                  subst hax
                  have HK := Lib.hid hK
                  obtain ⟨Ay, cy, Ay', cy', e8, f8⟩ := hp 8 (deps_at (k := 0) rfl rfl rfl hd)
                  subst e8
                  have F8 := Lib.hid f8
                  clear f8
                  have HP := Lib.hid hp
                  have HQ := Lib.hid hq
                  have HF := Lib.hid hf
                  clear hK hp hq hf hd
                  go_simp
                  exact HK.out _ _ ⟨x0, x1, x2, x3, x4, x5, x6, x7, .tuple #[diskV Ay S1.length cy Ay' C1.length cy', .bool true], x9, .bool true, x11, x12, x13, (by simp only [Act.put, List.setIfInBounds_toArray, List.set_cons_zero, List.set_cons_succ]), hB, stepP [x0, x1, x2, x3, x4, x5, x6, x7, .tuple #[diskV Ay S1.length cy Ay' C1.length cy', .bool true], x9, x10, x11, x12, x13] 10 (.bool true) HP.out (by simp) rfl, HQ.out.pure (by decide) (by decide)⟩
                · as_aux_lemma =>
                  intro f ax wx hJ hf hd K' hK
                  obtain ⟨x0, x1, x2, x3, x4, x5, x6, x7, x8, x9, x10, x11, x12, x13, hax, hB, hp, hq⟩ := hJ
                  simp only [Act.put, List.setIfInBounds_toArray, List.set_cons_zero, List.set_cons_succ] at hax
                  subst hax
                  have HK := Lib.hid hK
                  have HP := Lib.hid hp
                  have HQ := Lib.hid hq
                  have HF := Lib.hid hf
                  clear hK hp hq hf hd
                  go_simp
                  exact HK.out _ _ ⟨x0, x1, x2, x3, x4, x5, x6, x7, x8, x9, x10, .pointer (some ⟨wx.heap.size, 0, none⟩), x12, x13, (by simp only [Act.put, List.setIfInBounds_toArray, List.set_cons_zero, List.set_cons_succ]), hB.trans (((Below.refl _ _).alloc (Nat.le_refl _) _).mono hB.size), stepB [x0, x1, x2, x3, x4, x5, x6, x7, x8, x9, x10, x11, x12, x13] 11 (.pointer (some ⟨wx.heap.size, 0, none⟩)) ((Below.refl _ _).alloc (Nat.le_refl _) _) HP.out (by simp) trivial, HQ.out.alloc HF.out (by decide) hB.size⟩
                · as_aux_lemma =>
                  intro f ax wx hJ hf hd K' hK
                  obtain ⟨x0, x1, x2, x3, x4, x5, x6, x7, x8, x9, x10, x11, x12, x13, hax, hB, hp, hq⟩ := hJ
                  simp only [Act.put, List.setIfInBounds_toArray, List.set_cons_zero, List.set_cons_succ] at hax
                  subst hax
                  have HK := Lib.hid hK
                  obtain ⟨Azz, czz, Azz', czz', e9, f9⟩ := hp 9 (deps_at (k := 1) rfl rfl rfl hd)
                  subst e9
                  have F9 := Lib.hid f9
                  clear f9
                  have qa := deps_at (k := 0) rfl rfl rfl hd
                  obtain ⟨hg, eg, lg, zg, _⟩ := hq.2 qa
                  have ZG := Lib.hid (zg hf)
                  subst eg
                  clear zg
                  have HP := Lib.hid hp
                  have HQ := Lib.hid hq
                  have HF := Lib.hid hf
                  clear hK hp hq hf hd
                  obtain ⟨z0, z1⟩ := ZG.out.two_
                  have fz := ZG.out.free
                  go_simp
                  exact HK.out _ _ ⟨x0, x1, x2, x3, x4, x5, x6, x7, x8, diskV Azz S1.length czz Azz' C1.length czz', x10, .pointer (some ⟨hg, 0, none⟩), x12, x13, (by simp only [Act.put, List.setIfInBounds_toArray, List.set_cons_zero, List.set_cons_succ]), below_two hB lg (.slice Azz S1.length czz) (.slice Azz' C1.length czz'), stepT [x0, x1, x2, x3, x4, x5, x6, x7, x8, diskV Azz S1.length czz Azz' C1.length czz', x10, .pointer (some ⟨hg, 0, none⟩), x12, x13] 12 x12 HP.out (fun c _ k => c.sto (stD.two ZG.out (.slice Azz S1.length czz) (.slice Azz' C1.length czz')) k) (by simp) trivial, HQ.out.store qa (by decide) (fun g e => (by cases e; exact ⟨Azz, czz, Azz', czz', ZG.out.two _ _, F9.out.1.two ZG.out _ _, F9.out.2⟩))⟩
                · as_aux_lemma =>
                  intro f ax wx hJ hf hd K' hK
                  obtain ⟨x0, x1, x2, x3, x4, x5, x6, x7, x8, x9, x10, x11, x12, x13, hax, hB, hp, hq⟩ := hJ
                  simp only [Act.put, List.setIfInBounds_toArray, List.set_cons_zero, List.set_cons_succ] at hax
                  subst hax
                  have HK := Lib.hid hK
                  have e10 : x10 = .bool true := hp 10 (deps_at (k := 0) rfl rfl rfl hd)
                  subst e10
                  have HP := Lib.hid hp
                  have HQ := Lib.hid hq
                  have HF := Lib.hid hf
                  clear hK hp hq hf hd
                  go_simp
                  exact HK.out _ _ ⟨x0, x1, x2, x3, x4, x5, x6, x7, x8, x9, .bool true, x11, x12, .bool true, (by simp only [Act.put, List.setIfInBounds_toArray, List.set_cons_zero, List.set_cons_succ]), hB, stepP [x0, x1, x2, x3, x4, x5, x6, x7, x8, x9, .bool true, x11, x12, x13] 13 (.bool true) HP.out (by simp) rfl, HQ.out.pure (by decide) (by decide)⟩
              · as_aux_lemma =>
                intro f ax v5 hall hJ fuel
                obtain ⟨x0, x1, x2, x3, x4, x5, x6, x7, x8, x9, x10, x11, x12, x13, hax, hB, hp, hq⟩ := hJ
                simp only [Act.put, List.setIfInBounds_toArray, List.set_cons_zero, List.set_cons_succ] at hax
                have e0 : x0 = .agg #[.slice D S.length d, .slice D' 0 d'] := hp 0 (hall 0 (by decide))
                subst e0
                have e1 : x1 = .slice A9 nl c9 := hp 1 (hall 1 (by decide))
                subst e1
                have e2 : x2 = .slice (some ⟨b, o, none⟩) n0 cl0 := hp 2 (hall 2 (by decide))
                subst e2
                have e3 : x3 = .int .i64 j := hp 3 (hall 3 (by decide))
                subst e3
                have e4 : x4 = .pointer (some ⟨b, o + j * 4, none⟩) := hp 4 (hall 4 (by decide))
                subst e4
                have e5 : x5 = .pointer (some ⟨b, o + j * 4 + 1, none⟩) := hp 5 (hall 5 (by decide))
                subst e5
                have e6 : x6 = .int .i64 mn := hp 6 (hall 6 (by decide))
                subst e6
                obtain ⟨Ay, cy, Ay', cy', e7, f7⟩ := hp 7 (hall 7 (by decide))
                subst e7
                have F7 := Lib.hid f7
                clear f7
                obtain ⟨Ay, cy, Ay', cy', e8, f8⟩ := hp 8 (hall 8 (by decide))
                subst e8
                have F8 := Lib.hid f8
                clear f8
                obtain ⟨Ay, cy, Ay', cy', e9, f9⟩ := hp 9 (hall 9 (by decide))
                subst e9
                have F9 := Lib.hid f9
                clear f9
                have e10 : x10 = .bool true := hp 10 (hall 10 (by decide))
                subst e10
                have e13 : x13 = .bool true := hp 13 (hall 13 (by decide))
                subst e13
                obtain ⟨hg, eg, lg, _, fg⟩ := hq.2 (hall 11 (by decide))
                have FG := fg (hall 12 (by decide))
                subst eg
                subst hax
                clear hp hq fg hall
                refine wpAny_done (by kernel_rfl) ?_ _
  
                dsimp only
                obtain ⟨A17, c17, A17', c17', hz, ho, hsd⟩ := FG
                have Z17 := Lib.hid hz
                have D17 := Lib.hid ho
                have S17 := Lib.hid hsd
                have B := Lib.hid (B.out.trans (hB.mono B.out.size))
                have X := Lib.hid (X.out.below hB X.out.lt)
                have XD := Lib.hid (XD.out.below hB XD.out.lt)
                have XM := Lib.hid (XM.out.below hB XM.out.lt)
                have DQ := Lib.hid (DQ.out.below hB)
                have RM := Lib.hid (RM.out.below hB)
                have CS := Lib.hid (CS.out.below hB)
                have NA := Lib.hid (NA.out.below hB)
                have FA := Lib.hid (FA.out.below hB)
                have Z12 := Lib.hid (Z12.out.below hB Z12.out.lt)
                have R12 := Lib.hid (R12.out.below hB)
                have AC := Lib.hid (AC.out.below hB)
                clear hB lg hz ho hsd F7 F8 F9
                clear DN1 hm1 hm2
                clear AC
                have CR1 := Lib.hid (fun wx hx hf => CR.out A17 c17 A17' c17' wx S17.out hx hf)
                have SM3 := Lib.hid (SM2.out S17.out)
                clear CR SM2
                go_upto_region 25 with fail
                refine wp_region_upto2 rfl 13 (fun a0 f ax wx => ∃ x0 x1 x2 x3 x4 x5 x6 x7 x8 x9 x10 x11 x12 : Value, ax = ((((((((((((a0.put (some 154) x0).put (some 155) x1).put (some 156) x2).put (some 157) x3).put (some 158) x4).put (some 159) x5).put (some 160) x6).put (some 153) x7).put (some 161) x8).put (some 162) x9).put (some 19) x10).put (some 20) x12) ∧ Below v5.heap.size v5 wx ∧ (∀ jq, f jq = true → (([(Cl.is (.agg #[.slice A17 S1.length c17, .slice A17' C1.length c17'])), (Cl.is (.slice (some ⟨b, o, none⟩) n0 cl0)), (Cl.is (.int .i64 j)), (Cl.is (.pointer (some ⟨b, o + j * 4, none⟩))), (Cl.is (.pointer (some ⟨b, o + j * 4 + 2, none⟩))), (Cl.is (.slice A2 n2 c2)), (clDskS (fun Ay cy Ay' cy' => .tuple #[diskV Ay S2.length cy Ay' 0 cy', .int .i64 0]) w.heap.size S2 []), (clDskS (fun Ay cy Ay' cy' => .tuple #[diskV Ay S2.length cy Ay' 0 cy', .int .i64 0]) w.heap.size S2 []), (clDskS (fun Ay cy Ay' cy' => diskV Ay S2.length cy Ay' 0 cy') w.heap.size S2 []), (Cl.is (.int .i64 0)), (Cl.any), (Cl.any), (Cl.is (.int .i64 0))] : List (Cl stD)).getD jq Cl.any).p ([x0, x1, x2, x3, x4, x5, x6, x7, x8, x9, x10, x11, x12].getD jq undef) wx) ∧ BoxS 10 11 v5.heap.size 25 [.slice none 0 0, .slice none 0 0] (fun wx h => ∃ Ay cy Ay' cy', Blk wx h 25 [.slice Ay S2.length cy, .slice Ay' 0 cy'] ∧ OwnDsk wx w.heap.size Ay S2.length cy Ay' 0 cy' S2 [] ∧ SmallD S2 []) f x10 wx) (by decide) (by kernel_rfl) ?_ ?_ ?_
                · exact ⟨u154, u155, u156, u157, u158, u159, u160, u153, u161, u162, u19, undef, u20, (by simp only [Act.put, List.setIfInBounds_toArray, List.set_cons_zero, List.set_cons_succ]), (Below.refl _ _).drew, (fun j h => (by cases h)), BoxS.start⟩
                · refine ⟨⟨⟨⟨⟨⟨⟨⟨⟨⟨⟨⟨⟨trivial, ?_⟩, ?_⟩, ?_⟩, ?_⟩, ?_⟩, ?_⟩, ?_⟩, ?_⟩, ?_⟩, ?_⟩, ?_⟩, ?_⟩, ?_⟩
                  · as_aux_lemma =>
                    intro f ax wx hJ hf hd K' hK
                    obtain ⟨x0, x1, x2, x3, x4, x5, x6, x7, x8, x9, x10, x11, x12, hax, hB, hp, hq⟩ := hJ
                    simp only [Act.put, List.setIfInBounds_toArray, List.set_cons_zero, List.set_cons_succ] at hax
                    subst hax
                    have HK := Lib.hid hK
                    have HP := Lib.hid hp
                    have HQ := Lib.hid hq
                    have HF := Lib.hid hf
                    clear hK hp hq hf hd
                    obtain ⟨Z17_0, Z17_1⟩ := (Z17.out.below hB Z17.out.lt).two_
                    go_simp
                    exact HK.out _ _ ⟨.agg #[.slice A17 S1.length c17, .slice A17' C1.length c17'], x1, x2, x3, x4, x5, x6, x7, x8, x9, x10, x11, x12, (by simp only [Act.put, List.setIfInBounds_toArray, List.set_cons_zero, List.set_cons_succ]), hB, stepP [x0, x1, x2, x3, x4, x5, x6, x7, x8, x9, x10, x11, x12] 0 (.agg #[.slice A17 S1.length c17, .slice A17' C1.length c17']) HP.out (by simp) rfl, HQ.out.pure (by decide) (by decide)⟩
                  · as_aux_lemma =>
                    intro f ax wx hJ hf hd K' hK
                    obtain ⟨x0, x1, x2, x3, x4, x5, x6, x7, x8, x9, x10, x11, x12, hax, hB, hp, hq⟩ := hJ
                    simp only [Act.put, List.setIfInBounds_toArray, List.set_cons_zero, List.set_cons_succ] at hax
                    subst hax
                    have HK := Lib.hid hK
                    have HP := Lib.hid hp
                    have HQ := Lib.hid hq
                    have HF := Lib.hid hf
                    clear hK hp hq hf hd
                    go_simp
                    exact HK.out _ _ ⟨x0, .slice (some ⟨b, o, none⟩) n0 cl0, x2, x3, x4, x5, x6, x7, x8, x9, x10, x11, x12, (by simp only [Act.put, List.setIfInBounds_toArray, List.set_cons_zero, List.set_cons_succ]), hB, stepP [x0, x1, x2, x3, x4, x5, x6, x7, x8, x9, x10, x11, x12] 1 (.slice (some ⟨b, o, none⟩) n0 cl0) HP.out (by simp) rfl, HQ.out.pure (by decide) (by decide)⟩
                  · as_aux_lemma =>
                    intro f ax wx hJ hf hd K' hK
                    obtain ⟨x0, x1, x2, x3, x4, x5, x6, x7, x8, x9, x10, x11, x12, hax, hB, hp, hq⟩ := hJ
                    simp only [Act.put, List.setIfInBounds_toArray, List.set_cons_zero, List.set_cons_succ] at hax
                    subst hax
                    have HK := Lib.hid hK
                    have HP := Lib.hid hp
                    have HQ := Lib.hid hq
                    have HF := Lib.hid hf
                    clear hK hp hq hf hd
                    go_simp
                    exact HK.out _ _ ⟨x0, x1, .int .i64 j, x3, x4, x5, x6, x7, x8, x9, x10, x11, x12, (by simp only [Act.put, List.setIfInBounds_toArray, List.set_cons_zero, List.set_cons_succ]), hB, stepP [x0, x1, x2, x3, x4, x5, x6, x7, x8, x9, x10, x11, x12] 2 (.int .i64 j) HP.out (by simp) rfl, HQ.out.pure (by decide) (by decide)⟩
                  · as_aux_lemma =>
                    intro f ax wx hJ hf hd K' hK
                    obtain ⟨x0, x1, x2, x3, x4, x5, x6, x7, x8, x9, x10, x11, x12, hax, hB, hp, hq⟩ := hJ
                    simp only [Act.put, List.setIfInBounds_toArray, List.set_cons_zero, List.set_cons_succ] at hax
                    subst hax
                    have HK := Lib.hid hK
                    have e1 : x1 = .slice (some ⟨b, o, none⟩) n0 cl0 := hp 1 (deps_at (k := 0) rfl rfl rfl hd)
                    subst e1
                    have e2 : x2 = .int .i64 j := hp 2 (deps_at (k := 1) rfl rfl rfl hd)
                    subst e2
                    have HP := Lib.hid hp
                    have HQ := Lib.hid hq
                    have HF := Lib.hid hf
                    clear hK hp hq hf hd
                    go_simp
                    exact HK.out _ _ ⟨x0, .slice (some ⟨b, o, none⟩) n0 cl0, .int .i64 j, .pointer (some ⟨b, o + j * 4, none⟩), x4, x5, x6, x7, x8, x9, x10, x11, x12, (by simp only [Act.put, List.setIfInBounds_toArray, List.set_cons_zero, List.set_cons_succ]), hB, stepP [x0, .slice (some ⟨b, o, none⟩) n0 cl0, .int .i64 j, x3, x4, x5, x6, x7, x8, x9, x10, x11, x12] 3 (.pointer (some ⟨b, o + j * 4, none⟩)) HP.out (by simp) rfl, HQ.out.pure (by decide) (by decide)⟩
                  · as_aux_lemma =>
                    intro f ax wx hJ hf hd K' hK
                    obtain ⟨x0, x1, x2, x3, x4, x5, x6, x7, x8, x9, x10, x11, x12, hax, hB, hp, hq⟩ := hJ
                    simp only [Act.put, List.setIfInBounds_toArray, List.set_cons_zero, List.set_cons_succ] at hax
                    subst hax
                    have HK := Lib.hid hK
                    have e3 : x3 = .pointer (some ⟨b, o + j * 4, none⟩) := hp 3 (deps_at (k := 0) rfl rfl rfl hd)
                    subst e3
                    have HP := Lib.hid hp
                    have HQ := Lib.hid hq
                    have HF := Lib.hid hf
                    clear hK hp hq hf hd
                    go_simp
                    exact HK.out _ _ ⟨x0, x1, x2, .pointer (some ⟨b, o + j * 4, none⟩), .pointer (some ⟨b, o + j * 4 + 2, none⟩), x5, x6, x7, x8, x9, x10, x11, x12, (by simp only [Act.put, List.setIfInBounds_toArray, List.set_cons_zero, List.set_cons_succ]), hB, stepP [x0, x1, x2, .pointer (some ⟨b, o + j * 4, none⟩), x4, x5, x6, x7, x8, x9, x10, x11, x12] 4 (.pointer (some ⟨b, o + j * 4 + 2, none⟩)) HP.out (by simp) rfl, HQ.out.pure (by decide) (by decide)⟩
                  · as_aux_lemma =>
                    intro f ax wx hJ hf hd K' hK
                    obtain ⟨x0, x1, x2, x3, x4, x5, x6, x7, x8, x9, x10, x11, x12, hax, hB, hp, hq⟩ := hJ
                    simp only [Act.put, List.setIfInBounds_toArray, List.set_cons_zero, List.set_cons_succ] at hax
                    subst hax
                    have HK := Lib.hid hK
                    have e4 : x4 = .pointer (some ⟨b, o + j * 4 + 2, none⟩) := hp 4 (deps_at (k := 0) rfl rfl rfl hd)
                    subst e4
                    have HP := Lib.hid hp
                    have HQ := Lib.hid hq
                    have HF := Lib.hid hf
                    clear hK hp hq hf hd
                    obtain ⟨_, CS_0, CS_1, CS_2, CS_3⟩ := CS.out.below hB
                    go_simp
                    exact HK.out _ _ ⟨x0, x1, x2, x3, .pointer (some ⟨b, o + j * 4 + 2, none⟩), .slice A2 n2 c2, x6, x7, x8, x9, x10, x11, x12, (by simp only [Act.put, List.setIfInBounds_toArray, List.set_cons_zero, List.set_cons_succ]), hB, stepP [x0, x1, x2, x3, .pointer (some ⟨b, o + j * 4 + 2, none⟩), x5, x6, x7, x8, x9, x10, x11, x12] 5 (.slice A2 n2 c2) HP.out (by simp) rfl, HQ.out.pure (by decide) (by decide)⟩
                  · as_aux_lemma =>
                    intro f ax wx hJ hf hd K' hK
                    obtain ⟨x0, x1, x2, x3, x4, x5, x6, x7, x8, x9, x10, x11, x12, hax, hB, hp, hq⟩ := hJ
                    simp only [Act.put, List.setIfInBounds_toArray, List.set_cons_zero, List.set_cons_succ] at hax
                    subst hax
                    have HK := Lib.hid hK
                    have e0 : x0 = .agg #[.slice A17 S1.length c17, .slice A17' C1.length c17'] := hp 0 (deps_at (k := 0) rfl rfl rfl hd)
                    subst e0
                    have e5 : x5 = .slice A2 n2 c2 := hp 5 (deps_at (k := 1) rfl rfl rfl hd)
                    subst e5
                    have HP := Lib.hid hp
                    have HQ := Lib.hid hq
                    have HF := Lib.hid hf
                    clear hK hp hq hf hd
                    go_simp
                    go_wp2_with (go_at_call 29; refine (CR1.out _ (Dsk.of_own (D17.out.below hB)) (FA.out.below hB)).mono ?_; rintro e w3 ⟨Ay, cy, Ay', cy', rfl, hown, hb⟩; have hown := hown.lower (Nat.le_trans B.out.size hB.size); have hsd := SM3.out)
                    exact HK.out _ _ ⟨.agg #[.slice A17 S1.length c17, .slice A17' C1.length c17'], x1, x2, x3, x4, .slice A2 n2 c2, .tuple #[diskV Ay S2.length cy Ay' 0 cy', .int .i64 0], x7, x8, x9, x10, x11, x12, (by simp only [Act.put, List.setIfInBounds_toArray, List.set_cons_zero, List.set_cons_succ]), hB.trans (hb.mono hB.size), stepB [.agg #[.slice A17 S1.length c17, .slice A17' C1.length c17'], x1, x2, x3, x4, .slice A2 n2 c2, x6, x7, x8, x9, x10, x11, x12] 6 (.tuple #[diskV Ay S2.length cy Ay' 0 cy', .int .i64 0]) hb HP.out (by simp) ⟨Ay, cy, Ay', cy', rfl, hown, hsd⟩, HQ.out.grow (by decide) (by decide) hb (fun g k => (by obtain ⟨Ay, cy, Ay', cy', q1, q2, q3⟩ := k; exact ⟨Ay, cy, Ay', cy', q1.below hb q1.lt, q2.below hb, q3⟩))⟩
                  · as_aux_lemma =>
                    intro f ax wx hJ hf hd K' hK
                    obtain ⟨x0, x1, x2, x3, x4, x5, x6, x7, x8, x9, x10, x11, x12, hax, hB, hp, hq⟩ := hJ
                    simp only [Act.put, List.setIfInBounds_toArray, List.set_cons_zero, List.set_cons_succ] at hax
                    subst hax
                    have HK := Lib.hid hK
                    obtain ⟨Ay, cy, Ay', cy', e6, f6⟩ := hp 6 (deps_at (k := 0) rfl rfl rfl hd)
                    subst e6
                    have F6 := Lib.hid f6
                    clear f6
                    have HP := Lib.hid hp
                    have HQ := Lib.hid hq
                    have HF := Lib.hid hf
                    clear hK hp hq hf hd
                    go_simp
                    exact HK.out _ _ ⟨x0, x1, x2, x3, x4, x5, .tuple #[diskV Ay S2.length cy Ay' 0 cy', .int .i64 0], .tuple #[diskV Ay S2.length cy Ay' 0 cy', .int .i64 0], x8, x9, x10, x11, x12, (by simp only [Act.put, List.setIfInBounds_toArray, List.set_cons_zero, List.set_cons_succ]), hB, stepP [x0, x1, x2, x3, x4, x5, .tuple #[diskV Ay S2.length cy Ay' 0 cy', .int .i64 0], x7, x8, x9, x10, x11, x12] 7 (.tuple #[diskV Ay S2.length cy Ay' 0 cy', .int .i64 0]) HP.out (by simp) ⟨Ay, cy, Ay', cy', rfl, F6.out⟩, HQ.out.pure (by decide) (by decide)⟩
                  · as_aux_lemma =>
                    intro f ax wx hJ hf hd K' hK
                    obtain ⟨x0, x1, x2, x3, x4, x5, x6, x7, x8, x9, x10, x11, x12, hax, hB, hp, hq⟩ := hJ
                    simp only [Act.put, List.setIfInBounds_toArray, List.set_cons_zero, List.set_cons_succ] at hax
                    subst hax
                    have HK := Lib.hid hK
                    obtain ⟨Ay, cy, Ay', cy', e7, f7⟩ := hp 7 (deps_at (k := 0) rfl rfl rfl hd)
                    subst e7
                    have F7 := Lib.hid f7
                    clear f7
                    have HP := Lib.hid hp
                    have HQ := Lib.hid hq
                    have HF := Lib.hid hf
                    clear hK hp hq hf hd
                    go_simp
                    exact HK.out _ _ ⟨x0, x1, x2, x3, x4, x5, x6, .tuple #[diskV Ay S2.length cy Ay' 0 cy', .int .i64 0], diskV Ay S2.length cy Ay' 0 cy', x9, x10, x11, x12, (by simp only [Act.put, List.setIfInBounds_toArray, List.set_cons_zero, List.set_cons_succ]), hB, stepP [x0, x1, x2, x3, x4, x5, x6, .tuple #[diskV Ay S2.length cy Ay' 0 cy', .int .i64 0], x8, x9, x10, x11, x12] 8 (diskV Ay S2.length cy Ay' 0 cy') HP.out (by simp) ⟨Ay, cy, Ay', cy', rfl, F7.out⟩, HQ.out.pure (by decide) (by decide)⟩
                  · as_aux_lemma =>
                    intro f ax wx hJ hf hd K' hK
                    obtain ⟨x0, x1, x2, x3, x4, x5, x6, x7, x8, x9, x10, x11, x12, hax, hB, hp, hq⟩ := hJ
                    simp only [Act.put, List.setIfInBounds_toArray, List.set_cons_zero, List.set_cons_succ] at hax
                    subst hax
                    have HK := Lib.hid hK
                    obtain ⟨Ay, cy, Ay', cy', e7, f7⟩ := hp 7 (deps_at (k := 0) rfl rfl rfl hd)
                    subst e7
                    have F7 := Lib.hid f7
                    clear f7
                    have HP := Lib.hid hp
                    have HQ := Lib.hid hq
                    have HF := Lib.hid hf
                    clear hK hp hq hf hd
                    go_simp
                    exact HK.out _ _ ⟨x0, x1, x2, x3, x4, x5, x6, .tuple #[diskV Ay S2.length cy Ay' 0 cy', .int .i64 0], x8, .int .i64 0, x10, x11, x12, (by simp only [Act.put, List.setIfInBounds_toArray, List.set_cons_zero, List.set_cons_succ]), hB, stepP [x0, x1, x2, x3, x4, x5, x6, .tuple #[diskV Ay S2.length cy Ay' 0 cy', .int .i64 0], x8, x9, x10, x11, x12] 9 (.int .i64 0) HP.out (by simp) rfl, HQ.out.pure (by decide) (by decide)⟩
                  · as_aux_lemma =>
                    intro f ax wx hJ hf hd K' hK
                    obtain ⟨x0, x1, x2, x3, x4, x5, x6, x7, x8, x9, x10, x11, x12, hax, hB, hp, hq⟩ := hJ
                    simp only [Act.put, List.setIfInBounds_toArray, List.set_cons_zero, List.set_cons_succ] at hax
                    subst hax
                    have HK := Lib.hid hK
                    have HP := Lib.hid hp
                    have HQ := Lib.hid hq
                    have HF := Lib.hid hf
                    clear hK hp hq hf hd
                    go_simp
                    exact HK.out _ _ ⟨x0, x1, x2, x3, x4, x5, x6, x7, x8, x9, .pointer (some ⟨wx.heap.size, 0, none⟩), x11, x12, (by simp only [Act.put, List.setIfInBounds_toArray, List.set_cons_zero, List.set_cons_succ]), hB.trans (((Below.refl _ _).alloc (Nat.le_refl _) _).mono hB.size), stepB [x0, x1, x2, x3, x4, x5, x6, x7, x8, x9, x10, x11, x12] 10 (.pointer (some ⟨wx.heap.size, 0, none⟩)) ((Below.refl _ _).alloc (Nat.le_refl _) _) HP.out (by simp) trivial, HQ.out.alloc HF.out (by decide) hB.size⟩
                  · as_aux_lemma =>
                    intro f ax wx hJ hf hd K' hK
                    obtain ⟨x0, x1, x2, x3, x4, x5, x6, x7, x8, x9, x10, x11, x12, hax, hB, hp, hq⟩ := hJ
                    simp only [Act.put, List.setIfInBounds_toArray, List.set_cons_zero, List.set_cons_succ] at hax
                    subst hax
                    have HK := Lib.hid hK
                    obtain ⟨Azz, czz, Azz', czz', e8, f8⟩ := hp 8 (deps_at (k := 1) rfl rfl rfl hd)
                    subst e8
                    have F8 := Lib.hid f8
                    clear f8
                    have qa := deps_at (k := 0) rfl rfl rfl hd
                    obtain ⟨hg, eg, lg, zg, _⟩ := hq.2 qa
                    have ZG := Lib.hid (zg hf)
                    subst eg
                    clear zg
                    have HP := Lib.hid hp
                    have HQ := Lib.hid hq
                    have HF := Lib.hid hf
                    clear hK hp hq hf hd
                    obtain ⟨z0, z1⟩ := ZG.out.two_
                    have fz := ZG.out.free
                    go_simp
                    exact HK.out _ _ ⟨x0, x1, x2, x3, x4, x5, x6, x7, diskV Azz S2.length czz Azz' 0 czz', x9, .pointer (some ⟨hg, 0, none⟩), x11, x12, (by simp only [Act.put, List.setIfInBounds_toArray, List.set_cons_zero, List.set_cons_succ]), below_two hB lg (.slice Azz S2.length czz) (.slice Azz' 0 czz'), stepT [x0, x1, x2, x3, x4, x5, x6, x7, diskV Azz S2.length czz Azz' 0 czz', x9, .pointer (some ⟨hg, 0, none⟩), x11, x12] 11 x11 HP.out (fun c _ k => c.sto (stD.two ZG.out (.slice Azz S2.length czz) (.slice Azz' 0 czz')) k) (by simp) trivial, HQ.out.store qa (by decide) (fun g e => (by cases e; exact ⟨Azz, czz, Azz', czz', ZG.out.two _ _, F8.out.1.two ZG.out _ _, F8.out.2⟩))⟩
                  · as_aux_lemma =>
                    intro f ax wx hJ hf hd K' hK
                    obtain ⟨x0, x1, x2, x3, x4, x5, x6, x7, x8, x9, x10, x11, x12, hax, hB, hp, hq⟩ := hJ
                    simp only [Act.put, List.setIfInBounds_toArray, List.set_cons_zero, List.set_cons_succ] at hax
                    subst hax
                    have HK := Lib.hid hK
                    have e9 : x9 = .int .i64 0 := hp 9 (deps_at (k := 0) rfl rfl rfl hd)
                    subst e9
                    have HP := Lib.hid hp
                    have HQ := Lib.hid hq
                    have HF := Lib.hid hf
                    clear hK hp hq hf hd
                    go_simp
                    exact HK.out _ _ ⟨x0, x1, x2, x3, x4, x5, x6, x7, x8, .int .i64 0, x10, x11, .int .i64 0, (by simp only [Act.put, List.setIfInBounds_toArray, List.set_cons_zero, List.set_cons_succ]), hB, stepP [x0, x1, x2, x3, x4, x5, x6, x7, x8, .int .i64 0, x10, x11, x12] 12 (.int .i64 0) HP.out (by simp) rfl, HQ.out.pure (by decide) (by decide)⟩
                · as_aux_lemma =>
                  intro f ax v6 hall hJ fuel
                  obtain ⟨x0, x1, x2, x3, x4, x5, x6, x7, x8, x9, x10, x11, x12, hax, hB, hp, hq⟩ := hJ
                  simp only [Act.put, List.setIfInBounds_toArray, List.set_cons_zero, List.set_cons_succ] at hax
                  have e0 : x0 = .agg #[.slice A17 S1.length c17, .slice A17' C1.length c17'] := hp 0 (hall 0 (by decide))
                  subst e0
                  have e1 : x1 = .slice (some ⟨b, o, none⟩) n0 cl0 := hp 1 (hall 1 (by decide))
                  subst e1
                  have e2 : x2 = .int .i64 j := hp 2 (hall 2 (by decide))
                  subst e2
                  have e3 : x3 = .pointer (some ⟨b, o + j * 4, none⟩) := hp 3 (hall 3 (by decide))
                  subst e3
                  have e4 : x4 = .pointer (some ⟨b, o + j * 4 + 2, none⟩) := hp 4 (hall 4 (by decide))
                  subst e4
                  have e5 : x5 = .slice A2 n2 c2 := hp 5 (hall 5 (by decide))
                  subst e5
                  obtain ⟨Ay, cy, Ay', cy', e6, f6⟩ := hp 6 (hall 6 (by decide))
                  subst e6
                  have F6 := Lib.hid f6
                  clear f6
                  obtain ⟨Ay, cy, Ay', cy', e7, f7⟩ := hp 7 (hall 7 (by decide))
                  subst e7
                  have F7 := Lib.hid f7
                  clear f7
                  obtain ⟨Ay, cy, Ay', cy', e8, f8⟩ := hp 8 (hall 8 (by decide))
                  subst e8
                  have F8 := Lib.hid f8
                  clear f8
                  have e9 : x9 = .int .i64 0 := hp 9 (hall 9 (by decide))
                  subst e9
                  have e12 : x12 = .int .i64 0 := hp 12 (hall 12 (by decide))
                  subst e12
                  obtain ⟨hg, eg, lg, _, fg⟩ := hq.2 (hall 10 (by decide))
                  have FG := fg (hall 11 (by decide))
                  subst eg
                  subst hax
                  clear hp hq fg hall
                  refine wpAny_done (by kernel_rfl) ?_ _
  
                  dsimp only
                  obtain ⟨A19, c19, A19', c19', hz, ho, hsd⟩ := FG
                  have Z19 := Lib.hid hz
                  have D19 := Lib.hid ho
                  have S19 := Lib.hid hsd
                  have B := Lib.hid (B.out.trans (hB.mono B.out.size))
                  have X := Lib.hid (X.out.below hB X.out.lt)
                  have XD := Lib.hid (XD.out.below hB XD.out.lt)
                  have XM := Lib.hid (XM.out.below hB XM.out.lt)
                  have DQ := Lib.hid (DQ.out.below hB)
                  have RM := Lib.hid (RM.out.below hB)
                  have CS := Lib.hid (CS.out.below hB)
                  have NA := Lib.hid (NA.out.below hB)
                  have FA := Lib.hid (FA.out.below hB)
                  have Z12 := Lib.hid (Z12.out.below hB Z12.out.lt)
                  have R12 := Lib.hid (R12.out.below hB)
                  have Z17 := Lib.hid (Z17.out.below hB Z17.out.lt)
                  have D17 := Lib.hid (D17.out.below hB)
                  clear hB lg hz ho hsd F6 F7 F8
                  clear CR1 SM3
                  clear Z17 D17
                  obtain ⟨X_0, X_1, X_2, X_3, X_4, X_5⟩ := X.out.cfg
                  obtain ⟨Z19_0, Z19_1⟩ := Z19.out.two_
                  go_wp2_with fail
                  clear X_0 X_1 X_2 X_3 X_4 X_5 Z19_0 Z19_1
                  refine (P3.out A19 c19 A19' c19' _ (Dsk.of_own D19.out) S19.out).mono ?_
                  rintro e v7 ⟨A21, c21, rfl, hown, hb⟩
                  obtain ⟨hY, hk⟩ := met_box v7 bo3 a3 g3 n3 0 A21 k3 c21
                  have hb0 := hb
                  replace hb := hb.trans (hk.mono hb.size)
                  have B := Lib.hid (B.out.trans (hb.mono B.out.size))
                  have X := Lib.hid (X.out.below hb X.out.lt)
                  have XD := Lib.hid (XD.out.below hb XD.out.lt)
                  have XM := Lib.hid (XM.out.below hb XM.out.lt)
                  have DQ := Lib.hid (DQ.out.below hb)
                  have RM := Lib.hid (RM.out.below hb)
                  have CS := Lib.hid (CS.out.below hb)
                  have NA := Lib.hid (NA.out.below hb)
                  have FA := Lib.hid (FA.out.below hb)
                  have Z12 := Lib.hid (Z12.out.below hb Z12.out.lt)
                  have R12 := Lib.hid (R12.out.below hb)
                  have Z19 := Lib.hid (Z19.out.below hb Z19.out.lt)
                  have D19 := Lib.hid (D19.out.below hb)
                  have R21 := Lib.hid ((Recs.of_own hown).below hk)
                  have Z21 := Lib.hid hY
                  clear hY hk hb0
                  clear hb hown P3
                  have SA := Lib.hid (fun wx h1 h2 => same11_b A21 k3 c21 t3 Bm kt cm t wx h1 h2)
                  have SB := Lib.hid (fun wx h1 h2 => same11_b A21 k3 c21 t3 A8 k2 c8 t2 wx h1 h2)
                  go_upto_region 27 with fail
                  obtain ⟨v8, hv8⟩ : ∃ y, y = v7.alloc (.cells #[.int .u32 bo3, .int .i64 a3, .int .u64 g3, .int .i64 n3, .int .i64 0, .slice A21 k3 c21] 32) := ⟨_, rfl⟩
                  rw [← hv8] at B X XD XM DQ RM CS NA FA Z12 R12 Z19 D19 R21 Z21 ⊢
                  clear hv8
                  go_cut [203] from 61 to 305 (fun x wx => x = .bool false ∧ Below v8.heap.size v8 wx)
                  case first =>
                    by_cases ht : t3 = t
                    · rw [decide_eq_true ht] at SA
                      clear ht SB
                      obtain ⟨Z21_0, Z21_1, Z21_2, Z21_3, Z21_4, Z21_5⟩ := Z21.out.met
                      obtain ⟨XM_0, XM_1, XM_2, XM_3, XM_4, XM_5⟩ := XM.out.met
                      obtain ⟨Z12_0, Z12_1, Z12_2, Z12_3, Z12_4, Z12_5⟩ := Z12.out.met
                      go_wp2_with fail
                      clear Z21_0 Z21_1 Z21_2 Z21_3 Z21_4 Z21_5 XM_0 XM_1 XM_2 XM_3 XM_4 XM_5 Z12_0 Z12_1 Z12_2 Z12_3 Z12_4 Z12_5
                      have HB0 := Lib.hid (Below.refl v8.heap.size v8)
                      refine (SA.out _ R21.out (Recs.of_own RM.out)).mono ?_
                      rintro e v9 ⟨rfl, hb⟩
                      have B := Lib.hid (B.out.trans (hb.mono B.out.size))
                      have X := Lib.hid (X.out.below hb X.out.lt)
                      have XD := Lib.hid (XD.out.below hb XD.out.lt)
                      have XM := Lib.hid (XM.out.below hb XM.out.lt)
                      have DQ := Lib.hid (DQ.out.below hb)
                      have RM := Lib.hid (RM.out.below hb)
                      have CS := Lib.hid (CS.out.below hb)
                      have NA := Lib.hid (NA.out.below hb)
                      have FA := Lib.hid (FA.out.below hb)
                      have Z12 := Lib.hid (Z12.out.below hb Z12.out.lt)
                      have R12 := Lib.hid (R12.out.below hb)
                      have Z19 := Lib.hid (Z19.out.below hb Z19.out.lt)
                      have D19 := Lib.hid (D19.out.below hb)
                      have R21 := Lib.hid (R21.out.below hb)
                      have Z21 := Lib.hid (Z21.out.below hb Z21.out.lt)
                      have HB1 := Lib.hid (hb)
                      clear hb 
                      obtain ⟨Z21_0, Z21_1, Z21_2, Z21_3, Z21_4, Z21_5⟩ := Z21.out.met
                      obtain ⟨XM_0, XM_1, XM_2, XM_3, XM_4, XM_5⟩ := XM.out.met
                      obtain ⟨Z12_0, Z12_1, Z12_2, Z12_3, Z12_4, Z12_5⟩ := Z12.out.met
                      go_wp2_with fail
                      go_meet
                      exact ⟨rfl, HB1.out⟩
                    · have ht2 : t3 = t2 := T3.out.resolve_left ht
                      rw [decide_eq_false ht] at SA
                      rw [decide_eq_true ht2] at SB
                      clear ht ht2
                      obtain ⟨Z21_0, Z21_1, Z21_2, Z21_3, Z21_4, Z21_5⟩ := Z21.out.met
                      obtain ⟨XM_0, XM_1, XM_2, XM_3, XM_4, XM_5⟩ := XM.out.met
                      obtain ⟨Z12_0, Z12_1, Z12_2, Z12_3, Z12_4, Z12_5⟩ := Z12.out.met
                      go_wp2_with fail
                      clear Z21_0 Z21_1 Z21_2 Z21_3 Z21_4 Z21_5 XM_0 XM_1 XM_2 XM_3 XM_4 XM_5 Z12_0 Z12_1 Z12_2 Z12_3 Z12_4 Z12_5
                      refine (SA.out _ R21.out (Recs.of_own RM.out)).mono ?_
                      rintro e v9 ⟨rfl, hb⟩
                      have B := Lib.hid (B.out.trans (hb.mono B.out.size))
                      have X := Lib.hid (X.out.below hb X.out.lt)
                      have XD := Lib.hid (XD.out.below hb XD.out.lt)
                      have XM := Lib.hid (XM.out.below hb XM.out.lt)
                      have DQ := Lib.hid (DQ.out.below hb)
                      have RM := Lib.hid (RM.out.below hb)
                      have CS := Lib.hid (CS.out.below hb)
                      have NA := Lib.hid (NA.out.below hb)
                      have FA := Lib.hid (FA.out.below hb)
                      have Z12 := Lib.hid (Z12.out.below hb Z12.out.lt)
                      have R12 := Lib.hid (R12.out.below hb)
                      have Z19 := Lib.hid (Z19.out.below hb Z19.out.lt)
                      have D19 := Lib.hid (D19.out.below hb)
                      have R21 := Lib.hid (R21.out.below hb)
                      have Z21 := Lib.hid (Z21.out.below hb Z21.out.lt)
                      have HB1 := Lib.hid (hb)
                      clear hb 
                      obtain ⟨Z21_0, Z21_1, Z21_2, Z21_3, Z21_4, Z21_5⟩ := Z21.out.met
                      obtain ⟨XM_0, XM_1, XM_2, XM_3, XM_4, XM_5⟩ := XM.out.met
                      obtain ⟨Z12_0, Z12_1, Z12_2, Z12_3, Z12_4, Z12_5⟩ := Z12.out.met
                      go_wp2_with fail
                      clear Z21_0 Z21_1 Z21_2 Z21_3 Z21_4 Z21_5 XM_0 XM_1 XM_2 XM_3 XM_4 XM_5 Z12_0 Z12_1 Z12_2 Z12_3 Z12_4 Z12_5
                      refine (SB.out _ R21.out (Recs.of_own R12.out)).mono ?_
                      rintro e v10 ⟨rfl, hb⟩
                      have B := Lib.hid (B.out.trans (hb.mono B.out.size))
                      have X := Lib.hid (X.out.below hb X.out.lt)
                      have XD := Lib.hid (XD.out.below hb XD.out.lt)
                      have XM := Lib.hid (XM.out.below hb XM.out.lt)
                      have DQ := Lib.hid (DQ.out.below hb)
                      have RM := Lib.hid (RM.out.below hb)
                      have CS := Lib.hid (CS.out.below hb)
                      have NA := Lib.hid (NA.out.below hb)
                      have FA := Lib.hid (FA.out.below hb)
                      have Z12 := Lib.hid (Z12.out.below hb Z12.out.lt)
                      have R12 := Lib.hid (R12.out.below hb)
                      have Z19 := Lib.hid (Z19.out.below hb Z19.out.lt)
                      have D19 := Lib.hid (D19.out.below hb)
                      have R21 := Lib.hid (R21.out.below hb)
                      have Z21 := Lib.hid (Z21.out.below hb Z21.out.lt)
                      have HB1 := Lib.hid (HB1.out.trans (hb.mono HB1.out.size))
                      clear hb 
                      obtain ⟨Z21_0, Z21_1, Z21_2, Z21_3, Z21_4, Z21_5⟩ := Z21.out.met
                      obtain ⟨XM_0, XM_1, XM_2, XM_3, XM_4, XM_5⟩ := XM.out.met
                      obtain ⟨Z12_0, Z12_1, Z12_2, Z12_3, Z12_4, Z12_5⟩ := Z12.out.met
                      go_wp2_with fail
                      go_meet
                      exact ⟨rfl, HB1.out⟩
                  case rest =>
                    obtain ⟨rfl, hb⟩ := hcut
                    have B := Lib.hid (B.out.trans (hb.mono B.out.size))
                    have X := Lib.hid (X.out.below hb X.out.lt)
                    have XD := Lib.hid (XD.out.below hb XD.out.lt)
                    have XM := Lib.hid (XM.out.below hb XM.out.lt)
                    have DQ := Lib.hid (DQ.out.below hb)
                    have RM := Lib.hid (RM.out.below hb)
                    have CS := Lib.hid (CS.out.below hb)
                    have NA := Lib.hid (NA.out.below hb)
                    have FA := Lib.hid (FA.out.below hb)
                    have Z12 := Lib.hid (Z12.out.below hb Z12.out.lt)
                    have R12 := Lib.hid (R12.out.below hb)
                    have Z19 := Lib.hid (Z19.out.below hb Z19.out.lt)
                    have D19 := Lib.hid (D19.out.below hb)
                    have R21 := Lib.hid (R21.out.below hb)
                    have Z21 := Lib.hid (Z21.out.below hb Z21.out.lt)
                    clear hb SA SB T3
                    obtain ⟨v9, hv⟩ : ∃ y, y = wc := ⟨_, rfl⟩
                    rw [← hv] at B X XD XM DQ RM CS NA FA Z12 R12 Z19 D19 R21 Z21 ⊢
                    clear hv
                    clear Z12 R12 RM
                    obtain ⟨X_0, X_1, X_2, X_3, X_4, X_5⟩ := X.out.cfg
                    obtain ⟨Z19_0, Z19_1⟩ := Z19.out.two_
                    obtain ⟨Z21_0, Z21_1, Z21_2, Z21_3, Z21_4, Z21_5⟩ := Z21.out.met
                    go_wp2_with fail
                    clear X_0 X_1 X_2 X_3 X_4 X_5 Z19_0 Z19_1 Z21_0 Z21_1 Z21_2 Z21_3 Z21_4 Z21_5
                    have LB0 := Lib.hid B.out.size
                    refine (PB.out A19 c19 A19' c19' S19.out A21 c21 _ (Dsk.of_own D19.out) R21.out).mono ?_
                    rintro e v10 ⟨A23, c23, A24, c24, rfl, hown, hacts, hb⟩
                    obtain ⟨hY, hk⟩ := met_box v10 e1 e2 e3 e4 e5 A23 ke c23
                    have hb0 := hb
                    replace hb := hb.trans (hk.mono hb.size)
                    have B := Lib.hid (B.out.trans (hb.mono B.out.size))
                    have X := Lib.hid (X.out.below hb X.out.lt)
                    have XD := Lib.hid (XD.out.below hb XD.out.lt)
                    have XM := Lib.hid (XM.out.below hb XM.out.lt)
                    have DQ := Lib.hid (DQ.out.below hb)
                    have CS := Lib.hid (CS.out.below hb)
                    have NA := Lib.hid (NA.out.below hb)
                    have FA := Lib.hid (FA.out.below hb)
                    have Z19 := Lib.hid (Z19.out.below hb Z19.out.lt)
                    have D19 := Lib.hid (D19.out.below hb)
                    have R21 := Lib.hid (R21.out.below hb)
                    have Z21 := Lib.hid (Z21.out.below hb Z21.out.lt)
                    have AC24 := Lib.hid ((hacts.lower LB0.out).below hk)
                    have Z23 := Lib.hid hY
                    clear hY hk hb0
                    clear hb hown hacts PB LB0
                    have DN3 := Lib.hid (fun wx LA base (hq : Dsk wx A19 S2.length c19 A19' 0 c19' S2 []) hoa hax (hby : ∀ a ∈ l5, ∀ z ∈ a.2.2, isByte z) => done12_any A19 c19 A19' c19' S2 [] A24 n5 c24 base LA l5 ag S3 C3 wx hq S19.out hoa hax HDN3.out hby (by have := L5L.out; omega))
                    clear HDN3 L5L
                    go_upto_region 30 with fail
                    obtain ⟨v11, hv11⟩ : ∃ y, y = v10.alloc (.cells #[.int .u32 e1, .int .i64 e2, .int .u64 e3, .int .i64 e4, .int .i64 e5, .slice A23 ke c23] 32) := ⟨_, rfl⟩
                    rw [← hv11] at B X XD XM DQ CS NA FA Z19 D19 R21 Z21 AC24 Z23 ⊢
                    clear hv11
                    refine wp_region_upto2 rfl 14 (fun a0 f ax wx => ∃ x0 x1 x2 x3 x4 x5 x6 x7 x8 x9 x10 x11 x12 x13 : Value, ax = (((((((((((((a0.put (some 213) x0).put (some 214) x1).put (some 215) x2).put (some 216) x3).put (some 217) x4).put (some 218) x5).put (some 219) x6).put (some 220) x7).put (some 212) x8).put (some 221) x9).put (some 222) x10).put (some 26) x11).put (some 27) x13) ∧ Below v11.heap.size v11 wx ∧ (∀ jq, f jq = true → (([(Cl.is (.agg #[.slice A19 S2.length c19, .slice A19' 0 c19'])), (Cl.is (.slice A24 n5 c24)), (Cl.is (.slice (some ⟨b, o, none⟩) n0 cl0)), (Cl.is (.int .i64 j)), (Cl.is (.pointer (some ⟨b, o + j * 4, none⟩))), (Cl.is (.pointer (some ⟨b, o + j * 4 + 3, none⟩))), (Cl.is (.int .i64 ag)), (clDskS (fun Ay cy Ay' cy' => .tuple #[diskV Ay S3.length cy Ay' C3.length cy', .bool true]) w.heap.size S3 C3), (clDskS (fun Ay cy Ay' cy' => .tuple #[diskV Ay S3.length cy Ay' C3.length cy', .bool true]) w.heap.size S3 C3), (clDskS (fun Ay cy Ay' cy' => diskV Ay S3.length cy Ay' C3.length cy') w.heap.size S3 C3), (Cl.is (.bool true)), (Cl.any), (Cl.any), (Cl.is (.bool true))] : List (Cl stD)).getD jq Cl.any).p ([x0, x1, x2, x3, x4, x5, x6, x7, x8, x9, x10, x11, x12, x13].getD jq undef) wx) ∧ BoxS 11 12 v11.heap.size 25 [.slice none 0 0, .slice none 0 0] (fun wx h => ∃ Ay cy Ay' cy', Blk wx h 25 [.slice Ay S3.length cy, .slice Ay' C3.length cy'] ∧ OwnDsk wx w.heap.size Ay S3.length cy Ay' C3.length cy' S3 C3 ∧ SmallD S3 C3) f x11 wx) (by decide) (by kernel_rfl) ?_ ?_ ?_
                    · exact ⟨u213, u214, u215, u216, u217, u218, u219, u220, u212, u221, u222, u26, undef, u27, (by simp only [Act.put, List.setIfInBounds_toArray, List.set_cons_zero, List.set_cons_succ]), (Below.refl _ _).drew, (fun j h => (by cases h)), BoxS.start⟩
                    · refine ⟨⟨⟨⟨⟨⟨⟨⟨⟨⟨⟨⟨⟨⟨trivial, ?_⟩, ?_⟩, ?_⟩, ?_⟩, ?_⟩, ?_⟩, ?_⟩, ?_⟩, ?_⟩, ?_⟩, ?_⟩, ?_⟩, ?_⟩, ?_⟩
                      · as_aux_lemma =>
                        intro f ax wx hJ hf hd K' hK
                        obtain ⟨x0, x1, x2, x3, x4, x5, x6, x7, x8, x9, x10, x11, x12, x13, hax, hB, hp, hq⟩ := hJ
                        simp only [Act.put, List.setIfInBounds_toArray, List.set_cons_zero, List.set_cons_succ] at hax
                        subst hax
                        have HK := Lib.hid hK
                        have HP := Lib.hid hp
                        have HQ := Lib.hid hq
                        have HF := Lib.hid hf
                        clear hK hp hq hf hd
                        obtain ⟨Z19_0, Z19_1⟩ := (Z19.out.below hB Z19.out.lt).two_
                        go_simp
                        exact HK.out _ _ ⟨.agg #[.slice A19 S2.length c19, .slice A19' 0 c19'], x1, x2, x3, x4, x5, x6, x7, x8, x9, x10, x11, x12, x13, (by simp only [Act.put, List.setIfInBounds_toArray, List.set_cons_zero, List.set_cons_succ]), hB, stepP [x0, x1, x2, x3, x4, x5, x6, x7, x8, x9, x10, x11, x12, x13] 0 (.agg #[.slice A19 S2.length c19, .slice A19' 0 c19']) HP.out (by simp) rfl, HQ.out.pure (by decide) (by decide)⟩
                      · as_aux_lemma =>
                        intro f ax wx hJ hf hd K' hK
                        obtain ⟨x0, x1, x2, x3, x4, x5, x6, x7, x8, x9, x10, x11, x12, x13, hax, hB, hp, hq⟩ := hJ
                        simp only [Act.put, List.setIfInBounds_toArray, List.set_cons_zero, List.set_cons_succ] at hax
                        subst hax
                        have HK := Lib.hid hK
                        have HP := Lib.hid hp
                        have HQ := Lib.hid hq
                        have HF := Lib.hid hf
                        clear hK hp hq hf hd
                        go_simp
                        exact HK.out _ _ ⟨x0, .slice A24 n5 c24, x2, x3, x4, x5, x6, x7, x8, x9, x10, x11, x12, x13, (by simp only [Act.put, List.setIfInBounds_toArray, List.set_cons_zero, List.set_cons_succ]), hB, stepP [x0, x1, x2, x3, x4, x5, x6, x7, x8, x9, x10, x11, x12, x13] 1 (.slice A24 n5 c24) HP.out (by simp) rfl, HQ.out.pure (by decide) (by decide)⟩
                      · as_aux_lemma =>
                        intro f ax wx hJ hf hd K' hK
                        obtain ⟨x0, x1, x2, x3, x4, x5, x6, x7, x8, x9, x10, x11, x12, x13, hax, hB, hp, hq⟩ := hJ
                        simp only [Act.put, List.setIfInBounds_toArray, List.set_cons_zero, List.set_cons_succ] at hax
                        subst hax
                        have HK := Lib.hid hK
                        have HP := Lib.hid hp
                        have HQ := Lib.hid hq
                        have HF := Lib.hid hf
                        clear hK hp hq hf hd
                        go_simp
                        exact HK.out _ _ ⟨x0, x1, .slice (some ⟨b, o, none⟩) n0 cl0, x3, x4, x5, x6, x7, x8, x9, x10, x11, x12, x13, (by simp only [Act.put, List.setIfInBounds_toArray, List.set_cons_zero, List.set_cons_succ]), hB, stepP [x0, x1, x2, x3, x4, x5, x6, x7, x8, x9, x10, x11, x12, x13] 2 (.slice (some ⟨b, o, none⟩) n0 cl0) HP.out (by simp) rfl, HQ.out.pure (by decide) (by decide)⟩
                      · as_aux_lemma =>
                        intro f ax wx hJ hf hd K' hK
                        obtain ⟨x0, x1, x2, x3, x4, x5, x6, x7, x8, x9, x10, x11, x12, x13, hax, hB, hp, hq⟩ := hJ
                        simp only [Act.put, List.setIfInBounds_toArray, List.set_cons_zero, List.set_cons_succ] at hax
                        subst hax
                        have HK := Lib.hid hK
                        have HP := Lib.hid hp
                        have HQ := Lib.hid hq
                        have HF := Lib.hid hf
                        clear hK hp hq hf hd
                        go_simp
                        exact HK.out _ _ ⟨x0, x1, x2, .int .i64 j, x4, x5, x6, x7, x8, x9, x10, x11, x12, x13, (by simp only [Act.put, List.setIfInBounds_toArray, List.set_cons_zero, List.set_cons_succ]), hB, stepP [x0, x1, x2, x3, x4, x5, x6, x7, x8, x9, x10, x11, x12, x13] 3 (.int .i64 j) HP.out (by simp) rfl, HQ.out.pure (by decide) (by decide)⟩
                      · as_aux_lemma =>
                        intro f ax wx hJ hf hd K' hK
                        obtain ⟨x0, x1, x2, x3, x4, x5, x6, x7, x8, x9, x10, x11, x12, x13, hax, hB, hp, hq⟩ := hJ
                        simp only [Act.put, List.setIfInBounds_toArray, List.set_cons_zero, List.set_cons_succ] at hax
                        subst hax
                        have HK := Lib.hid hK
                        have e2 : x2 = .slice (some ⟨b, o, none⟩) n0 cl0 := hp 2 (deps_at (k := 0) rfl rfl rfl hd)
                        subst e2
                        have e3 : x3 = .int .i64 j := hp 3 (deps_at (k := 1) rfl rfl rfl hd)
                        subst e3
                        have HP := Lib.hid hp
                        have HQ := Lib.hid hq
                        have HF := Lib.hid hf
                        clear hK hp hq hf hd
                        go_simp
                        exact HK.out _ _ ⟨x0, x1, .slice (some ⟨b, o, none⟩) n0 cl0, .int .i64 j, .pointer (some ⟨b, o + j * 4, none⟩), x5, x6, x7, x8, x9, x10, x11, x12, x13, (by simp only [Act.put, List.setIfInBounds_toArray, List.set_cons_zero, List.set_cons_succ]), hB, stepP [x0, x1, .slice (some ⟨b, o, none⟩) n0 cl0, .int .i64 j, x4, x5, x6, x7, x8, x9, x10, x11, x12, x13] 4 (.pointer (some ⟨b, o + j * 4, none⟩)) HP.out (by simp) rfl, HQ.out.pure (by decide) (by decide)⟩
                      · as_aux_lemma =>
                        intro f ax wx hJ hf hd K' hK
                        obtain ⟨x0, x1, x2, x3, x4, x5, x6, x7, x8, x9, x10, x11, x12, x13, hax, hB, hp, hq⟩ := hJ
                        simp only [Act.put, List.setIfInBounds_toArray, List.set_cons_zero, List.set_cons_succ] at hax
                        subst hax
                        have HK := Lib.hid hK
                        have e4 : x4 = .pointer (some ⟨b, o + j * 4, none⟩) := hp 4 (deps_at (k := 0) rfl rfl rfl hd)
                        subst e4
                        have HP := Lib.hid hp
                        have HQ := Lib.hid hq
                        have HF := Lib.hid hf
                        clear hK hp hq hf hd
                        go_simp
                        exact HK.out _ _ ⟨x0, x1, x2, x3, .pointer (some ⟨b, o + j * 4, none⟩), .pointer (some ⟨b, o + j * 4 + 3, none⟩), x6, x7, x8, x9, x10, x11, x12, x13, (by simp only [Act.put, List.setIfInBounds_toArray, List.set_cons_zero, List.set_cons_succ]), hB, stepP [x0, x1, x2, x3, .pointer (some ⟨b, o + j * 4, none⟩), x5, x6, x7, x8, x9, x10, x11, x12, x13] 5 (.pointer (some ⟨b, o + j * 4 + 3, none⟩)) HP.out (by simp) rfl, HQ.out.pure (by decide) (by decide)⟩
                      · as_aux_lemma =>
                        intro f ax wx hJ hf hd K' hK
                        obtain ⟨x0, x1, x2, x3, x4, x5, x6, x7, x8, x9, x10, x11, x12, x13, hax, hB, hp, hq⟩ := hJ
                        simp only [Act.put, List.setIfInBounds_toArray, List.set_cons_zero, List.set_cons_succ] at hax
                        subst hax
                        have HK := Lib.hid hK
                        have e5 : x5 = .pointer (some ⟨b, o + j * 4 + 3, none⟩) := hp 5 (deps_at (k := 0) rfl rfl rfl hd)
                        subst e5
                        have HP := Lib.hid hp
                        have HQ := Lib.hid hq
                        have HF := Lib.hid hf
                        clear hK hp hq hf hd
                        obtain ⟨_, CS_0, CS_1, CS_2, CS_3⟩ := CS.out.below hB
                        go_simp
                        exact HK.out _ _ ⟨x0, x1, x2, x3, x4, .pointer (some ⟨b, o + j * 4 + 3, none⟩), .int .i64 ag, x7, x8, x9, x10, x11, x12, x13, (by simp only [Act.put, List.setIfInBounds_toArray, List.set_cons_zero, List.set_cons_succ]), hB, stepP [x0, x1, x2, x3, x4, .pointer (some ⟨b, o + j * 4 + 3, none⟩), x6, x7, x8, x9, x10, x11, x12, x13] 6 (.int .i64 ag) HP.out (by simp) rfl, HQ.out.pure (by decide) (by decide)⟩
                      · as_aux_lemma =>
                        intro f ax wx hJ hf hd K' hK
                        obtain ⟨x0, x1, x2, x3, x4, x5, x6, x7, x8, x9, x10, x11, x12, x13, hax, hB, hp, hq⟩ := hJ
                        simp only [Act.put, List.setIfInBounds_toArray, List.set_cons_zero, List.set_cons_succ] at hax
                        subst hax
                        have HK := Lib.hid hK
                        have e0 : x0 = .agg #[.slice A19 S2.length c19, .slice A19' 0 c19'] := hp 0 (deps_at (k := 0) rfl rfl rfl hd)
                        subst e0
                        have e1 : x1 = .slice A24 n5 c24 := hp 1 (deps_at (k := 1) rfl rfl rfl hd)
                        subst e1
                        have e6 : x6 = .int .i64 ag := hp 6 (deps_at (k := 2) rfl rfl rfl hd)
                        subst e6
                        have HP := Lib.hid hp
                        have HQ := Lib.hid hq
                        have HF := Lib.hid hf
                        clear hK hp hq hf hd
                        go_simp
                        obtain ⟨LA, hoa, hax⟩ := (AC24.out.below hB).is
                        have hby := AC24.out.byte
                        go_wp2_with (go_at_call 15; refine (DN3.out wx LA _ (Dsk.of_own (D19.out.below hB)) hoa hax hby).mono ?_; rintro e w3 ⟨Ay, cy, Ay', cy', rfl, hdd, hsd, hb⟩; have hown := hdd.own ((D19.out.below hB).below hb) (Nat.le_trans B.out.size hB.size))
                        exact HK.out _ _ ⟨.agg #[.slice A19 S2.length c19, .slice A19' 0 c19'], .slice A24 n5 c24, x2, x3, x4, x5, .int .i64 ag, .tuple #[diskV Ay S3.length cy Ay' C3.length cy', .bool true], x8, x9, x10, x11, x12, x13, (by simp only [Act.put, List.setIfInBounds_toArray, List.set_cons_zero, List.set_cons_succ]), hB.trans (hb.mono hB.size), stepB [.agg #[.slice A19 S2.length c19, .slice A19' 0 c19'], .slice A24 n5 c24, x2, x3, x4, x5, .int .i64 ag, x7, x8, x9, x10, x11, x12, x13] 7 (.tuple #[diskV Ay S3.length cy Ay' C3.length cy', .bool true]) hb HP.out (by simp) ⟨Ay, cy, Ay', cy', rfl, hown, hsd⟩, HQ.out.grow (by decide) (by decide) hb (fun g k => (by obtain ⟨Ay, cy, Ay', cy', q1, q2, q3⟩ := k; exact ⟨Ay, cy, Ay', cy', q1.below hb q1.lt, q2.below hb, q3⟩))⟩
                      · as_aux_lemma =>
                        intro f ax wx hJ hf hd K' hK
                        obtain ⟨x0, x1, x2, x3, x4, x5, x6, x7, x8, x9, x10, x11, x12, x13, hax, hB, hp, hq⟩ := hJ
                        simp only [Act.put, List.setIfInBounds_toArray, List.set_cons_zero, List.set_cons_succ] at hax
                        subst hax
                        have HK := Lib.hid hK
                        obtain ⟨Ay, cy, Ay', cy', e7, f7⟩ := hp 7 (deps_at (k := 0) rfl rfl rfl hd)
                        subst e7
                        have F7 := Lib.hid f7
                        clear f7
                        have HP := Lib.hid hp
                        have HQ := Lib.hid hq
                        have HF := Lib.hid hf
                        clear hK hp hq hf hd
                        go_simp
                        exact HK.out _ _ ⟨x0, x1, x2, x3, x4, x5, x6, .tuple #[diskV Ay S3.length cy Ay' C3.length cy', .bool true], .tuple #[diskV Ay S3.length cy Ay' C3.length cy', .bool true], x9, x10, x11, x12, x13, (by simp only [Act.put, List.setIfInBounds_toArray, List.set_cons_zero, List.set_cons_succ]), hB, stepP [x0, x1, x2, x3, x4, x5, x6, .tuple #[diskV Ay S3.length cy Ay' C3.length cy', .bool true], x8, x9, x10, x11, x12, x13] 8 (.tuple #[diskV Ay S3.length cy Ay' C3.length cy', .bool true]) HP.out (by simp) ⟨Ay, cy, Ay', cy', rfl, F7.out⟩, HQ.out.pure (by decide) (by decide)⟩
                      · as_aux_lemma =>
                        intro f ax wx hJ hf hd K' hK
                        obtain ⟨x0, x1, x2, x3, x4, x5, x6, x7, x8, x9, x10, x11, x12, x13, hax, hB, hp, hq⟩ := hJ
                        simp only [Act.put, List.setIfInBounds_toArray, List.set_cons_zero, List.set_cons_succ] at hax
                        subst hax
                        have HK := Lib.hid hK
                        obtain ⟨Ay, cy, Ay', cy', e8, f8⟩ := hp 8 (deps_at (k := 0) rfl rfl rfl hd)
                        subst e8
                        have F8 := Lib.hid f8
                        clear f8
                        have HP := Lib.hid hp
                        have HQ := Lib.hid hq
                        have HF := Lib.hid hf
                        clear hK hp hq hf hd
                        go_simp
                        exact HK.out _ _ ⟨x0, x1, x2, x3, x4, x5, x6, x7, .tuple #[diskV Ay S3.length cy Ay' C3.length cy', .bool true], diskV Ay S3.length cy Ay' C3.length cy', x10, x11, x12, x13, (by simp only [Act.put, List.setIfInBounds_toArray, List.set_cons_zero, List.set_cons_succ]), hB, stepP [x0, x1, x2, x3, x4, x5, x6, x7, .tuple #[diskV Ay S3.length cy Ay' C3.length cy', .bool true], x9, x10, x11, x12, x13] 9 (diskV Ay S3.length cy Ay' C3.length cy') HP.out (by simp) ⟨Ay, cy, Ay', cy', rfl, F8.out⟩, HQ.out.pure (by decide) (by decide)⟩
                      · as_aux_lemma =>
                        intro f ax wx hJ hf hd K' hK
                        obtain ⟨x0, x1, x2, x3, x4, x5, x6, x7, x8, x9, x10, x11, x12, x13, hax, hB, hp, hq⟩ := hJ
                        simp only [Act.put, List.setIfInBounds_toArray, List.set_cons_zero, List.set_cons_succ] at hax
                        subst hax
                        have HK := Lib.hid hK
                        obtain ⟨Ay, cy, Ay', cy', e8, f8⟩ := hp 8 (deps_at (k := 0) rfl rfl rfl hd)
                        subst e8
                        have F8 := Lib.hid f8
                        clear f8
                        have HP := Lib.hid hp
                        have HQ := Lib.hid hq
                        have HF := Lib.hid hf
                        clear hK hp hq hf hd
                        go_simp
                        exact HK.out _ _ ⟨x0, x1, x2, x3, x4, x5, x6, x7, .tuple #[diskV Ay S3.length cy Ay' C3.length cy', .bool true], x9, .bool true, x11, x12, x13, (by simp only [Act.put, List.setIfInBounds_toArray, List.set_cons_zero, List.set_cons_succ]), hB, stepP [x0, x1, x2, x3, x4, x5, x6, x7, .tuple #[diskV Ay S3.length cy Ay' C3.length cy', .bool true], x9, x10, x11, x12, x13] 10 (.bool true) HP.out (by simp) rfl, HQ.out.pure (by decide) (by decide)⟩
                      · as_aux_lemma =>
                        intro f ax wx hJ hf hd K' hK
                        obtain ⟨x0, x1, x2, x3, x4, x5, x6, x7, x8, x9, x10, x11, x12, x13, hax, hB, hp, hq⟩ := hJ
                        simp only [Act.put, List.setIfInBounds_toArray, List.set_cons_zero, List.set_cons_succ] at hax
                        subst hax
                        have HK := Lib.hid hK
                        have HP := Lib.hid hp
                        have HQ := Lib.hid hq
                        have HF := Lib.hid hf
                        clear hK hp hq hf hd
                        go_simp
                        exact HK.out _ _ ⟨x0, x1, x2, x3, x4, x5, x6, x7, x8, x9, x10, .pointer (some ⟨wx.heap.size, 0, none⟩), x12, x13, (by simp only [Act.put, List.setIfInBounds_toArray, List.set_cons_zero, List.set_cons_succ]), hB.trans (((Below.refl _ _).alloc (Nat.le_refl _) _).mono hB.size), stepB [x0, x1, x2, x3, x4, x5, x6, x7, x8, x9, x10, x11, x12, x13] 11 (.pointer (some ⟨wx.heap.size, 0, none⟩)) ((Below.refl _ _).alloc (Nat.le_refl _) _) HP.out (by simp) trivial, HQ.out.alloc HF.out (by decide) hB.size⟩
                      · as_aux_lemma =>
                        intro f ax wx hJ hf hd K' hK
                        obtain ⟨x0, x1, x2, x3, x4, x5, x6, x7, x8, x9, x10, x11, x12, x13, hax, hB, hp, hq⟩ := hJ
                        simp only [Act.put, List.setIfInBounds_toArray, List.set_cons_zero, List.set_cons_succ] at hax
                        subst hax
                        have HK := Lib.hid hK
                        obtain ⟨Azz, czz, Azz', czz', e9, f9⟩ := hp 9 (deps_at (k := 1) rfl rfl rfl hd)
                        subst e9
                        have F9 := Lib.hid f9
                        clear f9
                        have qa := deps_at (k := 0) rfl rfl rfl hd
                        obtain ⟨hg, eg, lg, zg, _⟩ := hq.2 qa
                        have ZG := Lib.hid (zg hf)
                        subst eg
                        clear zg
                        have HP := Lib.hid hp
                        have HQ := Lib.hid hq
                        have HF := Lib.hid hf
                        clear hK hp hq hf hd
                        obtain ⟨z0, z1⟩ := ZG.out.two_
                        have fz := ZG.out.free
                        go_simp
                        exact HK.out _ _ ⟨x0, x1, x2, x3, x4, x5, x6, x7, x8, diskV Azz S3.length czz Azz' C3.length czz', x10, .pointer (some ⟨hg, 0, none⟩), x12, x13, (by simp only [Act.put, List.setIfInBounds_toArray, List.set_cons_zero, List.set_cons_succ]), below_two hB lg (.slice Azz S3.length czz) (.slice Azz' C3.length czz'), stepT [x0, x1, x2, x3, x4, x5, x6, x7, x8, diskV Azz S3.length czz Azz' C3.length czz', x10, .pointer (some ⟨hg, 0, none⟩), x12, x13] 12 x12 HP.out (fun c _ k => c.sto (stD.two ZG.out (.slice Azz S3.length czz) (.slice Azz' C3.length czz')) k) (by simp) trivial, HQ.out.store qa (by decide) (fun g e => (by cases e; exact ⟨Azz, czz, Azz', czz', ZG.out.two _ _, F9.out.1.two ZG.out _ _, F9.out.2⟩))⟩
                      · as_aux_lemma =>
                        intro f ax wx hJ hf hd K' hK
                        obtain ⟨x0, x1, x2, x3, x4, x5, x6, x7, x8, x9, x10, x11, x12, x13, hax, hB, hp, hq⟩ := hJ
                        simp only [Act.put, List.setIfInBounds_toArray, List.set_cons_zero, List.set_cons_succ] at hax
                        subst hax
                        have HK := Lib.hid hK
                        have e10 : x10 = .bool true := hp 10 (deps_at (k := 0) rfl rfl rfl hd)
                        subst e10
                        have HP := Lib.hid hp
                        have HQ := Lib.hid hq
                        have HF := Lib.hid hf
                        clear hK hp hq hf hd
                        go_simp
                        exact HK.out _ _ ⟨x0, x1, x2, x3, x4, x5, x6, x7, x8, x9, .bool true, x11, x12, .bool true, (by simp only [Act.put, List.setIfInBounds_toArray, List.set_cons_zero, List.set_cons_succ]), hB, stepP [x0, x1, x2, x3, x4, x5, x6, x7, x8, x9, .bool true, x11, x12, x13] 13 (.bool true) HP.out (by simp) rfl, HQ.out.pure (by decide) (by decide)⟩
                    · as_aux_lemma =>
                      intro f ax v12 hall hJ fuel
                      obtain ⟨x0, x1, x2, x3, x4, x5, x6, x7, x8, x9, x10, x11, x12, x13, hax, hB, hp, hq⟩ := hJ
                      simp only [Act.put, List.setIfInBounds_toArray, List.set_cons_zero, List.set_cons_succ] at hax
                      have e0 : x0 = .agg #[.slice A19 S2.length c19, .slice A19' 0 c19'] := hp 0 (hall 0 (by decide))
                      subst e0
                      have e1 : x1 = .slice A24 n5 c24 := hp 1 (hall 1 (by decide))
                      subst e1
                      have e2 : x2 = .slice (some ⟨b, o, none⟩) n0 cl0 := hp 2 (hall 2 (by decide))
                      subst e2
                      have e3 : x3 = .int .i64 j := hp 3 (hall 3 (by decide))
                      subst e3
                      have e4 : x4 = .pointer (some ⟨b, o + j * 4, none⟩) := hp 4 (hall 4 (by decide))
                      subst e4
                      have e5 : x5 = .pointer (some ⟨b, o + j * 4 + 3, none⟩) := hp 5 (hall 5 (by decide))
                      subst e5
                      have e6 : x6 = .int .i64 ag := hp 6 (hall 6 (by decide))
                      subst e6
                      obtain ⟨Ay, cy, Ay', cy', e7, f7⟩ := hp 7 (hall 7 (by decide))
                      subst e7
                      have F7 := Lib.hid f7
                      clear f7
                      obtain ⟨Ay, cy, Ay', cy', e8, f8⟩ := hp 8 (hall 8 (by decide))
                      subst e8
                      have F8 := Lib.hid f8
                      clear f8
                      obtain ⟨Ay, cy, Ay', cy', e9, f9⟩ := hp 9 (hall 9 (by decide))
                      subst e9
                      have F9 := Lib.hid f9
                      clear f9
                      have e10 : x10 = .bool true := hp 10 (hall 10 (by decide))
                      subst e10
                      have e13 : x13 = .bool true := hp 13 (hall 13 (by decide))
                      subst e13
                      obtain ⟨hg, eg, lg, _, fg⟩ := hq.2 (hall 11 (by decide))
                      have FG := fg (hall 12 (by decide))
                      subst eg
                      subst hax
                      clear hp hq fg hall
                      refine wpAny_done (by kernel_rfl) ?_ _
  
                      dsimp only
                      obtain ⟨A26, c26, A26', c26', hz, ho, hsd⟩ := FG
                      have Z26 := Lib.hid hz
                      have D26 := Lib.hid ho
                      have S26 := Lib.hid hsd
                      have B := Lib.hid (B.out.trans (hB.mono B.out.size))
                      have X := Lib.hid (X.out.below hB X.out.lt)
                      have XD := Lib.hid (XD.out.below hB XD.out.lt)
                      have XM := Lib.hid (XM.out.below hB XM.out.lt)
                      have DQ := Lib.hid (DQ.out.below hB)
                      have CS := Lib.hid (CS.out.below hB)
                      have NA := Lib.hid (NA.out.below hB)
                      have FA := Lib.hid (FA.out.below hB)
                      have Z19 := Lib.hid (Z19.out.below hB Z19.out.lt)
                      have D19 := Lib.hid (D19.out.below hB)
                      have R21 := Lib.hid (R21.out.below hB)
                      have Z21 := Lib.hid (Z21.out.below hB Z21.out.lt)
                      have AC24 := Lib.hid (AC24.out.below hB)
                      have Z23 := Lib.hid (Z23.out.below hB Z23.out.lt)
                      clear hB lg hz ho hsd F7 F8 F9
                      clear DN3
                      clear AC24 Z19 D19 Z23
                      have CR2 := Lib.hid (fun wx hx hf => CR4.out A26 c26 A26' c26' wx S26.out hx hf)
                      have SM5 := Lib.hid (SM4.out S26.out)
                      clear CR4 SM4
                      go_upto_region 31 with fail
                      refine wp_region_upto2 rfl 13 (fun a0 f ax wx => ∃ x0 x1 x2 x3 x4 x5 x6 x7 x8 x9 x10 x11 x12 : Value, ax = ((((((((((((a0.put (some 224) x0).put (some 225) x1).put (some 226) x2).put (some 227) x3).put (some 228) x4).put (some 229) x5).put (some 230) x6).put (some 223) x7).put (some 231) x8).put (some 232) x9).put (some 28) x10).put (some 29) x12) ∧ Below v12.heap.size v12 wx ∧ (∀ jq, f jq = true → (([(Cl.is (.agg #[.slice A26 S3.length c26, .slice A26' C3.length c26'])), (Cl.is (.slice (some ⟨b, o, none⟩) n0 cl0)), (Cl.is (.int .i64 j)), (Cl.is (.pointer (some ⟨b, o + j * 4, none⟩))), (Cl.is (.pointer (some ⟨b, o + j * 4 + 2, none⟩))), (Cl.is (.slice A2 n2 c2)), (clDskS (fun Ay cy Ay' cy' => .tuple #[diskV Ay S4.length cy Ay' 0 cy', .int .i64 0]) w.heap.size S4 []), (clDskS (fun Ay cy Ay' cy' => .tuple #[diskV Ay S4.length cy Ay' 0 cy', .int .i64 0]) w.heap.size S4 []), (clDskS (fun Ay cy Ay' cy' => diskV Ay S4.length cy Ay' 0 cy') w.heap.size S4 []), (Cl.is (.int .i64 0)), (Cl.any), (Cl.any), (Cl.is (.int .i64 0))] : List (Cl stD)).getD jq Cl.any).p ([x0, x1, x2, x3, x4, x5, x6, x7, x8, x9, x10, x11, x12].getD jq undef) wx) ∧ BoxS 10 11 v12.heap.size 25 [.slice none 0 0, .slice none 0 0] (fun wx h => ∃ Ay cy Ay' cy', Blk wx h 25 [.slice Ay S4.length cy, .slice Ay' 0 cy'] ∧ OwnDsk wx w.heap.size Ay S4.length cy Ay' 0 cy' S4 [] ∧ SmallD S4 []) f x10 wx) (by decide) (by kernel_rfl) ?_ ?_ ?_
                      · exact ⟨u224, u225, u226, u227, u228, u229, u230, u223, u231, u232, u28, undef, u29, (by simp only [Act.put, List.setIfInBounds_toArray, List.set_cons_zero, List.set_cons_succ]), (Below.refl _ _).drew, (fun j h => (by cases h)), BoxS.start⟩
                      · refine ⟨⟨⟨⟨⟨⟨⟨⟨⟨⟨⟨⟨⟨trivial, ?_⟩, ?_⟩, ?_⟩, ?_⟩, ?_⟩, ?_⟩, ?_⟩, ?_⟩, ?_⟩, ?_⟩, ?_⟩, ?_⟩, ?_⟩
                        · as_aux_lemma =>
                          intro f ax wx hJ hf hd K' hK
                          obtain ⟨x0, x1, x2, x3, x4, x5, x6, x7, x8, x9, x10, x11, x12, hax, hB, hp, hq⟩ := hJ
                          simp only [Act.put, List.setIfInBounds_toArray, List.set_cons_zero, List.set_cons_succ] at hax
                          subst hax
                          have HK := Lib.hid hK
                          have HP := Lib.hid hp
                          have HQ := Lib.hid hq
                          have HF := Lib.hid hf
                          clear hK hp hq hf hd
                          obtain ⟨Z26_0, Z26_1⟩ := (Z26.out.below hB Z26.out.lt).two_
                          go_simp
                          exact HK.out _ _ ⟨.agg #[.slice A26 S3.length c26, .slice A26' C3.length c26'], x1, x2, x3, x4, x5, x6, x7, x8, x9, x10, x11, x12, (by simp only [Act.put, List.setIfInBounds_toArray, List.set_cons_zero, List.set_cons_succ]), hB, stepP [x0, x1, x2, x3, x4, x5, x6, x7, x8, x9, x10, x11, x12] 0 (.agg #[.slice A26 S3.length c26, .slice A26' C3.length c26']) HP.out (by simp) rfl, HQ.out.pure (by decide) (by decide)⟩
                        · as_aux_lemma =>
                          intro f ax wx hJ hf hd K' hK
                          obtain ⟨x0, x1, x2, x3, x4, x5, x6, x7, x8, x9, x10, x11, x12, hax, hB, hp, hq⟩ := hJ
                          simp only [Act.put, List.setIfInBounds_toArray, List.set_cons_zero, List.set_cons_succ] at hax
                          subst hax
                          have HK := Lib.hid hK
                          have HP := Lib.hid hp
                          have HQ := Lib.hid hq
                          have HF := Lib.hid hf
                          clear hK hp hq hf hd
                          go_simp
                          exact HK.out _ _ ⟨x0, .slice (some ⟨b, o, none⟩) n0 cl0, x2, x3, x4, x5, x6, x7, x8, x9, x10, x11, x12, (by simp only [Act.put, List.setIfInBounds_toArray, List.set_cons_zero, List.set_cons_succ]), hB, stepP [x0, x1, x2, x3, x4, x5, x6, x7, x8, x9, x10, x11, x12] 1 (.slice (some ⟨b, o, none⟩) n0 cl0) HP.out (by simp) rfl, HQ.out.pure (by decide) (by decide)⟩
                        · as_aux_lemma =>
                          intro f ax wx hJ hf hd K' hK
                          obtain ⟨x0, x1, x2, x3, x4, x5, x6, x7, x8, x9, x10, x11, x12, hax, hB, hp, hq⟩ := hJ
                          simp only [Act.put, List.setIfInBounds_toArray, List.set_cons_zero, List.set_cons_succ] at hax
                          subst hax
                          have HK := Lib.hid hK
                          have HP := Lib.hid hp
                          have HQ := Lib.hid hq
                          have HF := Lib.hid hf
                          clear hK hp hq hf hd
                          go_simp
                          exact HK.out _ _ ⟨x0, x1, .int .i64 j, x3, x4, x5, x6, x7, x8, x9, x10, x11, x12, (by simp only [Act.put, List.setIfInBounds_toArray, List.set_cons_zero, List.set_cons_succ]), hB, stepP [x0, x1, x2, x3, x4, x5, x6, x7, x8, x9, x10, x11, x12] 2 (.int .i64 j) HP.out (by simp) rfl, HQ.out.pure (by decide) (by decide)⟩
                        · as_aux_lemma =>
                          intro f ax wx hJ hf hd K' hK
                          obtain ⟨x0, x1, x2, x3, x4, x5, x6, x7, x8, x9, x10, x11, x12, hax, hB, hp, hq⟩ := hJ
                          simp only [Act.put, List.setIfInBounds_toArray, List.set_cons_zero, List.set_cons_succ] at hax
                          subst hax
                          have HK := Lib.hid hK
                          have e1 : x1 = .slice (some ⟨b, o, none⟩) n0 cl0 := hp 1 (deps_at (k := 0) rfl rfl rfl hd)
                          subst e1
                          have e2 : x2 = .int .i64 j := hp 2 (deps_at (k := 1) rfl rfl rfl hd)
                          subst e2
                          have HP := Lib.hid hp
                          have HQ := Lib.hid hq
                          have HF := Lib.hid hf
                          clear hK hp hq hf hd
                          go_simp
                          exact HK.out _ _ ⟨x0, .slice (some ⟨b, o, none⟩) n0 cl0, .int .i64 j, .pointer (some ⟨b, o + j * 4, none⟩), x4, x5, x6, x7, x8, x9, x10, x11, x12, (by simp only [Act.put, List.setIfInBounds_toArray, List.set_cons_zero, List.set_cons_succ]), hB, stepP [x0, .slice (some ⟨b, o, none⟩) n0 cl0, .int .i64 j, x3, x4, x5, x6, x7, x8, x9, x10, x11, x12] 3 (.pointer (some ⟨b, o + j * 4, none⟩)) HP.out (by simp) rfl, HQ.out.pure (by decide) (by decide)⟩
                        · as_aux_lemma =>
                          intro f ax wx hJ hf hd K' hK
                          obtain ⟨x0, x1, x2, x3, x4, x5, x6, x7, x8, x9, x10, x11, x12, hax, hB, hp, hq⟩ := hJ
                          simp only [Act.put, List.setIfInBounds_toArray, List.set_cons_zero, List.set_cons_succ] at hax
                          subst hax
                          have HK := Lib.hid hK
                          have e3 : x3 = .pointer (some ⟨b, o + j * 4, none⟩) := hp 3 (deps_at (k := 0) rfl rfl rfl hd)
                          subst e3
                          have HP := Lib.hid hp
                          have HQ := Lib.hid hq
                          have HF := Lib.hid hf
                          clear hK hp hq hf hd
                          go_simp
                          exact HK.out _ _ ⟨x0, x1, x2, .pointer (some ⟨b, o + j * 4, none⟩), .pointer (some ⟨b, o + j * 4 + 2, none⟩), x5, x6, x7, x8, x9, x10, x11, x12, (by simp only [Act.put, List.setIfInBounds_toArray, List.set_cons_zero, List.set_cons_succ]), hB, stepP [x0, x1, x2, .pointer (some ⟨b, o + j * 4, none⟩), x4, x5, x6, x7, x8, x9, x10, x11, x12] 4 (.pointer (some ⟨b, o + j * 4 + 2, none⟩)) HP.out (by simp) rfl, HQ.out.pure (by decide) (by decide)⟩
                        · as_aux_lemma =>
                          intro f ax wx hJ hf hd K' hK
                          obtain ⟨x0, x1, x2, x3, x4, x5, x6, x7, x8, x9, x10, x11, x12, hax, hB, hp, hq⟩ := hJ
                          simp only [Act.put, List.setIfInBounds_toArray, List.set_cons_zero, List.set_cons_succ] at hax
                          subst hax
                          have HK := Lib.hid hK
                          have e4 : x4 = .pointer (some ⟨b, o + j * 4 + 2, none⟩) := hp 4 (deps_at (k := 0) rfl rfl rfl hd)
                          subst e4
                          have HP := Lib.hid hp
                          have HQ := Lib.hid hq
                          have HF := Lib.hid hf
                          clear hK hp hq hf hd
                          obtain ⟨_, CS_0, CS_1, CS_2, CS_3⟩ := CS.out.below hB
                          go_simp
                          exact HK.out _ _ ⟨x0, x1, x2, x3, .pointer (some ⟨b, o + j * 4 + 2, none⟩), .slice A2 n2 c2, x6, x7, x8, x9, x10, x11, x12, (by simp only [Act.put, List.setIfInBounds_toArray, List.set_cons_zero, List.set_cons_succ]), hB, stepP [x0, x1, x2, x3, .pointer (some ⟨b, o + j * 4 + 2, none⟩), x5, x6, x7, x8, x9, x10, x11, x12] 5 (.slice A2 n2 c2) HP.out (by simp) rfl, HQ.out.pure (by decide) (by decide)⟩
                        · as_aux_lemma =>
                          intro f ax wx hJ hf hd K' hK
                          obtain ⟨x0, x1, x2, x3, x4, x5, x6, x7, x8, x9, x10, x11, x12, hax, hB, hp, hq⟩ := hJ
                          simp only [Act.put, List.setIfInBounds_toArray, List.set_cons_zero, List.set_cons_succ] at hax
                          subst hax
                          have HK := Lib.hid hK
                          have e0 : x0 = .agg #[.slice A26 S3.length c26, .slice A26' C3.length c26'] := hp 0 (deps_at (k := 0) rfl rfl rfl hd)
                          subst e0
                          have e5 : x5 = .slice A2 n2 c2 := hp 5 (deps_at (k := 1) rfl rfl rfl hd)
                          subst e5
                          have HP := Lib.hid hp
                          have HQ := Lib.hid hq
                          have HF := Lib.hid hf
                          clear hK hp hq hf hd
                          go_simp
                          go_wp2_with (go_at_call 29; refine (CR2.out _ (Dsk.of_own (D26.out.below hB)) (FA.out.below hB)).mono ?_; rintro e w3 ⟨Ay, cy, Ay', cy', rfl, hown, hb⟩; have hown := hown.lower (Nat.le_trans B.out.size hB.size); have hsd := SM5.out)
                          exact HK.out _ _ ⟨.agg #[.slice A26 S3.length c26, .slice A26' C3.length c26'], x1, x2, x3, x4, .slice A2 n2 c2, .tuple #[diskV Ay S4.length cy Ay' 0 cy', .int .i64 0], x7, x8, x9, x10, x11, x12, (by simp only [Act.put, List.setIfInBounds_toArray, List.set_cons_zero, List.set_cons_succ]), hB.trans (hb.mono hB.size), stepB [.agg #[.slice A26 S3.length c26, .slice A26' C3.length c26'], x1, x2, x3, x4, .slice A2 n2 c2, x6, x7, x8, x9, x10, x11, x12] 6 (.tuple #[diskV Ay S4.length cy Ay' 0 cy', .int .i64 0]) hb HP.out (by simp) ⟨Ay, cy, Ay', cy', rfl, hown, hsd⟩, HQ.out.grow (by decide) (by decide) hb (fun g k => (by obtain ⟨Ay, cy, Ay', cy', q1, q2, q3⟩ := k; exact ⟨Ay, cy, Ay', cy', q1.below hb q1.lt, q2.below hb, q3⟩))⟩
                        · as_aux_lemma =>
                          intro f ax wx hJ hf hd K' hK
                          obtain ⟨x0, x1, x2, x3, x4, x5, x6, x7, x8, x9, x10, x11, x12, hax, hB, hp, hq⟩ := hJ
                          simp only [Act.put, List.setIfInBounds_toArray, List.set_cons_zero, List.set_cons_succ] at hax
                          subst hax
                          have HK := Lib.hid hK
                          obtain ⟨Ay, cy, Ay', cy', e6, f6⟩ := hp 6 (deps_at (k := 0) rfl rfl rfl hd)
                          subst e6
                          have F6 := Lib.hid f6
                          clear f6
                          have HP := Lib.hid hp
                          have HQ := Lib.hid hq
                          have HF := Lib.hid hf
                          clear hK hp hq hf hd
                          go_simp
                          exact HK.out _ _ ⟨x0, x1, x2, x3, x4, x5, .tuple #[diskV Ay S4.length cy Ay' 0 cy', .int .i64 0], .tuple #[diskV Ay S4.length cy Ay' 0 cy', .int .i64 0], x8, x9, x10, x11, x12, (by simp only [Act.put, List.setIfInBounds_toArray, List.set_cons_zero, List.set_cons_succ]), hB, stepP [x0, x1, x2, x3, x4, x5, .tuple #[diskV Ay S4.length cy Ay' 0 cy', .int .i64 0], x7, x8, x9, x10, x11, x12] 7 (.tuple #[diskV Ay S4.length cy Ay' 0 cy', .int .i64 0]) HP.out (by simp) ⟨Ay, cy, Ay', cy', rfl, F6.out⟩, HQ.out.pure (by decide) (by decide)⟩
                        · as_aux_lemma =>
                          intro f ax wx hJ hf hd K' hK
                          obtain ⟨x0, x1, x2, x3, x4, x5, x6, x7, x8, x9, x10, x11, x12, hax, hB, hp, hq⟩ := hJ
                          simp only [Act.put, List.setIfInBounds_toArray, List.set_cons_zero, List.set_cons_succ] at hax
                          subst hax
                          have HK := Lib.hid hK
                          obtain ⟨Ay, cy, Ay', cy', e7, f7⟩ := hp 7 (deps_at (k := 0) rfl rfl rfl hd)
                          subst e7
                          have F7 := Lib.hid f7
                          clear f7
                          have HP := Lib.hid hp
                          have HQ := Lib.hid hq
                          have HF := Lib.hid hf
                          clear hK hp hq hf hd
                          go_simp
                          exact HK.out _ _ ⟨x0, x1, x2, x3, x4, x5, x6, .tuple #[diskV Ay S4.length cy Ay' 0 cy', .int .i64 0], diskV Ay S4.length cy Ay' 0 cy', x9, x10, x11, x12, (by simp only [Act.put, List.setIfInBounds_toArray, List.set_cons_zero, List.set_cons_succ]), hB, stepP [x0, x1, x2, x3, x4, x5, x6, .tuple #[diskV Ay S4.length cy Ay' 0 cy', .int .i64 0], x8, x9, x10, x11, x12] 8 (diskV Ay S4.length cy Ay' 0 cy') HP.out (by simp) ⟨Ay, cy, Ay', cy', rfl, F7.out⟩, HQ.out.pure (by decide) (by decide)⟩
                        · as_aux_lemma =>
                          intro f ax wx hJ hf hd K' hK
                          obtain ⟨x0, x1, x2, x3, x4, x5, x6, x7, x8, x9, x10, x11, x12, hax, hB, hp, hq⟩ := hJ
                          simp only [Act.put, List.setIfInBounds_toArray, List.set_cons_zero, List.set_cons_succ] at hax
                          subst hax
                          have HK := Lib.hid hK
                          obtain ⟨Ay, cy, Ay', cy', e7, f7⟩ := hp 7 (deps_at (k := 0) rfl rfl rfl hd)
                          subst e7
                          have F7 := Lib.hid f7
                          clear f7
                          have HP := Lib.hid hp
                          have HQ := Lib.hid hq
                          have HF := Lib.hid hf
                          clear hK hp hq hf hd
                          go_simp
                          exact HK.out _ _ ⟨x0, x1, x2, x3, x4, x5, x6, .tuple #[diskV Ay S4.length cy Ay' 0 cy', .int .i64 0], x8, .int .i64 0, x10, x11, x12, (by simp only [Act.put, List.setIfInBounds_toArray, List.set_cons_zero, List.set_cons_succ]), hB, stepP [x0, x1, x2, x3, x4, x5, x6, .tuple #[diskV Ay S4.length cy Ay' 0 cy', .int .i64 0], x8, x9, x10, x11, x12] 9 (.int .i64 0) HP.out (by simp) rfl, HQ.out.pure (by decide) (by decide)⟩
                        · as_aux_lemma =>
                          intro f ax wx hJ hf hd K' hK
                          obtain ⟨x0, x1, x2, x3, x4, x5, x6, x7, x8, x9, x10, x11, x12, hax, hB, hp, hq⟩ := hJ
                          simp only [Act.put, List.setIfInBounds_toArray, List.set_cons_zero, List.set_cons_succ] at hax
                          subst hax
                          have HK := Lib.hid hK
                          have HP := Lib.hid hp
                          have HQ := Lib.hid hq
                          have HF := Lib.hid hf
                          clear hK hp hq hf hd
                          go_simp
                          exact HK.out _ _ ⟨x0, x1, x2, x3, x4, x5, x6, x7, x8, x9, .pointer (some ⟨wx.heap.size, 0, none⟩), x11, x12, (by simp only [Act.put, List.setIfInBounds_toArray, List.set_cons_zero, List.set_cons_succ]), hB.trans (((Below.refl _ _).alloc (Nat.le_refl _) _).mono hB.size), stepB [x0, x1, x2, x3, x4, x5, x6, x7, x8, x9, x10, x11, x12] 10 (.pointer (some ⟨wx.heap.size, 0, none⟩)) ((Below.refl _ _).alloc (Nat.le_refl _) _) HP.out (by simp) trivial, HQ.out.alloc HF.out (by decide) hB.size⟩
                        · as_aux_lemma =>
                          intro f ax wx hJ hf hd K' hK
                          obtain ⟨x0, x1, x2, x3, x4, x5, x6, x7, x8, x9, x10, x11, x12, hax, hB, hp, hq⟩ := hJ
                          simp only [Act.put, List.setIfInBounds_toArray, List.set_cons_zero, List.set_cons_succ] at hax
                          subst hax
                          have HK := Lib.hid hK
                          obtain ⟨Azz, czz, Azz', czz', e8, f8⟩ := hp 8 (deps_at (k := 1) rfl rfl rfl hd)
                          subst e8
                          have F8 := Lib.hid f8
                          clear f8
                          have qa := deps_at (k := 0) rfl rfl rfl hd
                          obtain ⟨hg, eg, lg, zg, _⟩ := hq.2 qa
                          have ZG := Lib.hid (zg hf)
                          subst eg
                          clear zg
                          have HP := Lib.hid hp
                          have HQ := Lib.hid hq
                          have HF := Lib.hid hf
                          clear hK hp hq hf hd
                          obtain ⟨z0, z1⟩ := ZG.out.two_
                          have fz := ZG.out.free
                          go_simp
                          exact HK.out _ _ ⟨x0, x1, x2, x3, x4, x5, x6, x7, diskV Azz S4.length czz Azz' 0 czz', x9, .pointer (some ⟨hg, 0, none⟩), x11, x12, (by simp only [Act.put, List.setIfInBounds_toArray, List.set_cons_zero, List.set_cons_succ]), below_two hB lg (.slice Azz S4.length czz) (.slice Azz' 0 czz'), stepT [x0, x1, x2, x3, x4, x5, x6, x7, diskV Azz S4.length czz Azz' 0 czz', x9, .pointer (some ⟨hg, 0, none⟩), x11, x12] 11 x11 HP.out (fun c _ k => c.sto (stD.two ZG.out (.slice Azz S4.length czz) (.slice Azz' 0 czz')) k) (by simp) trivial, HQ.out.store qa (by decide) (fun g e => (by cases e; exact ⟨Azz, czz, Azz', czz', ZG.out.two _ _, F8.out.1.two ZG.out _ _, F8.out.2⟩))⟩
                        · as_aux_lemma =>
                          intro f ax wx hJ hf hd K' hK
                          obtain ⟨x0, x1, x2, x3, x4, x5, x6, x7, x8, x9, x10, x11, x12, hax, hB, hp, hq⟩ := hJ
                          simp only [Act.put, List.setIfInBounds_toArray, List.set_cons_zero, List.set_cons_succ] at hax
                          subst hax
                          have HK := Lib.hid hK
                          have e9 : x9 = .int .i64 0 := hp 9 (deps_at (k := 0) rfl rfl rfl hd)
                          subst e9
                          have HP := Lib.hid hp
                          have HQ := Lib.hid hq
                          have HF := Lib.hid hf
                          clear hK hp hq hf hd
                          go_simp
                          exact HK.out _ _ ⟨x0, x1, x2, x3, x4, x5, x6, x7, x8, .int .i64 0, x10, x11, .int .i64 0, (by simp only [Act.put, List.setIfInBounds_toArray, List.set_cons_zero, List.set_cons_succ]), hB, stepP [x0, x1, x2, x3, x4, x5, x6, x7, x8, .int .i64 0, x10, x11, x12] 12 (.int .i64 0) HP.out (by simp) rfl, HQ.out.pure (by decide) (by decide)⟩
                      · as_aux_lemma =>
                        intro f ax v13 hall hJ fuel
                        obtain ⟨x0, x1, x2, x3, x4, x5, x6, x7, x8, x9, x10, x11, x12, hax, hB, hp, hq⟩ := hJ
                        simp only [Act.put, List.setIfInBounds_toArray, List.set_cons_zero, List.set_cons_succ] at hax
                        have e0 : x0 = .agg #[.slice A26 S3.length c26, .slice A26' C3.length c26'] := hp 0 (hall 0 (by decide))
                        subst e0
                        have e1 : x1 = .slice (some ⟨b, o, none⟩) n0 cl0 := hp 1 (hall 1 (by decide))
                        subst e1
                        have e2 : x2 = .int .i64 j := hp 2 (hall 2 (by decide))
                        subst e2
                        have e3 : x3 = .pointer (some ⟨b, o + j * 4, none⟩) := hp 3 (hall 3 (by decide))
                        subst e3
                        have e4 : x4 = .pointer (some ⟨b, o + j * 4 + 2, none⟩) := hp 4 (hall 4 (by decide))
                        subst e4
                        have e5 : x5 = .slice A2 n2 c2 := hp 5 (hall 5 (by decide))
                        subst e5
                        obtain ⟨Ay, cy, Ay', cy', e6, f6⟩ := hp 6 (hall 6 (by decide))
                        subst e6
                        have F6 := Lib.hid f6
                        clear f6
                        obtain ⟨Ay, cy, Ay', cy', e7, f7⟩ := hp 7 (hall 7 (by decide))
                        subst e7
                        have F7 := Lib.hid f7
                        clear f7
                        obtain ⟨Ay, cy, Ay', cy', e8, f8⟩ := hp 8 (hall 8 (by decide))
                        subst e8
                        have F8 := Lib.hid f8
                        clear f8
                        have e9 : x9 = .int .i64 0 := hp 9 (hall 9 (by decide))
                        subst e9
                        have e12 : x12 = .int .i64 0 := hp 12 (hall 12 (by decide))
                        subst e12
                        obtain ⟨hg, eg, lg, _, fg⟩ := hq.2 (hall 10 (by decide))
                        have FG := fg (hall 11 (by decide))
                        subst eg
                        subst hax
                        clear hp hq fg hall
                        refine wpAny_done (by kernel_rfl) ?_ _
  
                        dsimp only
                        obtain ⟨A28, c28, A28', c28', hz, ho, hsd⟩ := FG
                        have Z28 := Lib.hid hz
                        have D28 := Lib.hid ho
                        have S28 := Lib.hid hsd
                        have B := Lib.hid (B.out.trans (hB.mono B.out.size))
                        have X := Lib.hid (X.out.below hB X.out.lt)
                        have XD := Lib.hid (XD.out.below hB XD.out.lt)
                        have XM := Lib.hid (XM.out.below hB XM.out.lt)
                        have DQ := Lib.hid (DQ.out.below hB)
                        have CS := Lib.hid (CS.out.below hB)
                        have NA := Lib.hid (NA.out.below hB)
                        have FA := Lib.hid (FA.out.below hB)
                        have R21 := Lib.hid (R21.out.below hB)
                        have Z21 := Lib.hid (Z21.out.below hB Z21.out.lt)
                        have Z26 := Lib.hid (Z26.out.below hB Z26.out.lt)
                        have D26 := Lib.hid (D26.out.below hB)
                        clear hB lg hz ho hsd F6 F7 F8
                        clear CR2 SM5
                        clear Z26 D26 CS FA NA
                        obtain ⟨X_0, X_1, X_2, X_3, X_4, X_5⟩ := X.out.cfg
                        obtain ⟨Z28_0, Z28_1⟩ := Z28.out.two_
                        go_wp2_with fail
                        clear X_0 X_1 X_2 X_3 X_4 X_5 Z28_0 Z28_1
                        refine (P5.out A28 c28 A28' c28' _ (Dsk.of_own D28.out) S28.out).mono ?_
                        rintro e v14 ⟨A30, c30, rfl, hown, hb⟩
                        obtain ⟨hY, hk⟩ := met_box v14 bo4 a4 g4 n3 0 A30 k3 c30
                        have hb0 := hb
                        replace hb := hb.trans (hk.mono hb.size)
                        have B := Lib.hid (B.out.trans (hb.mono B.out.size))
                        have X := Lib.hid (X.out.below hb X.out.lt)
                        have XD := Lib.hid (XD.out.below hb XD.out.lt)
                        have XM := Lib.hid (XM.out.below hb XM.out.lt)
                        have DQ := Lib.hid (DQ.out.below hb)
                        have R21 := Lib.hid (R21.out.below hb)
                        have Z21 := Lib.hid (Z21.out.below hb Z21.out.lt)
                        have Z28 := Lib.hid (Z28.out.below hb Z28.out.lt)
                        have D28 := Lib.hid (D28.out.below hb)
                        have R30 := Lib.hid ((Recs.of_own hown).below hk)
                        have Z30 := Lib.hid hY
                        clear hY hk hb0
                        clear hb hown P5
                        obtain ⟨X_0, X_1, X_2, X_3, X_4, X_5⟩ := X.out.cfg
                        obtain ⟨Z28_0, Z28_1⟩ := Z28.out.two_
                        obtain ⟨Z30_0, Z30_1, Z30_2, Z30_3, Z30_4, Z30_5⟩ := Z30.out.met
                        go_wp2_with fail
                        clear X_0 X_1 X_2 X_3 X_4 X_5 Z28_0 Z28_1 Z30_0 Z30_1 Z30_2 Z30_3 Z30_4 Z30_5
                        obtain ⟨v15, hv15⟩ : ∃ y, y = v14.alloc (.cells #[.int .u32 bo4, .int .i64 a4, .int .u64 g4, .int .i64 n3, .int .i64 0, .slice A30 k3 c30] 32) := ⟨_, rfl⟩
                        rw [← hv15] at B X XD XM DQ R21 Z21 Z28 D28 R30 Z30 ⊢
                        clear hv15
                        have LB0 := Lib.hid B.out.size
                        have LM0 := Lib.hid XM.out.lt
                        refine (PB6.out A28 c28 A28' c28' S28.out A30 c30 _ (Dsk.of_own D28.out) R30.out).mono ?_
                        rintro e v16 ⟨A32, c32, A33, c33, rfl, hown, hacts, hb⟩
                        obtain ⟨hY, hk⟩ := met_box v16 (bo4+1) a4 g4 n3 0 A32 k3 c32
                        have hb0 := hb
                        replace hb := hb.trans (hk.mono hb.size)
                        have B := Lib.hid (B.out.trans (hb.mono B.out.size))
                        have X := Lib.hid (X.out.below hb X.out.lt)
                        have XD := Lib.hid (XD.out.below hb XD.out.lt)
                        have XM := Lib.hid (XM.out.below hb XM.out.lt)
                        have DQ := Lib.hid (DQ.out.below hb)
                        have R21 := Lib.hid (R21.out.below hb)
                        have Z21 := Lib.hid (Z21.out.below hb Z21.out.lt)
                        have Z28 := Lib.hid (Z28.out.below hb Z28.out.lt)
                        have D28 := Lib.hid (D28.out.below hb)
                        have R30 := Lib.hid (R30.out.below hb)
                        have Z30 := Lib.hid (Z30.out.below hb Z30.out.lt)
                        have R32 := Lib.hid ((hown.lower LB0.out).below hk)
                        have AC33 := Lib.hid ((hacts.lower LB0.out).below hk)
                        have L32 := Lib.hid (Nat.lt_of_lt_of_le LM0.out hb0.size)
                        have Z32 := Lib.hid hY
                        clear hY hk hb0
                        clear hb hown hacts PB6 LB0 LM0
                        obtain ⟨Z28_0, Z28_1⟩ := Z28.out.two_
                        go_wp2_with fail
                        clear Z28_0 Z28_1
                        obtain ⟨v17, hv17⟩ : ∃ y, y = v16.alloc (.cells #[.int .u32 (bo4+1), .int .i64 a4, .int .u64 g4, .int .i64 n3, .int .i64 0, .slice A32 k3 c32] 32) := ⟨_, rfl⟩
                        rw [← hv17] at B X XD XM DQ R21 Z21 Z28 D28 R30 Z30 R32 AC33 Z32 ⊢
                        clear hv17
                        obtain ⟨LA, hoa, hax⟩ := AC33.out.is
                        have DN5 := Lib.hid (done12_any A28 c28 A28' c28' S4 [] A33 n6 c33 _ LA l6 (n6 : Int) S5 [] _ (Dsk.of_own D28.out) S28.out hoa hax (by rw [Int.toNat_natCast]; exact HDN5.out) AC33.out.byte (by have := L6L.out; omega))
                        have D0 := Lib.hid D28.out
                        have LB0 := Lib.hid B.out.size
                        have LM0 := Lib.hid XM.out.lt
                        clear hoa hax L6L HDN5
                        refine (DN5.out).mono ?_
                        rintro e v18 ⟨A35, c35, A35', c35', rfl, hdd, hsd, hb⟩
                        clear AC33
                        have hY := Blk.new v18 25 [.slice A35 S5.length c35, .slice A35' 0 c35']
                        have hk : Below v18.heap.size v18 (v18.alloc (.cells #[.slice A35 S5.length c35, .slice A35' 0 c35'] 25)) := (Below.refl _ _).alloc (Nat.le_refl _) _
                        have hb0 := hb
                        replace hb := hb.trans (hk.mono hb.size)
                        have B := Lib.hid (B.out.trans (hb.mono B.out.size))
                        have X := Lib.hid (X.out.below hb X.out.lt)
                        have XD := Lib.hid (XD.out.below hb XD.out.lt)
                        have XM := Lib.hid (XM.out.below hb XM.out.lt)
                        have DQ := Lib.hid (DQ.out.below hb)
                        have R21 := Lib.hid (R21.out.below hb)
                        have Z21 := Lib.hid (Z21.out.below hb Z21.out.lt)
                        have Z28 := Lib.hid (Z28.out.below hb Z28.out.lt)
                        have D28 := Lib.hid (D28.out.below hb)
                        have R30 := Lib.hid (R30.out.below hb)
                        have Z30 := Lib.hid (Z30.out.below hb Z30.out.lt)
                        have R32 := Lib.hid (R32.out.below hb)
                        have Z32 := Lib.hid (Z32.out.below hb Z32.out.lt)
                        have D35 := Lib.hid ((hdd.own (D0.out.below hb0) LB0.out).below hk)
                        have S35 := Lib.hid (hsd)
                        have L35 := Lib.hid (Nat.lt_of_lt_of_le LM0.out hb0.size)
                        have Z35 := Lib.hid hY
                        clear hY hk hb0
                        clear hb DN5 D0 LB0 LM0 hdd hsd
                        have SC := Lib.hid (fun wx h1 h2 => same11_b A30 k3 c30 t3 A21 k3 c21 t3 wx h1 h2)
                        rw [decide_eq_true rfl] at SC
                        obtain ⟨hv4, hw4⟩ := VV.out
                        clear D28 Z28
                        obtain ⟨Z30_0, Z30_1, Z30_2, Z30_3, Z30_4, Z30_5⟩ := Z30.out.met
                        obtain ⟨Z21_0, Z21_1, Z21_2, Z21_3, Z21_4, Z21_5⟩ := Z21.out.met
                        obtain ⟨Z32_0, Z32_1, Z32_2, Z32_3, Z32_4, Z32_5⟩ := Z32.out.met
                        go_wp2_with fail
                        clear Z30_0 Z30_1 Z30_2 Z30_3 Z30_4 Z30_5 Z21_0 Z21_1 Z21_2 Z21_3 Z21_4 Z21_5 Z32_0 Z32_1 Z32_2 Z32_3 Z32_4 Z32_5
                        obtain ⟨v19, hv19⟩ : ∃ y, y = v18.alloc (.cells #[.slice A35 S5.length c35, .slice A35' 0 c35'] 25) := ⟨_, rfl⟩
                        rw [← hv19] at B X XD XM DQ R21 Z21 R30 Z30 R32 Z32 D35 Z35 ⊢
                        clear hv19
                        refine (SC.out _ R30.out R21.out).mono ?_
                        rintro e v20 ⟨rfl, hb⟩
                        have B := Lib.hid (B.out.trans (hb.mono B.out.size))
                        have X := Lib.hid (X.out.below hb X.out.lt)
                        have XD := Lib.hid (XD.out.below hb XD.out.lt)
                        have XM := Lib.hid (XM.out.below hb XM.out.lt)
                        have DQ := Lib.hid (DQ.out.below hb)
                        have R21 := Lib.hid (R21.out.below hb)
                        have Z21 := Lib.hid (Z21.out.below hb Z21.out.lt)
                        have R30 := Lib.hid (R30.out.below hb)
                        have Z30 := Lib.hid (Z30.out.below hb Z30.out.lt)
                        have R32 := Lib.hid (R32.out.below hb)
                        have Z32 := Lib.hid (Z32.out.below hb Z32.out.lt)
                        have D35 := Lib.hid (D35.out.below hb)
                        have Z35 := Lib.hid (Z35.out.below hb Z35.out.lt)
                        clear hb SC
                        obtain ⟨Z30_0, Z30_1, Z30_2, Z30_3, Z30_4, Z30_5⟩ := Z30.out.met
                        obtain ⟨Z21_0, Z21_1, Z21_2, Z21_3, Z21_4, Z21_5⟩ := Z21.out.met
                        obtain ⟨Z32_0, Z32_1, Z32_2, Z32_3, Z32_4, Z32_5⟩ := Z32.out.met
                        go_upto_region 37 with fail
                        clear Z30_0 Z30_1 Z30_2 Z30_3 Z30_4 Z30_5 Z21_0 Z21_1 Z21_2 Z21_3 Z21_4 Z21_5 Z32_0 Z32_1 Z32_2 Z32_3 Z32_4 Z32_5
                        clear DQ
                        clear R21
                        clear Z21
                        clear R30
                        clear Z30
                        obtain ⟨yb, hyb⟩ : ∃ y, y = v18.heap.size := ⟨_, rfl⟩
                        obtain ⟨h5, hh5⟩ : ∃ y, y = v16.heap.size := ⟨_, rfl⟩
                        rw [← hyb] at Z35 L35 ⊢
                        rw [← hh5] at Z32 L32 ⊢
                        clear hyb hh5
                        have nq1 : w2.heap.size + 1 < yb := L35.out
                        have nq2 : w2.heap.size + 1 < h5 := L32.out
                        obtain ⟨V0, hV0⟩ : ∃ y, y = v20.drew := ⟨_, rfl⟩
                        have hb : Below v20.heap.size v20 v20.drew := (Below.refl _ _).drew
                        rw [← hV0] at hb
                        have B := Lib.hid (B.out.trans (hb.mono B.out.size))
                        have X := Lib.hid (X.out.below hb X.out.lt)
                        have XD := Lib.hid (XD.out.below hb XD.out.lt)
                        have XM := Lib.hid (XM.out.below hb XM.out.lt)
                        have R32 := Lib.hid (R32.out.below hb)
                        have Z32 := Lib.hid (Z32.out.below hb Z32.out.lt)
                        have D35 := Lib.hid (D35.out.below hb)
                        have Z35 := Lib.hid (Z35.out.below hb Z35.out.lt)
                        clear hb
                        have FD1 := XD.out.two (.slice A35 S5.length c35) (.slice A35' 0 c35')
                        have FM1 := (XM.out.away (g' := w2.heap.size) (by omega) 0 (.slice A35 S5.length c35)).away (g' := w2.heap.size) (by omega) 1 (.slice A35' 0 c35')
                        have e1 := ((Z35.out.away (g' := w2.heap.size) (by omega) 0 (.slice A35 S5.length c35)).away (g' := w2.heap.size) (by omega) 1 (.slice A35' 0 c35'))
                        have e2 := ((Z32.out.away (g' := w2.heap.size) (by omega) 0 (.slice A35 S5.length c35)).away (g' := w2.heap.size) (by omega) 1 (.slice A35' 0 c35'))
                        have FX1 := (X.out.offBox XD.out (by decide) 0 (.slice A35 S5.length c35)).offBox (XD.out.set 0 _) (by decide) 1 (.slice A35' 0 c35')
                        have FO1 := D35.out.two XD.out (.slice A35 S5.length c35) (.slice A35' 0 c35')
                        have FR1 := (R32.out.boxD XD.out 0 (.slice A35 S5.length c35)).boxD (XD.out.set 0 _) 1 (.slice A35' 0 c35')
                        have FB1 := below_two B.out LW.out (.slice A35 S5.length c35) (.slice A35' 0 c35')
                        obtain ⟨V1, hV1⟩ : ∃ y, y = (V0.setCell ⟨w2.heap.size, 0, none⟩ (.slice A35 S5.length c35)).setCell ⟨w2.heap.size, 1, none⟩ (.slice A35' 0 c35') := ⟨_, rfl⟩
                        rw [← hV1] at FD1 FM1 e1 e2 FX1 FO1 FR1 FB1
                        have FD := Lib.hid (FD1.sixOff (G := w2.heap.size + 1) (by omega) (bo4+1) a4 g4 n3 0 A32 k3 c32)
                        have FM := Lib.hid (FM1.sixM (bo4+1) a4 g4 n3 0 A32 k3 c32)
                        have e3 := e1.sixOff (G := w2.heap.size + 1) (by omega) (bo4+1) a4 g4 n3 0 A32 k3 c32
                        have e4 := e2.sixOff (G := w2.heap.size + 1) (by omega) (bo4+1) a4 g4 n3 0 A32 k3 c32
                        have FX := Lib.hid (FX1.offSix FM1 (by decide) (bo4+1) a4 g4 n3 0 A32 k3 c32)
                        have FO := Lib.hid (FO1.sixM FM1 (bo4+1) a4 g4 n3 0 A32 k3 c32)
                        have FR := Lib.hid (FR1.boxSix FM1 (bo4+1) a4 g4 n3 0 A32 k3 c32)
                        have FB := Lib.hid (below_sixM FB1 (show w.heap.size ≤ w2.heap.size + 1 from Nat.le_trans LW.out (Nat.le_succ _)) (bo4+1) a4 g4 n3 0 A32 k3 c32)
                        obtain ⟨V2, hV2⟩ : ∃ y, y = (((((V1.setCell ⟨w2.heap.size + 1, 0, none⟩ (.int .u32 (bo4+1))).setCell ⟨w2.heap.size + 1, 1, none⟩ (.int .i64 a4)).setCell ⟨w2.heap.size + 1, 2, none⟩ (.int .u64 g4)).setCell ⟨w2.heap.size + 1, 3, none⟩ (.int .i64 n3)).setCell ⟨w2.heap.size + 1, 4, none⟩ (.int .i64 0)).setCell ⟨w2.heap.size + 1, 5, none⟩ (.slice A32 k3 c32) := ⟨_, rfl⟩
                        rw [← hV2] at FD FM e3 e4 FX FO FR FB
                        have keepX : ∀ wx, Blk wx yb 25 [.slice A35 S5.length c35, .slice A35' 0 c35'] → Blk wx h5 32 (metL (bo4+1) a4 g4 n3 0 A32 k3 c32) → wx.cell? ⟨yb, 0, none⟩ = some (.slice A35 S5.length c35) ∧ wx.cell? ⟨yb, 1, none⟩ = some (.slice A35' 0 c35') ∧ wx.cell? ⟨h5, 0, none⟩ = some (.int .u32 (bo4+1)) ∧ wx.cell? ⟨h5, 1, none⟩ = some (.int .i64 a4) ∧ wx.cell? ⟨h5, 2, none⟩ = some (.int .u64 g4) ∧ wx.cell? ⟨h5, 3, none⟩ = some (.int .i64 n3) ∧ wx.cell? ⟨h5, 4, none⟩ = some (.int .i64 0) ∧ wx.cell? ⟨h5, 5, none⟩ = some (.slice A32 k3 c32) := fun wx hy hz => by
                          obtain ⟨a0, a1⟩ := hy.two_
                          obtain ⟨b0, b1, b2, b3, b4, b5⟩ := hz.met
                          exact ⟨a0, a1, b0, b1, b2, b3, b4, b5⟩
                        have kx0 := Lib.hid (keepX V0 Z35.out Z32.out)
                        have kx1 := Lib.hid (keepX V1 e1 e2)
                        have kx2 := Lib.hid (keepX V2 e3 e4)
                        have XM1 := Lib.hid FM1
                        have HV0 := Lib.hid hV0
                        have HV1 := Lib.hid hV1
                        have HV2 := Lib.hid hV2
                        clear FD1 FM1 e1 e2 e3 e4 FX1 FO1 FR1 FB1 keepX nq1 nq2 hV0 hV1 hV2 Z35 Z32 D35 R32 X
                        refine wp_region_upto2 rfl 4 (fun a0 f ax wx => ∃ x0 x1 : Value, ax = ((a0.put (some 304) x0).put (some 305) x1) ∧ (f 0 = true → x0 = .agg #[.slice A35 S5.length c35, .slice A35' 0 c35']) ∧ (f 1 = true → x1 = .agg #[.int .u32 (bo4+1), .int .i64 a4, .int .u64 g4, .int .i64 n3, .int .i64 0, .slice A32 k3 c32]) ∧ (wx.cell? ⟨yb, 0, none⟩ = some (.slice A35 S5.length c35) ∧ wx.cell? ⟨yb, 1, none⟩ = some (.slice A35' 0 c35') ∧ wx.cell? ⟨h5, 0, none⟩ = some (.int .u32 (bo4+1)) ∧ wx.cell? ⟨h5, 1, none⟩ = some (.int .i64 a4) ∧ wx.cell? ⟨h5, 2, none⟩ = some (.int .u64 g4) ∧ wx.cell? ⟨h5, 3, none⟩ = some (.int .i64 n3) ∧ wx.cell? ⟨h5, 4, none⟩ = some (.int .i64 0) ∧ wx.cell? ⟨h5, 5, none⟩ = some (.slice A32 k3 c32)) ∧ (f 3 = true → f 2 = true) ∧ (f 2 = false → wx = V0) ∧ (f 2 = true → f 3 = false → wx = V1) ∧ (f 3 = true → wx = V2)) (by decide) (by kernel_rfl) ?_ ?_ ?_
                        · rw [← HV0.out]
                          exact ⟨u304, u305, (by simp only [Act.put, List.setIfInBounds_toArray, List.set_cons_zero, List.set_cons_succ]), (fun h => by cases h), (fun h => by cases h), kx0.out, (fun h => by cases h), (fun _ => rfl), (fun h => by cases h), (fun h => by cases h)⟩
                        · refine ⟨⟨⟨⟨trivial, ?_⟩, ?_⟩, ?_⟩, ?_⟩
                          · as_aux_lemma =>
                              intro f ax wx hJ hf hd K' hK
                              obtain ⟨x0, x1, hax, h0, h1, hS, h32, hw0, hw1, hw2⟩ := hJ
                              simp only [Act.put, List.setIfInBounds_toArray, List.set_cons_zero, List.set_cons_succ] at hax
                              subst hax
                              have HK := Lib.hid hK
                              have HS := Lib.hid hS
                              have H0 := Lib.hid h0
                              have H1 := Lib.hid h1
                              have H3 := Lib.hid (And.intro h32 (And.intro hw0 (And.intro hw1 hw2)))
                              clear hK hS h0 h1 h32 hw0 hw1 hw2 hf hd
                              obtain ⟨a0, a1, b0, b1, b2, b3, b4, b5⟩ := HS.out
                              go_simp
                              exact HK.out _ _ ⟨.agg #[.slice A35 S5.length c35, .slice A35' 0 c35'], x1, (by simp only [Act.put, List.setIfInBounds_toArray, List.set_cons_zero, List.set_cons_succ]), (fun _ => rfl), (fun h => H1.out (more_of (by decide) h)), HS.out, (fun h => keep_of (H3.out.1 (more_of (by decide) h))), (fun h => H3.out.2.1 (less_of (by decide) h)), (fun h g => H3.out.2.2.1 (more_of (by decide) h) (less_of (by decide) g)), (fun h => H3.out.2.2.2 (more_of (by decide) h))⟩
                          · as_aux_lemma =>
                              intro f ax wx hJ hf hd K' hK
                              obtain ⟨x0, x1, hax, h0, h1, hS, h32, hw0, hw1, hw2⟩ := hJ
                              simp only [Act.put, List.setIfInBounds_toArray, List.set_cons_zero, List.set_cons_succ] at hax
                              subst hax
                              have HK := Lib.hid hK
                              have HS := Lib.hid hS
                              have H0 := Lib.hid h0
                              have H1 := Lib.hid h1
                              have H3 := Lib.hid (And.intro h32 (And.intro hw0 (And.intro hw1 hw2)))
                              clear hK hS h0 h1 h32 hw0 hw1 hw2 hf hd
                              obtain ⟨a0, a1, b0, b1, b2, b3, b4, b5⟩ := HS.out
                              go_simp
                              exact HK.out _ _ ⟨x0, .agg #[.int .u32 (bo4+1), .int .i64 a4, .int .u64 g4, .int .i64 n3, .int .i64 0, .slice A32 k3 c32], (by simp only [Act.put, List.setIfInBounds_toArray, List.set_cons_zero, List.set_cons_succ]), (fun h => H0.out (more_of (by decide) h)), (fun _ => rfl), HS.out, (fun h => keep_of (H3.out.1 (more_of (by decide) h))), (fun h => H3.out.2.1 (less_of (by decide) h)), (fun h g => H3.out.2.2.1 (more_of (by decide) h) (less_of (by decide) g)), (fun h => H3.out.2.2.2 (more_of (by decide) h))⟩
                          · as_aux_lemma =>
                              intro f ax wx hJ hf hd K' hK
                              obtain ⟨x0, x1, hax, h0, h1, hS, h32, hw0, hw1, hw2⟩ := hJ
                              simp only [Act.put, List.setIfInBounds_toArray, List.set_cons_zero, List.set_cons_succ] at hax
                              subst hax
                              have HK := Lib.hid hK
                              have e0 : x0 = .agg #[.slice A35 S5.length c35, .slice A35' 0 c35'] := h0 (deps_at (k := 0) rfl rfl rfl hd)
                              subst e0
                              have ew : wx = V0 := hw0 hf
                              subst ew
                              have hf3 : f 3 = false := by
                                cases h : f 3
                                · rfl
                                · rw [h32 h] at hf
                                  cases hf
                              have H1 := Lib.hid h1
                              have F3 := Lib.hid hf3
                              obtain ⟨z0, z1⟩ := XD.out.two_
                              have fz := XD.out.free
                              clear hK hS h0 h1 h32 hw0 hw1 hw2 hf hd hf3
                              go_simp
                              rw [← HV1.out]
                              exact HK.out _ _ ⟨.agg #[.slice A35 S5.length c35, .slice A35' 0 c35'], x1, (by simp only [Act.put, List.setIfInBounds_toArray, List.set_cons_zero, List.set_cons_succ]), (fun _ => rfl), (fun h => H1.out (more_of (by decide) h)), kx1.out, (fun _ => rfl), (fun h => by simp at h), (fun _ _ => rfl), (fun h => by have h := more_of (by decide) h; rw [F3.out] at h; cases h)⟩
                          · as_aux_lemma =>
                              intro f ax wx hJ hf hd K' hK
                              obtain ⟨x0, x1, hax, h0, h1, hS, h32, hw0, hw1, hw2⟩ := hJ
                              simp only [Act.put, List.setIfInBounds_toArray, List.set_cons_zero, List.set_cons_succ] at hax
                              subst hax
                              have HK := Lib.hid hK
                              have q2 : f 2 = true := deps_at (k := 1) rfl rfl rfl hd
                              have e1 : x1 = .agg #[.int .u32 (bo4+1), .int .i64 a4, .int .u64 g4, .int .i64 n3, .int .i64 0, .slice A32 k3 c32] := h1 (deps_at (k := 0) rfl rfl rfl hd)
                              subst e1
                              have ew : wx = V1 := hw1 q2 hf
                              subst ew
                              have H0 := Lib.hid h0
                              have F2 := Lib.hid q2
                              obtain ⟨z0, z1, z2, z3, z4, z5⟩ := XM1.out.met
                              have fz := XM1.out.free
                              clear hK hS h0 h1 h32 hw0 hw1 hw2 hf hd q2
                              go_simp
                              rw [← HV2.out]
                              exact HK.out _ _ ⟨x0, .agg #[.int .u32 (bo4+1), .int .i64 a4, .int .u64 g4, .int .i64 n3, .int .i64 0, .slice A32 k3 c32], (by simp only [Act.put, List.setIfInBounds_toArray, List.set_cons_zero, List.set_cons_succ]), (fun h => H0.out (more_of (by decide) h)), (fun _ => rfl), kx2.out, (fun _ => keep_of F2.out), (fun h => by have h := less_of (by decide) h; rw [F2.out] at h; cases h), (fun _ h => by simp at h), (fun _ => rfl)⟩
                        · as_aux_lemma =>
                          intro f ax wx hall hJ fuel
                          obtain ⟨x0, x1, hax, h0, h1, hS, h32, hw0, hw1, hw2⟩ := hJ
                          simp only [Act.put, List.setIfInBounds_toArray, List.set_cons_zero, List.set_cons_succ] at hax
                          have e0 := h0 (hall 0 (by decide))
                          have e1 := h1 (hall 1 (by decide))
                          have e2 : wx = V2 := hw2 (hall 3 (by decide))
                          subst e0
                          subst e1
                          subst e2
                          subst hax
                          clear hall hS h32 h0 h1 hw0 hw1 hw2 kx0 kx1 kx2 XM1 HV0 HV1 XD XM B
                          refine wpAny_done (by kernel_rfl) ?_ _
                          clear hv4 hw4
                          go_wp2
                          go_roundw
                          case rel => exact ⟨⟨j + 1, S5, A35, c35, A35', c35', A32, c32, ⟨((bo4+1), a4, g4), n3, 0, t3⟩, by omega, by go_num, FD.out, (by rw [← HK3.out]; exact FM.out), FO.out, S35.out, (by rw [← HK3.out]; exact FR.out), (by rw [HJ1.out]; exact HI5.out), FB.out, LW.out, rfl⟩, FX.out⟩
                          all_goals (try case measure => simp [intOf]; omega)
      · as_aux_lemma =>
        have hji : ¬ (j : Int) < (n0 : Int) := by omega
        have P1 := Lib.hid (PO.out S D d D' d')
        rw [HI.out.R.seen.1, HI.out.R.seen.2] at P1
        dsimp only at P1
        rw [← HKT.out] at P1
        clear PO HI KT HKT H20 g20 hj hjn
        obtain ⟨X_0, X_1, X_2, X_3, X_4, X_5⟩ := X.out.cfg
        obtain ⟨XD_0, XD_1⟩ := XD.out.two_
        go_wp2_with fail
        clear X_0 X_1 X_2 X_3 X_4 X_5 XD_0 XD_1
        refine (P1.out _ (Dsk.of_own DQ.out) SM.out).mono ?_
        rintro e v3 ⟨A37, c37, rfl, hown, hb⟩
        obtain ⟨hY, hk⟩ := met_box v3 v a g n 0 A37 kt c37
        have hb0 := hb
        replace hb := hb.trans (hk.mono hb.size)
        have B := Lib.hid (B.out.trans (hb.mono B.out.size))
        have X := Lib.hid (X.out.below hb X.out.lt)
        have XD := Lib.hid (XD.out.below hb XD.out.lt)
        have XM := Lib.hid (XM.out.below hb XM.out.lt)
        have DQ := Lib.hid (DQ.out.below hb)
        have RM := Lib.hid (RM.out.below hb)
        have R37 := Lib.hid ((Recs.of_own hown).below hk)
        have Z37 := Lib.hid hY
        clear hY hk hb0
        clear hb hown P1
        have SC := Lib.hid (fun wx h1 h2 => same11_b A37 kt c37 t Bm kt cm t wx h1 h2)
        rw [decide_eq_true rfl] at SC
        obtain ⟨Z37_0, Z37_1, Z37_2, Z37_3, Z37_4, Z37_5⟩ := Z37.out.met
        obtain ⟨XM_0, XM_1, XM_2, XM_3, XM_4, XM_5⟩ := XM.out.met
        go_wp2_with fail
        clear Z37_0 Z37_1 Z37_2 Z37_3 Z37_4 Z37_5 XM_0 XM_1 XM_2 XM_3 XM_4 XM_5
        obtain ⟨v4, hv4⟩ : ∃ y, y = v3.alloc (.cells #[.int .u32 v, .int .i64 a, .int .u64 g, .int .i64 n, .int .i64 0, .slice A37 kt c37] 32) := ⟨_, rfl⟩
        rw [← hv4] at B X XD XM DQ RM R37 Z37 ⊢
        clear hv4
        refine (SC.out _ R37.out (Recs.of_own RM.out)).mono ?_
        rintro e v5 ⟨rfl, hb⟩
        have B := Lib.hid (B.out.trans (hb.mono B.out.size))
        have X := Lib.hid (X.out.below hb X.out.lt)
        have XD := Lib.hid (XD.out.below hb XD.out.lt)
        have XM := Lib.hid (XM.out.below hb XM.out.lt)
        have DQ := Lib.hid (DQ.out.below hb)
        have RM := Lib.hid (RM.out.below hb)
        have R37 := Lib.hid (R37.out.below hb)
        have Z37 := Lib.hid (Z37.out.below hb Z37.out.lt)
        clear hb SC
        obtain ⟨Z37_0, Z37_1, Z37_2, Z37_3, Z37_4, Z37_5⟩ := Z37.out.met
        obtain ⟨XM_0, XM_1, XM_2, XM_3, XM_4, XM_5⟩ := XM.out.met
        have ES := fun (wx : World) => eq_same v a g wx
        go_wp2
        go_ret
        exact ⟨rfl, B.out⟩
end Go.Proofs.YtifgcfepbenpjaaGreat
