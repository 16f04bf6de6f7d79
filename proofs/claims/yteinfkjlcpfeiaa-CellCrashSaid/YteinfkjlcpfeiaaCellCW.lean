/- Layer 6, CellCrash: the walk. -/
import Derived.Test.YteinfkjlcpfeiaaCellCs
import Derived.Test.YteinfkjlcpfeiaaCellA4
namespace Go.Proofs.Yteinfkjlcpfeiaa
open Go.RowKit
set_option linter.unusedVariables false

theorem wrap64_smallC {x : Int} (h0 : 0 ≤ x) (h1 : x ≤ 1000) : wrap64 x = x := by unfold wrap64; omega

set_option maxRecDepth 100000 in
set_option maxHeartbeats 25600000 in
theorem ccrash_of (a0 : Option Addr) (len0 cap0 : Nat) (b0 : Option Addr) (len1 cap1 : Nat) (S : List Sec) (C : List Pnd) (at_ : Int) (a2 : Option Addr) (len2 cap2 : Nat) (z2 : List Int) (wd many : Int) (a5 : Option Addr) (len5 cap5 : Nat) (z5 : List Int) (w : World) (w0 : Dsk w a0 len0 cap0 b0 len1 cap1 S C) (w2 : IsRow .u8 w a2 len2 cap2 z2) (w5 : IsRow .u8 w a5 len5 cap5 z5) :
    Calls Try.prog 12 #[diskV a0 len0 cap0 b0 len1 cap1, .int .i64 at_, .slice a2 len2 cap2, .int .i64 wd, .int .i64 many, .slice a5 len5 cap5] w fun e w' => e = .returned (.bool true) ∧ Below w.heap.size w w' := by
  obtain ⟨b, hb, hbw⟩ := w2.arg
  obtain ⟨F, hF, hFw⟩ := w5.arg
  have BY8 := Lib.hid (fun z hz => wf_byte (hbw z hz) : ∀ z ∈ b, isByte z)
  have FY8 := Lib.hid (fun z hz => wf_byte (hFw z hz) : ∀ z ∈ F, isByte z)
  have hbel : Below w.heap.size w (w.alloc (.cells #[.slice a0 len0 cap0, .slice b0 len1 cap1] 25)) := (Below.refl _ _).alloc (Nat.le_refl _) _
  have XQ := Lib.hid (DBox.new w0)
  have RB := Lib.hid hb
  have RF := Lib.hid hF
  have B := Lib.hid hbel
  have HSB := Lib.hid w0.secs.byte
  have HCB := Lib.hid w0.pnds.byte
  have hcl := w0.pnds.len
  have hsl := w0.secs.len
  have gg := fun w hx => great_any a0 len0 cap0 b0 len1 cap1 S C 60 w hx
  obtain ⟨c0, c1⟩ := XQ.out.cells
  have hbl := hb.len
  have hbc := Nat.le_trans hb.cap hb.max
  have hFl := hF.len
  have hFc := Nat.le_trans hF.cap hF.max
  unfold maxLen at hbc hFc
  clear w0 w2 w5 hb hbw hF hFw hbel
  cases hg1 : greatD S C 60 with
  | true =>
    rw [hg1] at gg
    have GG := Lib.hid gg
    clear gg hg1 hbl hcl hFl hsl
    go_enter Try.func12, Try.ntmps12
    go_wp2_with fail
    refine (alive_cell _).mono ?_
    rintro e wa ⟨rfl, hb1⟩
    have B := Lib.hid (B.out.trans (hb1.mono B.out.size))
    have XQ := Lib.hid (XQ.out.below hb1)
    clear hb1 c0 c1
    obtain ⟨c0, c1⟩ := XQ.out.cells
    have G1 := Lib.hid (GG.out wa XQ.out.dsk)
    go_wp2_with fail
    refine G1.out.mono ?_
    rintro e wb ⟨rfl, hb3⟩
    have B := Lib.hid (B.out.trans (hb3.mono B.out.size))
    have XQ := Lib.hid (XQ.out.below hb3)
    clear hb3 c0 c1
    obtain ⟨c0, c1⟩ := XQ.out.cells
    clear G1 GG
    go_wp2
    go_ret
    exact ⟨rfl, B.out⟩
  | false =>
    rw [hg1] at gg
    have GG := Lib.hid gg
    have SZ := Lib.hid (small_ofD (by decide) (by decide) hg1)
    clear gg hg1
    by_cases hl1 : 200 < len2
    · have hl2 : (200 : Int) < (len2 : Int) := by omega
      clear hbl hl1 hcl hFl hsl
      go_enter Try.func12, Try.ntmps12
      go_wp2_with fail
      refine (alive_cell _).mono ?_
      rintro e wa ⟨rfl, hb1⟩
      have B := Lib.hid (B.out.trans (hb1.mono B.out.size))
      have XQ := Lib.hid (XQ.out.below hb1)
      clear hb1 c0 c1
      obtain ⟨c0, c1⟩ := XQ.out.cells
      have G1 := Lib.hid (GG.out wa XQ.out.dsk)
      go_wp2_with fail
      refine G1.out.mono ?_
      rintro e wb ⟨rfl, hb3⟩
      have B := Lib.hid (B.out.trans (hb3.mono B.out.size))
      have XQ := Lib.hid (XQ.out.below hb3)
      clear hb3 c0 c1
      obtain ⟨c0, c1⟩ := XQ.out.cells
      clear G1 GG
      go_wp2
      go_ret
      exact ⟨rfl, B.out⟩
    · have hl2 : ¬ (200 : Int) < (len2 : Int) := by omega
      by_cases hl3 : 200 < len5
      · have hl4 : (200 : Int) < (len5 : Int) := by omega
        clear hbl hl1 hl3 hcl hFl hsl
        go_enter Try.func12, Try.ntmps12
        go_wp2_with fail
        refine (alive_cell _).mono ?_
        rintro e wa ⟨rfl, hb1⟩
        have B := Lib.hid (B.out.trans (hb1.mono B.out.size))
        have XQ := Lib.hid (XQ.out.below hb1)
        clear hb1 c0 c1
        obtain ⟨c0, c1⟩ := XQ.out.cells
        have G1 := Lib.hid (GG.out wa XQ.out.dsk)
        go_wp2_with fail
        refine G1.out.mono ?_
        rintro e wb ⟨rfl, hb3⟩
        have B := Lib.hid (B.out.trans (hb3.mono B.out.size))
        have XQ := Lib.hid (XQ.out.below hb3)
        clear hb3 c0 c1
        obtain ⟨c0, c1⟩ := XQ.out.cells
        clear G1 GG
        go_wp2
        go_ret
        exact ⟨rfl, B.out⟩
      · have hl4 : ¬ (200 : Int) < (len5 : Int) := by omega
        have RD := Lib.hid (fun wx hx => cread_any a0 len0 cap0 b0 len1 cap1 S C at_ wd wx hx SZ.out)
        have PL := Lib.hid (fun wx hx (hr : Arg wx .u8 a2 len2 cap2 b) => plan_any a0 len0 cap0 b0 len1 cap1 S C at_ wd a2 len2 cap2 b wx hx SZ.out hr BY8.out (by omega))
        by_cases hE : cpE S C at_ wd b = 0
        · obtain ⟨hcE, h24, _, _⟩ := cpE_zero hE
          have CT := Lib.hid (fun k (hk : k ≤ wd.toNat) (h64 : C.length + k ≤ 64) (a m : Nat) (ea : at_ = a) (em : wd = m) => crash_tells (S := S) (C := C) (a := a) (m := m) (b := b) (by rw [← ea, ← em]; exact hE) BY8.out HSB.out HCB.out (k := k) (by omega) h64 F)
          obtain ⟨hLl, hm1, hm4, hmay, hgood⟩ := cpL_good hE BY8.out
          obtain ⟨_, a, m, rfl, rfl, _, _, han⟩ := cellE_zero hcE
          rw [Int.toNat_natCast] at hLl hm1 hm4
          have CT := Lib.hid (fun k hk h64 => CT.out k (by rw [Int.toNat_natCast]; exact hk) h64 a m rfl rfl)
          rw [hE] at PL
          obtain ⟨RL, hRL⟩ : ∃ L, L = cpL S C a m b := ⟨_, rfl⟩
          rw [← hRL] at CT hLl hgood PL
          obtain ⟨v1, hv1⟩ : ∃ v, v = crV S C a m := ⟨_, rfl⟩
          obtain ⟨E1, hE1⟩ : ∃ v, v = crE S C a m := ⟨_, rfl⟩
          obtain ⟨bW, hbW⟩ : ∃ v, v = crB S C a m := ⟨_, rfl⟩
          rw [← hv1, ← hE1, ← hbW] at RD CT
          have HG := Lib.hid hgood
          have HMAY := Lib.hid hmay
          have HRL := Lib.hid hLl
          have HM1 := Lib.hid hm1
          have HM4 := Lib.hid hm4
          have HCL := Lib.hid hcl
          have HSL := Lib.hid hsl
          have hc64 : C.length ≤ 64 := ((mayD_iff _ _).1 hmay).1.2.2
          have HC64 := Lib.hid hc64
          have hF200 : F.length ≤ 200 := by omega
          have HF200 := Lib.hid hF200
          have HSZ := Lib.hid SZ.out.secs
          have ha100 : a ≤ 100 := by have := SZ.out.secs; omega
          have HA := Lib.hid ha100
          clear hE hcE h24 hLl hm1 hm4 hmay hgood han hRL hv1 hE1 hbW hbl hl1 hl3 hcl hsl hFl hc64 hF200 ha100
          go_enter Try.func12, Try.ntmps12
          go_wp2_with fail
          refine (alive_cell _).mono ?_
          rintro e wa ⟨rfl, hb1⟩
          have B := Lib.hid (B.out.trans (hb1.mono B.out.size))
          have XQ := Lib.hid (XQ.out.below hb1)
          clear hb1 c0 c1
          obtain ⟨c0, c1⟩ := XQ.out.cells
          have G1 := Lib.hid (GG.out wa XQ.out.dsk)
          go_wp2_with fail
          refine G1.out.mono ?_
          rintro e wb ⟨rfl, hb3⟩
          have B := Lib.hid (B.out.trans (hb3.mono B.out.size))
          have XQ := Lib.hid (XQ.out.below hb3)
          clear hb3 c0 c1
          obtain ⟨c0, c1⟩ := XQ.out.cells
          clear G1 GG
          go_wp2_with fail
          refine (RD.out wb XQ.out.dsk).mono ?_
          rintro e wc ⟨AR, cR, rfl, hown, hb1⟩
          have OW := Lib.hid (owns_base (base' := w.heap.size) hown B.out.size)
          have B := Lib.hid (B.out.trans (hb1.mono B.out.size))
          have XQ := Lib.hid (XQ.out.below hb1)
          clear hb1 c0 c1
          obtain ⟨c0, c1⟩ := XQ.out.cells
          clear hown RD
          go_wp2_with fail
          refine (PL.out wc XQ.out.dsk (RB.out.below B.out)).mono ?_
          rintro e we ⟨Al, cl, rfl, hown, hb1⟩
          rw [HRL.out] at hown ⊢
          have OP := Lib.hid (hown.lower B.out.size)
          have OW := Lib.hid (owns_below OW.out hb1)
          have B := Lib.hid (B.out.trans (hb1.mono B.out.size))
          have XQ := Lib.hid (XQ.out.below hb1)
          clear hb1 c0 c1
          obtain ⟨c0, c1⟩ := XQ.out.cells
          clear hown PL
          clear c0 c1
          go_wp2
          go_loopw [19] (fun i wr => ∃ (k : Nat) (A1 : Option Addr) (c1 : Nat) (A1' : Option Addr) (c1' : Nat), k ≤ m ∧ (k = 0 ∨ (k : Int) ≤ many) ∧ i = .int .i64 k ∧ Blk wr w.heap.size 25 [.slice A1 len0 c1, .slice A1' (len1 + k) c1'] ∧ Dsk wr A1 len0 c1 A1' (len1 + k) c1' S (C ++ RL.take k) ∧ (k = 0 ∨ OwnDsk wr w.heap.size A1 len0 c1 A1' (len1 + k) c1' S (C ++ RL.take k)) ∧ OwnPnds wr w.heap.size Al m cl RL ∧ wr.ownsRow w.heap.size 5 1 (.slice AR bW.length cR) bW.length (ints .u8 bW) ∧ Below w.heap.size w wr ∧ C.length + k ≤ 64) (fun i _ => m - (intOf i).toNat)
          case atStart => exact ⟨0, a0, cap0, b0, cap1, Nat.zero_le _, .inl rfl, rfl, XQ.out.blk, by rw [List.take_zero, List.append_nil]; exact XQ.out.dsk, .inl rfl, OP.out, OW.out, B.out, HC64.out⟩
          case round =>
            obtain ⟨k, A1, c1, A1', c1', hk, hkm, rfl, hx, hd, hod, hol, how, hbw, h64⟩ := hrel
            have hm4 := HM4.out
            by_cases hgo : (k : Int) < many ∧ k < m
            · obtain ⟨hgo1, hgo2⟩ := hgo
              have hgo3 : (k : Int) < (m : Int) := by omega
              have hkR : k < RL.length := by rw [HRL.out]; exact hgo2
              obtain ⟨bk, ok, Ak, nk, ck, eA, hlt, hcs, hci, hak⟩ := (Pnds.of_own hol).at_ k hgo2
              subst eA
              have hnext := wr_next HMAY.out HG.out hkR h64
              have hgk := HG.out (RL.getD k (0, [])) (by rw [List.getD_eq_getElem?_getD, List.getElem?_eq_getElem hkR]; exact List.getElem_mem hkR)
              have hns := fun h => wr_nextS (S := S) (C := C) hkR h
              have hsm := small_more SZ.out HG.out h64
              obtain ⟨pk, hpk⟩ : ∃ p, p = RL.getD k (0, []) := ⟨_, rfl⟩
              rw [← hpk] at hci hak hnext hgk hns
              obtain ⟨pa, Tk⟩ := pk
              dsimp only at hci hak hnext hgk hns
              have WR := Lib.hid (fun wX (hbA : Below wr.heap.size wr wX) => dsk_does.write A1 len0 c1 A1' (len1 + k) c1' S (C ++ RL.take k) pa Ak nk ck Tk wX (hd.below hbA) hsm (hak.below hbA) hgk.2 (by rw [hgk.1.2.2]; decide))
              have X := Lib.hid hx
              have OL := Lib.hid hol
              have OW := Lib.hid how
              have B := Lib.hid hbw
              have H64 := Lib.hid h64
              have HKM := Lib.hid (⟨hgo1, hgo2, hk⟩ : _ ∧ _ ∧ _)
              have HNE := Lib.hid hnext
              have HNS := Lib.hid hns
              skip
              obtain ⟨q0, q1⟩ : wr.cell? ⟨w.heap.size, 0, none⟩ = some (.slice A1 len0 c1) ∧ wr.cell? ⟨w.heap.size, 1, none⟩ = some (.slice A1' (len1 + k) c1') := ⟨hx.cell 0, hx.cell 1⟩
              have hlt0 := hx.lt
              clear hx hd hod hol how hbw h64 hnext hgk hns hsm hpk hak hkR hk hkm
              go_upto_region 11 with fail
              have hcur : Below wr.heap.size wr wr.drew := below_drewN (Below.refl _ _) 1
              have keepX : ∀ wx, Below wr.heap.size wr wx → wx.cell? ⟨w.heap.size, 0, none⟩ = some (.slice A1 len0 c1) ∧ wx.cell? ⟨w.heap.size, 1, none⟩ = some (.slice A1' (len1 + k) c1') ∧ wx.cell? ⟨bk, ok + k * 2, none⟩ = some (.int .i64 pa) ∧ wx.cell? ⟨bk, ok + k * 2 + 1, none⟩ = some (.slice Ak nk ck) := fun wx hx => ⟨(hx.cell (p := ⟨w.heap.size, 0, none⟩) hlt0).trans q0, (hx.cell (p := ⟨w.heap.size, 1, none⟩) hlt0).trans q1, (hx.cell (p := ⟨bk, ok + k * 2, none⟩) hlt).trans hci, (hx.cell (p := ⟨bk, ok + k * 2 + 1, none⟩) hlt).trans hcs⟩
              have hHeld := keepX _ hcur
              by_cases hf : 64 ≤ C.length + k
              · have hE9 : wrE S (C ++ RL.take k) pa Tk = 9 := HNE.out.trans (if_pos hf)
                refine wp_region_to 17 (fun w' => w'.cell? ⟨w.heap.size, 0, none⟩ = some (.slice A1 len0 c1) ∧ w'.cell? ⟨w.heap.size, 1, none⟩ = some (.slice A1' (len1 + k) c1') ∧ w'.cell? ⟨bk, ok + k * 2, none⟩ = some (.int .i64 pa) ∧ w'.cell? ⟨bk, ok + k * 2 + 1, none⟩ = some (.slice Ak nk ck)) (by kernel_rfl) ?_
                refine wpAnyG_take1 (i := 0) (v := ?_) rfl (by kernel_rfl) (by kernel_rfl) (by kernel_rfl) (by kernel_rfl) (by kernel_rfl) rfl (fun _ _ _ h => h) (Or.inl ⟨by rfl, ?_⟩) hHeld ?_
                rotate_left
                · (intro w' hSw; (try dsimp only at hSw); go_simp; (try with_reducible rfl))
                simp only [Act.put, List.setIfInBounds_toArray]
                refine wpAnyG_take1 (i := 1) (v := ?_) rfl (by kernel_rfl) (by kernel_rfl) (by kernel_rfl) (by kernel_rfl) (by kernel_rfl) rfl (fun _ _ _ h => h) (Or.inl ⟨by rfl, ?_⟩) hHeld ?_
                rotate_left
                · (intro w' hSw; (try dsimp only at hSw); go_simp; (try with_reducible rfl))
                simp only [Act.put]
                refine wpAnyG_take1 (i := 2) (v := ?_) rfl (by kernel_rfl) (by kernel_rfl) (by kernel_rfl) (by kernel_rfl) (by kernel_rfl) rfl (fun _ _ _ h => h) (Or.inl ⟨by rfl, ?_⟩) hHeld ?_
                rotate_left
                · (intro w' hSw; (try dsimp only at hSw); go_simp; (try with_reducible rfl))
                simp only [Act.put]
                refine wpAnyG_take1 (i := 3) (v := ?_) rfl (by kernel_rfl) (by kernel_rfl) (by kernel_rfl) (by kernel_rfl) (by kernel_rfl) rfl (fun _ _ _ h => h) (Or.inl ⟨by rfl, ?_⟩) hHeld ?_
                rotate_left
                · (intro w' hSw; (try dsimp only at hSw); go_simp; (try with_reducible rfl))
                simp only [Act.put]
                refine wpAnyG_take1 (i := 4) (v := ?_) rfl (by kernel_rfl) (by kernel_rfl) (by kernel_rfl) (by kernel_rfl) (by kernel_rfl) rfl (fun _ _ _ h => h) (Or.inl ⟨by rfl, ?_⟩) hHeld ?_
                rotate_left
                · (intro w' hSw; (try dsimp only at hSw); go_simp; (try with_reducible rfl))
                simp only [Act.put]
                refine wpAnyG_take1 (i := 5) (v := ?_) rfl (by kernel_rfl) (by kernel_rfl) (by kernel_rfl) (by kernel_rfl) (by kernel_rfl) rfl (fun _ _ _ h => h) (Or.inl ⟨by rfl, ?_⟩) hHeld ?_
                rotate_left
                · (intro w' hSw; (try dsimp only at hSw); go_simp; (try with_reducible rfl))
                simp only [Act.put]
                refine wpAnyG_take1 (i := 6) (v := ?_) rfl (by kernel_rfl) (by kernel_rfl) (by kernel_rfl) (by kernel_rfl) (by kernel_rfl) rfl (fun _ _ _ h => h) (Or.inl ⟨by rfl, ?_⟩) hHeld ?_
                rotate_left
                · (intro w' hSw; (try dsimp only at hSw); go_simp; (try with_reducible rfl))
                simp only [Act.put]
                refine wpAnyG_take1 (i := 7) (v := ?_) rfl (by kernel_rfl) (by kernel_rfl) (by kernel_rfl) (by kernel_rfl) (by kernel_rfl) rfl (fun _ _ _ h => h) (Or.inl ⟨by rfl, ?_⟩) hHeld ?_
                rotate_left
                · (intro w' hSw; (try dsimp only at hSw); go_simp; (try with_reducible rfl))
                simp only [Act.put]
                refine wpAnyG_take1 (i := 8) (v := ?_) rfl (by kernel_rfl) (by kernel_rfl) (by kernel_rfl) (by kernel_rfl) (by kernel_rfl) rfl (fun _ _ _ h => h) (Or.inl ⟨by rfl, ?_⟩) hHeld ?_
                rotate_left
                · (intro w' hSw; (try dsimp only at hSw); go_simp; (try with_reducible rfl))
                simp only [Act.put]
                refine wpAnyG_take1 (i := 9) (v := ?_) rfl (by kernel_rfl) (by kernel_rfl) (by kernel_rfl) (by kernel_rfl) (by kernel_rfl) rfl (fun _ _ _ h => h) (Or.inl ⟨by rfl, ?_⟩) hHeld ?_
                rotate_left
                · (intro w' hSw; (try dsimp only at hSw); go_simp; (try with_reducible rfl))
                simp only [Act.put]
                refine wpAnyG_take1 (i := 10) (v := ?_) rfl (by kernel_rfl) (by kernel_rfl) (by kernel_rfl) (by kernel_rfl) (by kernel_rfl) rfl (fun _ _ _ h => h) (Or.inl ⟨by rfl, ?_⟩) hHeld ?_
                rotate_left
                · (intro w' hSw; (try dsimp only at hSw); go_simp; (try with_reducible rfl))
                simp only [Act.put]
                refine wpAnyG_two (i := 11) (j := 15) (by kernel_rfl) rfl rfl (fun K hK => ?_) (fun K hK => ?_)
                · go_simp
                  go_at_call 16
                  refine (WR.out _ hcur).mono ?_
                  intro e w4 hout
                  obtain ⟨A9, c9, A9', c9', rfl, hown, hb4⟩ := DiskOut.as hout (S' := []) (C' := []) (E' := 9) (n := 0) (n' := 0) (if_neg (by rw [hE9]; decide)) (if_neg (by rw [hE9]; decide)) hE9 rfl rfl
                  have hcur := hcur.trans (hb4.mono hcur.size)
                  refine hK.out _ _ (fun _ => keepX _ hcur) (fun hHeld => ?_)
                  have hHeld := hHeld (by decide)
                  clear hK K
                  try simp only [Act.put, List.setIfInBounds_toArray, List.set_cons_zero, List.set_cons_succ]
                  refine wpAnyG_take1 (i := 12) (v := ?_) rfl (by kernel_rfl) (by kernel_rfl) (by kernel_rfl) (by kernel_rfl) (by kernel_rfl) rfl (fun _ _ _ h => h) (Or.inl ⟨by rfl, ?_⟩) hHeld ?_
                  rotate_left
                  · (intro w' hSw; (try dsimp only at hSw); go_simp; (try with_reducible rfl))
                  simp only [Act.put, List.setIfInBounds_toArray]
                  refine wpAnyG_take1 (i := 13) (v := ?_) rfl (by kernel_rfl) (by kernel_rfl) (by kernel_rfl) (by kernel_rfl) (by kernel_rfl) rfl (fun _ _ _ h => h) (Or.inl ⟨by rfl, ?_⟩) hHeld ?_
                  rotate_left
                  · (intro w' hSw; (try dsimp only at hSw); go_simp; (try with_reducible rfl))
                  simp only [Act.put]
                  refine wpAnyG_take1 (i := 14) (v := ?_) rfl (by kernel_rfl) (by kernel_rfl) (by kernel_rfl) (by kernel_rfl) (by kernel_rfl) rfl (fun _ _ _ h => h) (Or.inl ⟨by rfl, ?_⟩) hHeld ?_
                  rotate_left
                  · (intro w' hSw; (try dsimp only at hSw); go_simp; (try with_reducible rfl))
                  simp only [Act.put]
                  refine wpAnyG_one (i := 15) (by kernel_rfl) rfl (fun K hK => ?_)
                  go_simp
                  have hcurA := hcur.alloc hcur.size (.cells #[.slice none 0 0, .slice none 0 0] 25)
                  refine hK.out _ _ (fun _ => keepX _ hcurA) (fun hHeld => ?_)
                  have hHeld := hHeld (by decide)
                  clear hK K
                  try simp only [Act.put, List.setIfInBounds_toArray, List.set_cons_zero, List.set_cons_succ]
                  refine wpAnyG_one (i := 16) (by kernel_rfl) rfl (fun K hK => ?_)
                  go_simp
                  have hk2 : Below w4.heap.size w4 (w4.alloc (.cells #[.slice A9 0 c9, .slice A9' 0 c9'] 25)) := (Below.refl _ _).alloc (Nat.le_refl _) _
                  have XX := DBox.new (Dsk.of_own hown)
                  have hown := hown.below hk2
                  have hcur := hcur.trans (hk2.mono hcur.size)
                  clear hcurA hk2
                  refine hK.out _ _ (fun _ => keepX _ hcur) (fun hHeld => ?_)
                  have hHeld := hHeld (by decide)
                  clear hK K
                  try simp only [Act.put, List.setIfInBounds_toArray, List.set_cons_zero, List.set_cons_succ]
                  refine wpAnyG_one (i := 17) (by kernel_rfl) rfl (fun K hK => ?_)
                  go_simp
                  refine hK.out _ _ (fun h => absurd rfl h) (fun _ => ?_)
                  clear hK K
                  refine wpAnyG_done (by kernel_rfl) ?_ _
                  obtain ⟨GX, hGX⟩ : ∃ x, x = w4.heap.size := ⟨_, rfl⟩
                  obtain ⟨wx, hwx⟩ : ∃ x, x = w4.alloc (.cells #[.slice A9 0 c9, .slice A9' 0 c9'] 25) := ⟨_, rfl⟩
                  rw [← hwx] at XX hown hcur
                  rw [← hGX] at XX
                  rw [← hwx, ← hGX]
                  clear hGX hwx hb4 hout
                  have BF := Lib.hid (B.out.trans (hcur.mono B.out.size))
                  clear hcur keepX hHeld
                  go_wp2
                  go_ret
                  exact ⟨rfl, BF.out⟩
                · go_simp
                  have hZ0 : Blk (wr.drew.alloc (.cells #[.slice none 0 0, .slice none 0 0] 25)) wr.heap.size 25 [.slice none 0 0, .slice none 0 0] := Blk.new wr.drew 25 [.slice none 0 0, .slice none 0 0]
                  have hcur := hcur.alloc (show wr.heap.size ≤ wr.drew.heap.size from Nat.le_refl _) (.cells #[.slice none 0 0, .slice none 0 0] 25)
                  refine hK.out _ _ (fun _ => keepX _ hcur) (fun hHeld => ?_)
                  have hHeld := hHeld (by decide)
                  clear hK K
                  try simp only [Act.put, List.setIfInBounds_toArray, List.set_cons_zero, List.set_cons_succ]
                  refine wpAnyG_one (i := 11) (by kernel_rfl) rfl (fun K hK => ?_)
                  go_simp
                  go_at_call 16
                  refine (WR.out _ hcur).mono ?_
                  intro e w4 hout
                  obtain ⟨A9, c9, A9', c9', rfl, hown, hb4⟩ := DiskOut.as hout (S' := []) (C' := []) (E' := 9) (n := 0) (n' := 0) (if_neg (by rw [hE9]; decide)) (if_neg (by rw [hE9]; decide)) hE9 rfl rfl
                  have hcur := hcur.trans (hb4.mono hcur.size)
                  have hZ := hZ0.below hb4 hZ0.lt
                  have z0 := hZ.cell 0
                  have z1 := hZ.cell 1
                  have g0 := hZ.free 0
                  have g1 := hZ.free 1
                  simp only [List.getElem?_cons_zero, List.getElem?_cons_succ] at z0 z1
                  refine hK.out _ _ (fun _ => keepX _ hcur) (fun hHeld => ?_)
                  have hHeld := hHeld (by decide)
                  clear hK K
                  try simp only [Act.put, List.setIfInBounds_toArray, List.set_cons_zero, List.set_cons_succ]
                  refine wpAnyG_take1 (i := 12) (v := ?_) rfl (by kernel_rfl) (by kernel_rfl) (by kernel_rfl) (by kernel_rfl) (by kernel_rfl) rfl (fun _ _ _ h => h) (Or.inl ⟨by rfl, ?_⟩) hHeld ?_
                  rotate_left
                  · (intro w' hSw; (try dsimp only at hSw); go_simp; (try with_reducible rfl))
                  simp only [Act.put, List.setIfInBounds_toArray]
                  refine wpAnyG_take1 (i := 13) (v := ?_) rfl (by kernel_rfl) (by kernel_rfl) (by kernel_rfl) (by kernel_rfl) (by kernel_rfl) rfl (fun _ _ _ h => h) (Or.inl ⟨by rfl, ?_⟩) hHeld ?_
                  rotate_left
                  · (intro w' hSw; (try dsimp only at hSw); go_simp; (try with_reducible rfl))
                  simp only [Act.put]
                  refine wpAnyG_take1 (i := 14) (v := ?_) rfl (by kernel_rfl) (by kernel_rfl) (by kernel_rfl) (by kernel_rfl) (by kernel_rfl) rfl (fun _ _ _ h => h) (Or.inl ⟨by rfl, ?_⟩) hHeld ?_
                  rotate_left
                  · (intro w' hSw; (try dsimp only at hSw); go_simp; (try with_reducible rfl))
                  simp only [Act.put]
                  refine wpAnyG_one (i := 16) (by kernel_rfl) rfl (fun K hK => ?_)
                  go_simp
                  have OZ := hown.two hZ (.slice A9 0 c9) (.slice A9' 0 c9')
                  have XX : DBox _ wr.heap.size A9 0 c9 A9' 0 c9' _ _ := ⟨hZ.two (.slice A9 0 c9) (.slice A9' 0 c9'), Dsk.of_own OZ⟩
                  have hown := OZ.lower (Nat.le_of_lt hZ0.lt)
                  have hcur := below_two hcur (Nat.le_refl wr.heap.size) (.slice A9 0 c9) (.slice A9' 0 c9')
                  clear z0 z1 g0 g1 hZ hZ0 OZ
                  refine hK.out _ _ (fun _ => keepX _ hcur) (fun hHeld => ?_)
                  have hHeld := hHeld (by decide)
                  clear hK K
                  try simp only [Act.put, List.setIfInBounds_toArray, List.set_cons_zero, List.set_cons_succ]
                  refine wpAnyG_one (i := 17) (by kernel_rfl) rfl (fun K hK => ?_)
                  go_simp
                  refine hK.out _ _ (fun h => absurd rfl h) (fun _ => ?_)
                  clear hK K
                  refine wpAnyG_done (by kernel_rfl) ?_ _
                  obtain ⟨GX, hGX⟩ : ∃ x, x = wr.heap.size := ⟨_, rfl⟩
                  obtain ⟨wx, hwx⟩ : ∃ x, x = (w4.setCell ⟨wr.heap.size, 0, none⟩ (.slice A9 0 c9)).setCell ⟨wr.heap.size, 1, none⟩ (.slice A9' 0 c9') := ⟨_, rfl⟩
                  rw [← hwx] at XX hown hcur
                  rw [← hGX] at XX
                  rw [← hwx, ← hGX]
                  clear hGX hwx hb4 hout
                  have BF := Lib.hid (B.out.trans (hcur.mono B.out.size))
                  clear hcur keepX hHeld
                  go_wp2
                  go_ret
                  exact ⟨rfl, BF.out⟩
              · have hE0 : wrE S (C ++ RL.take k) pa Tk = 0 := HNE.out.trans (if_neg hf)
                have hns := HNS.out hE0
                refine wp_region_to 17 (fun w' => w'.cell? ⟨w.heap.size, 0, none⟩ = some (.slice A1 len0 c1) ∧ w'.cell? ⟨w.heap.size, 1, none⟩ = some (.slice A1' (len1 + k) c1') ∧ w'.cell? ⟨bk, ok + k * 2, none⟩ = some (.int .i64 pa) ∧ w'.cell? ⟨bk, ok + k * 2 + 1, none⟩ = some (.slice Ak nk ck)) (by kernel_rfl) ?_
                refine wpAnyG_take1 (i := 0) (v := ?_) rfl (by kernel_rfl) (by kernel_rfl) (by kernel_rfl) (by kernel_rfl) (by kernel_rfl) rfl (fun _ _ _ h => h) (Or.inl ⟨by rfl, ?_⟩) hHeld ?_
                rotate_left
                · (intro w' hSw; (try dsimp only at hSw); go_simp; (try with_reducible rfl))
                simp only [Act.put, List.setIfInBounds_toArray]
                refine wpAnyG_take1 (i := 1) (v := ?_) rfl (by kernel_rfl) (by kernel_rfl) (by kernel_rfl) (by kernel_rfl) (by kernel_rfl) rfl (fun _ _ _ h => h) (Or.inl ⟨by rfl, ?_⟩) hHeld ?_
                rotate_left
                · (intro w' hSw; (try dsimp only at hSw); go_simp; (try with_reducible rfl))
                simp only [Act.put]
                refine wpAnyG_take1 (i := 2) (v := ?_) rfl (by kernel_rfl) (by kernel_rfl) (by kernel_rfl) (by kernel_rfl) (by kernel_rfl) rfl (fun _ _ _ h => h) (Or.inl ⟨by rfl, ?_⟩) hHeld ?_
                rotate_left
                · (intro w' hSw; (try dsimp only at hSw); go_simp; (try with_reducible rfl))
                simp only [Act.put]
                refine wpAnyG_take1 (i := 3) (v := ?_) rfl (by kernel_rfl) (by kernel_rfl) (by kernel_rfl) (by kernel_rfl) (by kernel_rfl) rfl (fun _ _ _ h => h) (Or.inl ⟨by rfl, ?_⟩) hHeld ?_
                rotate_left
                · (intro w' hSw; (try dsimp only at hSw); go_simp; (try with_reducible rfl))
                simp only [Act.put]
                refine wpAnyG_take1 (i := 4) (v := ?_) rfl (by kernel_rfl) (by kernel_rfl) (by kernel_rfl) (by kernel_rfl) (by kernel_rfl) rfl (fun _ _ _ h => h) (Or.inl ⟨by rfl, ?_⟩) hHeld ?_
                rotate_left
                · (intro w' hSw; (try dsimp only at hSw); go_simp; (try with_reducible rfl))
                simp only [Act.put]
                refine wpAnyG_take1 (i := 5) (v := ?_) rfl (by kernel_rfl) (by kernel_rfl) (by kernel_rfl) (by kernel_rfl) (by kernel_rfl) rfl (fun _ _ _ h => h) (Or.inl ⟨by rfl, ?_⟩) hHeld ?_
                rotate_left
                · (intro w' hSw; (try dsimp only at hSw); go_simp; (try with_reducible rfl))
                simp only [Act.put]
                refine wpAnyG_take1 (i := 6) (v := ?_) rfl (by kernel_rfl) (by kernel_rfl) (by kernel_rfl) (by kernel_rfl) (by kernel_rfl) rfl (fun _ _ _ h => h) (Or.inl ⟨by rfl, ?_⟩) hHeld ?_
                rotate_left
                · (intro w' hSw; (try dsimp only at hSw); go_simp; (try with_reducible rfl))
                simp only [Act.put]
                refine wpAnyG_take1 (i := 7) (v := ?_) rfl (by kernel_rfl) (by kernel_rfl) (by kernel_rfl) (by kernel_rfl) (by kernel_rfl) rfl (fun _ _ _ h => h) (Or.inl ⟨by rfl, ?_⟩) hHeld ?_
                rotate_left
                · (intro w' hSw; (try dsimp only at hSw); go_simp; (try with_reducible rfl))
                simp only [Act.put]
                refine wpAnyG_take1 (i := 8) (v := ?_) rfl (by kernel_rfl) (by kernel_rfl) (by kernel_rfl) (by kernel_rfl) (by kernel_rfl) rfl (fun _ _ _ h => h) (Or.inl ⟨by rfl, ?_⟩) hHeld ?_
                rotate_left
                · (intro w' hSw; (try dsimp only at hSw); go_simp; (try with_reducible rfl))
                simp only [Act.put]
                refine wpAnyG_take1 (i := 9) (v := ?_) rfl (by kernel_rfl) (by kernel_rfl) (by kernel_rfl) (by kernel_rfl) (by kernel_rfl) rfl (fun _ _ _ h => h) (Or.inl ⟨by rfl, ?_⟩) hHeld ?_
                rotate_left
                · (intro w' hSw; (try dsimp only at hSw); go_simp; (try with_reducible rfl))
                simp only [Act.put]
                refine wpAnyG_take1 (i := 10) (v := ?_) rfl (by kernel_rfl) (by kernel_rfl) (by kernel_rfl) (by kernel_rfl) (by kernel_rfl) rfl (fun _ _ _ h => h) (Or.inl ⟨by rfl, ?_⟩) hHeld ?_
                rotate_left
                · (intro w' hSw; (try dsimp only at hSw); go_simp; (try with_reducible rfl))
                simp only [Act.put]
                refine wpAnyG_two (i := 11) (j := 15) (by kernel_rfl) rfl rfl (fun K hK => ?_) (fun K hK => ?_)
                · go_simp
                  go_at_call 16
                  refine (WR.out _ hcur).mono ?_
                  intro e w4 hout
                  obtain ⟨A9, c9, A9', c9', rfl, hown, hb4⟩ := DiskOut.as hout (S' := S) (C' := C ++ RL.take (k + 1)) (E' := 0) (n := len0) (n' := len1 + (k + 1)) hns.1 hns.2 hE0 HSL.out (by rw [List.length_append, List.length_take, HCL.out, HRL.out]; have := HKM.out.2.1; omega)
                  have hcur := hcur.trans (hb4.mono hcur.size)
                  refine hK.out _ _ (fun _ => keepX _ hcur) (fun hHeld => ?_)
                  have hHeld := hHeld (by decide)
                  clear hK K
                  try simp only [Act.put, List.setIfInBounds_toArray, List.set_cons_zero, List.set_cons_succ]
                  refine wpAnyG_take1 (i := 12) (v := ?_) rfl (by kernel_rfl) (by kernel_rfl) (by kernel_rfl) (by kernel_rfl) (by kernel_rfl) rfl (fun _ _ _ h => h) (Or.inl ⟨by rfl, ?_⟩) hHeld ?_
                  rotate_left
                  · (intro w' hSw; (try dsimp only at hSw); go_simp; (try with_reducible rfl))
                  simp only [Act.put, List.setIfInBounds_toArray]
                  refine wpAnyG_take1 (i := 13) (v := ?_) rfl (by kernel_rfl) (by kernel_rfl) (by kernel_rfl) (by kernel_rfl) (by kernel_rfl) rfl (fun _ _ _ h => h) (Or.inl ⟨by rfl, ?_⟩) hHeld ?_
                  rotate_left
                  · (intro w' hSw; (try dsimp only at hSw); go_simp; (try with_reducible rfl))
                  simp only [Act.put]
                  refine wpAnyG_take1 (i := 14) (v := ?_) rfl (by kernel_rfl) (by kernel_rfl) (by kernel_rfl) (by kernel_rfl) (by kernel_rfl) rfl (fun _ _ _ h => h) (Or.inl ⟨by rfl, ?_⟩) hHeld ?_
                  rotate_left
                  · (intro w' hSw; (try dsimp only at hSw); go_simp; (try with_reducible rfl))
                  simp only [Act.put]
                  refine wpAnyG_one (i := 15) (by kernel_rfl) rfl (fun K hK => ?_)
                  go_simp
                  have hcurA := hcur.alloc hcur.size (.cells #[.slice none 0 0, .slice none 0 0] 25)
                  refine hK.out _ _ (fun _ => keepX _ hcurA) (fun hHeld => ?_)
                  have hHeld := hHeld (by decide)
                  clear hK K
                  try simp only [Act.put, List.setIfInBounds_toArray, List.set_cons_zero, List.set_cons_succ]
                  refine wpAnyG_one (i := 16) (by kernel_rfl) rfl (fun K hK => ?_)
                  go_simp
                  have hk2 : Below w4.heap.size w4 (w4.alloc (.cells #[.slice A9 len0 c9, .slice A9' (len1 + (k + 1)) c9'] 25)) := (Below.refl _ _).alloc (Nat.le_refl _) _
                  have XX := DBox.new (Dsk.of_own hown)
                  have hown := hown.below hk2
                  have hcur := hcur.trans (hk2.mono hcur.size)
                  clear hcurA hk2
                  refine hK.out _ _ (fun _ => keepX _ hcur) (fun hHeld => ?_)
                  have hHeld := hHeld (by decide)
                  clear hK K
                  try simp only [Act.put, List.setIfInBounds_toArray, List.set_cons_zero, List.set_cons_succ]
                  refine wpAnyG_one (i := 17) (by kernel_rfl) rfl (fun K hK => ?_)
                  go_simp
                  refine hK.out _ _ (fun h => absurd rfl h) (fun _ => ?_)
                  clear hK K
                  refine wpAnyG_done (by kernel_rfl) ?_ _
                  obtain ⟨GX, hGX⟩ : ∃ x, x = w4.heap.size := ⟨_, rfl⟩
                  obtain ⟨wx, hwx⟩ : ∃ x, x = w4.alloc (.cells #[.slice A9 len0 c9, .slice A9' (len1 + (k + 1)) c9'] 25) := ⟨_, rfl⟩
                  rw [← hwx] at XX hown hcur
                  rw [← hGX] at XX
                  rw [← hwx, ← hGX]
                  clear hGX hwx hb4 hout
                  have x4 := X.out.below hcur X.out.lt
                  have p0 := x4.cell 0
                  have p1 := x4.cell 1
                  have f0 := x4.free 0
                  have f1 := x4.free 1
                  obtain ⟨y0, y1⟩ := XX.cells
                  simp only [List.getElem?_cons_zero, List.getElem?_cons_succ] at p0 p1
                  have HX4 := Lib.hid (x4.two (.slice A9 len0 c9) (.slice A9' (len1 + (k + 1)) c9'))
                  have HO4 := Lib.hid ((hown.lower B.out.size).two x4 (.slice A9 len0 c9) (.slice A9' (len1 + (k + 1)) c9'))
                  have HL4 := Lib.hid (((OL.out.below hcur).box x4 (by decide) (by decide) 0 (.slice A9 len0 c9)).box (x4.set 0 (.slice A9 len0 c9)) (by decide) (by decide) 1 (.slice A9' (len1 + (k + 1)) c9'))
                  have HW4 := Lib.hid (owns_other_box (owns_other_box (owns_below OW.out hcur) x4 (by decide) 0 (.slice A9 len0 c9)) (x4.set 0 (.slice A9 len0 c9)) (by decide) 1 (.slice A9' (len1 + (k + 1)) c9'))
                  have HB4 := Lib.hid (below_two (B.out.trans (hcur.mono B.out.size)) (Nat.le_refl _) (.slice A9 len0 c9) (.slice A9' (len1 + (k + 1)) c9'))
                  have HH2 := Lib.hid (show C.length + (k + 1) ≤ 64 by omega)
                  clear hcur keepX hHeld hown XX x4 hE0 hns hf WR HNS HNE
                  go_wp2
                  go_roundw
                  case rel => exact ⟨k + 1, A9, c9, A9', c9', by have := HKM.out; omega, .inr (by have := HKM.out; omega), by go_num, HX4.out, Dsk.of_own HO4.out, .inr HO4.out, HL4.out, HW4.out, HB4.out, HH2.out⟩
                  case measure => have := HKM.out; simp [intOf]; omega
                · go_simp
                  have hZ0 : Blk (wr.drew.alloc (.cells #[.slice none 0 0, .slice none 0 0] 25)) wr.heap.size 25 [.slice none 0 0, .slice none 0 0] := Blk.new wr.drew 25 [.slice none 0 0, .slice none 0 0]
                  have hcur := hcur.alloc (show wr.heap.size ≤ wr.drew.heap.size from Nat.le_refl _) (.cells #[.slice none 0 0, .slice none 0 0] 25)
                  refine hK.out _ _ (fun _ => keepX _ hcur) (fun hHeld => ?_)
                  have hHeld := hHeld (by decide)
                  clear hK K
                  try simp only [Act.put, List.setIfInBounds_toArray, List.set_cons_zero, List.set_cons_succ]
                  refine wpAnyG_one (i := 11) (by kernel_rfl) rfl (fun K hK => ?_)
                  go_simp
                  go_at_call 16
                  refine (WR.out _ hcur).mono ?_
                  intro e w4 hout
                  obtain ⟨A9, c9, A9', c9', rfl, hown, hb4⟩ := DiskOut.as hout (S' := S) (C' := C ++ RL.take (k + 1)) (E' := 0) (n := len0) (n' := len1 + (k + 1)) hns.1 hns.2 hE0 HSL.out (by rw [List.length_append, List.length_take, HCL.out, HRL.out]; have := HKM.out.2.1; omega)
                  have hcur := hcur.trans (hb4.mono hcur.size)
                  have hZ := hZ0.below hb4 hZ0.lt
                  have z0 := hZ.cell 0
                  have z1 := hZ.cell 1
                  have g0 := hZ.free 0
                  have g1 := hZ.free 1
                  simp only [List.getElem?_cons_zero, List.getElem?_cons_succ] at z0 z1
                  refine hK.out _ _ (fun _ => keepX _ hcur) (fun hHeld => ?_)
                  have hHeld := hHeld (by decide)
                  clear hK K
                  try simp only [Act.put, List.setIfInBounds_toArray, List.set_cons_zero, List.set_cons_succ]
                  refine wpAnyG_take1 (i := 12) (v := ?_) rfl (by kernel_rfl) (by kernel_rfl) (by kernel_rfl) (by kernel_rfl) (by kernel_rfl) rfl (fun _ _ _ h => h) (Or.inl ⟨by rfl, ?_⟩) hHeld ?_
                  rotate_left
                  · (intro w' hSw; (try dsimp only at hSw); go_simp; (try with_reducible rfl))
                  simp only [Act.put, List.setIfInBounds_toArray]
                  refine wpAnyG_take1 (i := 13) (v := ?_) rfl (by kernel_rfl) (by kernel_rfl) (by kernel_rfl) (by kernel_rfl) (by kernel_rfl) rfl (fun _ _ _ h => h) (Or.inl ⟨by rfl, ?_⟩) hHeld ?_
                  rotate_left
                  · (intro w' hSw; (try dsimp only at hSw); go_simp; (try with_reducible rfl))
                  simp only [Act.put]
                  refine wpAnyG_take1 (i := 14) (v := ?_) rfl (by kernel_rfl) (by kernel_rfl) (by kernel_rfl) (by kernel_rfl) (by kernel_rfl) rfl (fun _ _ _ h => h) (Or.inl ⟨by rfl, ?_⟩) hHeld ?_
                  rotate_left
                  · (intro w' hSw; (try dsimp only at hSw); go_simp; (try with_reducible rfl))
                  simp only [Act.put]
                  refine wpAnyG_one (i := 16) (by kernel_rfl) rfl (fun K hK => ?_)
                  go_simp
                  have OZ := hown.two hZ (.slice A9 len0 c9) (.slice A9' (len1 + (k + 1)) c9')
                  have XX : DBox _ wr.heap.size A9 len0 c9 A9' (len1 + (k + 1)) c9' _ _ := ⟨hZ.two (.slice A9 len0 c9) (.slice A9' (len1 + (k + 1)) c9'), Dsk.of_own OZ⟩
                  have hown := OZ.lower (Nat.le_of_lt hZ0.lt)
                  have hcur := below_two hcur (Nat.le_refl wr.heap.size) (.slice A9 len0 c9) (.slice A9' (len1 + (k + 1)) c9')
                  clear z0 z1 g0 g1 hZ hZ0 OZ
                  refine hK.out _ _ (fun _ => keepX _ hcur) (fun hHeld => ?_)
                  have hHeld := hHeld (by decide)
                  clear hK K
                  try simp only [Act.put, List.setIfInBounds_toArray, List.set_cons_zero, List.set_cons_succ]
                  refine wpAnyG_one (i := 17) (by kernel_rfl) rfl (fun K hK => ?_)
                  go_simp
                  refine hK.out _ _ (fun h => absurd rfl h) (fun _ => ?_)
                  clear hK K
                  refine wpAnyG_done (by kernel_rfl) ?_ _
                  obtain ⟨GX, hGX⟩ : ∃ x, x = wr.heap.size := ⟨_, rfl⟩
                  obtain ⟨wx, hwx⟩ : ∃ x, x = (w4.setCell ⟨wr.heap.size, 0, none⟩ (.slice A9 len0 c9)).setCell ⟨wr.heap.size, 1, none⟩ (.slice A9' (len1 + (k + 1)) c9') := ⟨_, rfl⟩
                  rw [← hwx] at XX hown hcur
                  rw [← hGX] at XX
                  rw [← hwx, ← hGX]
                  clear hGX hwx hb4 hout
                  have x4 := X.out.below hcur X.out.lt
                  have p0 := x4.cell 0
                  have p1 := x4.cell 1
                  have f0 := x4.free 0
                  have f1 := x4.free 1
                  obtain ⟨y0, y1⟩ := XX.cells
                  simp only [List.getElem?_cons_zero, List.getElem?_cons_succ] at p0 p1
                  have HX4 := Lib.hid (x4.two (.slice A9 len0 c9) (.slice A9' (len1 + (k + 1)) c9'))
                  have HO4 := Lib.hid ((hown.lower B.out.size).two x4 (.slice A9 len0 c9) (.slice A9' (len1 + (k + 1)) c9'))
                  have HL4 := Lib.hid (((OL.out.below hcur).box x4 (by decide) (by decide) 0 (.slice A9 len0 c9)).box (x4.set 0 (.slice A9 len0 c9)) (by decide) (by decide) 1 (.slice A9' (len1 + (k + 1)) c9'))
                  have HW4 := Lib.hid (owns_other_box (owns_other_box (owns_below OW.out hcur) x4 (by decide) 0 (.slice A9 len0 c9)) (x4.set 0 (.slice A9 len0 c9)) (by decide) 1 (.slice A9' (len1 + (k + 1)) c9'))
                  have HB4 := Lib.hid (below_two (B.out.trans (hcur.mono B.out.size)) (Nat.le_refl _) (.slice A9 len0 c9) (.slice A9' (len1 + (k + 1)) c9'))
                  have HH2 := Lib.hid (show C.length + (k + 1) ≤ 64 by omega)
                  clear hcur keepX hHeld hown XX x4 hE0 hns hf WR HNS HNE
                  go_wp2
                  go_roundw
                  case rel => exact ⟨k + 1, A9, c9, A9', c9', by have := HKM.out; omega, .inr (by have := HKM.out; omega), by go_num, HX4.out, Dsk.of_own HO4.out, .inr HO4.out, HL4.out, HW4.out, HB4.out, HH2.out⟩
                  case measure => have := HKM.out; simp [intOf]; omega
            · skip
              obtain ⟨hmay2, hmid, hnow⟩ := CT.out k hk h64
              have hsm := small_more SZ.out HG.out h64
              obtain ⟨D, hD⟩ : ∃ D, D = C ++ RL.take k := ⟨_, rfl⟩
              rw [← hD] at hmay2 hmid hnow hsm hd
              have hcm := cr_may hmay2 F
              have hs3 := cr_small hsm F
              have hck : chkD S D = 0 := by unfold chkD; rw [if_pos hmay2]
              have RD2 := Lib.hid (fun wx (hx : Dsk wx A1 len0 c1 A1' (len1 + k) c1' S D) => cread_any A1 len0 c1 A1' (len1 + k) c1' S D a m wx hx hsm)
              have CR := Lib.hid (fun wx (hx : Dsk wx A1 len0 c1 A1' (len1 + k) c1' S D) (hr : Arg wx .u8 a5 len5 cap5 F) => dsk_does.crash A1 len0 c1 A1' (len1 + k) c1' S D a5 len5 cap5 F wx hx hsm hr FY8.out HF200.out)
              obtain ⟨S3, hS3⟩ : ∃ x, x = crS S D F := ⟨_, rfl⟩
              rw [← hS3] at hcm hs3 hnow CR
              have RD3 := Lib.hid (fun A9 c9 A9' c9' wx (hx : Dsk wx A9 len0 c9 A9' 0 c9' S3 []) => cread_any A9 len0 c9 A9' 0 c9' S3 [] a m wx hx hs3)
              have HL3 := Lib.hid (hcm.2.trans HSL.out)
              have HCK := Lib.hid hck
              obtain ⟨v2, hv2⟩ : ∃ v, v = crV S D a m := ⟨_, rfl⟩
              obtain ⟨E2, hE2⟩ : ∃ v, v = crE S D a m := ⟨_, rfl⟩
              obtain ⟨b2, hb2⟩ : ∃ v, v = crB S D a m := ⟨_, rfl⟩
              rw [← hv2, ← hE2, ← hb2] at hmid RD2
              obtain ⟨v3, hv3⟩ : ∃ v, v = crV S3 [] a m := ⟨_, rfl⟩
              obtain ⟨E3, hE3⟩ : ∃ v, v = crE S3 [] a m := ⟨_, rfl⟩
              obtain ⟨b3, hb3⟩ : ∃ v, v = crB S3 [] a m := ⟨_, rfl⟩
              rw [← hv3, ← hE3, ← hb3] at hnow RD3
              have X := Lib.hid (DBox.mk hx hd)
              have OW := Lib.hid how
              have B := Lib.hid hbw
              have MID := Lib.hid hmid
              have NOW := Lib.hid hnow
              have HKM := Lib.hid (show k = m → (m : Int) ≤ many from fun e => by have := HM1.out; omega)
              obtain ⟨c0, c1⟩ := X.out.cells
              have hexit : ((k : Int) < many ∧ ¬ (k : Int) < (m : Int)) ∨ ¬ (k : Int) < many := by omega
              clear hk hkm hx hd hod hol how hbw h64 hgo hmay2 hmid hnow hsm hD hcm hs3 hck hS3 hv2 hE2 hb2 hv3 hE3 hb3 hm4 CT
              rcases hexit with ⟨ex1, ex2⟩ | ex1
              · skip
                go_wp2_with fail
                refine (RD2.out _ X.out.dsk).mono ?_
                rintro e wf ⟨AM, cM, rfl, hown, hb1⟩
                have B := Lib.hid (B.out.trans (hb1.mono B.out.size))
                have X := Lib.hid (X.out.below hb1)
                have OW := Lib.hid (owns_below OW.out hb1)
                have OM := Lib.hid hown
                clear hb1 hown c0 c1 RD2
                obtain ⟨c0, c1⟩ := X.out.cells
                go_wp2_with fail
                refine (CR.out wf X.out.dsk (RF.out.below B.out)).mono ?_
                intro e wg hout
                obtain ⟨AX, cX, AX', cX', rfl, hown, hb1⟩ := DiskOut.as hout (S' := S3) (C' := []) (E' := 0) (n := len0) (n' := 0) rfl rfl HCK.out HL3.out rfl
                have hkA : Below wg.heap.size wg (wg.alloc (.cells #[.slice AX len0 cX, .slice AX' 0 cX'] 25)) := (Below.refl _ _).alloc (Nat.le_refl _) _
                have hb3 := hb1.trans (hkA.mono hb1.size)
                have XX := DBox.new (Dsk.of_own hown)
                have OM := Lib.hid (owns_below (owns_base OM.out (Nat.zero_le _)) hb3)
                have B := Lib.hid (B.out.trans (hb3.mono B.out.size))
                have X := Lib.hid (X.out.below hb3)
                have OW := Lib.hid (owns_below OW.out hb3)
                clear hout hown hb1 hb3 hkA c0 c1 CR
                obtain ⟨GX, hGX⟩ : ∃ x, x = wg.heap.size := ⟨_, rfl⟩
                go_upto_region 17 with fail
                rw [← hGX] at XX ⊢
                obtain ⟨wh, hW⟩ : ∃ x : World, x = wg.alloc (.cells #[.slice AX len0 cX, .slice AX' 0 cX'] 25) := ⟨_, rfl⟩
                rw [← hW] at XX OM OW B X ⊢
                clear hW hGX
                have XX := Lib.hid XX
                obtain ⟨d0, d1⟩ := XX.out.cells
                go_wp2_with fail
                refine (RD3.out AX cX AX' cX' wh XX.out.dsk).mono ?_
                rintro e wi ⟨AN, cN, rfl, hown, hb1⟩
                have B := Lib.hid (B.out.trans (hb1.mono B.out.size))
                have esM := str_arg (Arg.own (owns_below OM.out hb1))
                have esW := str_arg (Arg.own (owns_below OW.out hb1))
                have esN := str_arg (Arg.own hown)
                have esB := str_arg (RB.out.below B.out)
                clear hb1 hown RD3 XX X OM OW d0 d1
                go_upto_region 18 with fail
                have hmid := MID.out
                have hnow := NOW.out
                clear MID NOW
                by_cases hz : E1 = 0
                · skip
                  subst hz
                  rcases hmid with hmid | hmid
                  · skip
                    rcases hnow with hnow | hnow
                    · obtain ⟨g1, g2, g3⟩ := hmid
                      simp only [g1, g2, g3] at esM ⊢
                      clear g1 g2 g3
                      have sM : ((strOfNums bW).toList != (strOfNums bW).toList) = false := bne_self_eq_false _
                      obtain ⟨h1, h2, h3⟩ := hnow
                      simp only [h1, h2, h3] at esN ⊢
                      clear h1 h2 h3
                      have sN : ((strOfNums bW).toList == (strOfNums bW).toList) = true := beq_self_eq_true _
                      go_wp2
                      all_goals (go_ret; exact ⟨rfl, B.out⟩)
                    · obtain ⟨g1, g2, g3⟩ := hmid
                      simp only [g1, g2, g3] at esM ⊢
                      clear g1 g2 g3
                      have sM : ((strOfNums bW).toList != (strOfNums bW).toList) = false := bne_self_eq_false _
                      obtain ⟨h1, h2, h3, h4⟩ := hnow
                      simp only [h1, h2] at esN ⊢
                      have hwid := HKM.out h4
                      have sN : ((strOfNums b).toList == (strOfNums b).toList) = true := beq_self_eq_true _
                      have gn : (v3 == v1) = false := by simp; omega
                      clear h1 h2 h4
                      go_wp2
                      all_goals (go_ret; exact ⟨rfl, B.out⟩)
                  · skip
                    cases hq : ((strOfNums b).toList != (strOfNums bW).toList) with
                    | true =>
                      rcases hnow with hnow | hnow
                      · obtain ⟨g1, g2, g3⟩ := hmid
                        simp only [g1, g2] at esM ⊢
                        clear g1 g2
                        have sB : ((strOfNums b).toList != (strOfNums b).toList) = false := bne_self_eq_false _
                        have gv : ¬ v2 < v1 := by omega
                        clear g3
                        obtain ⟨h1, h2, h3⟩ := hnow
                        simp only [h1, h2, h3] at esN ⊢
                        clear h1 h2 h3
                        have sN : ((strOfNums bW).toList == (strOfNums bW).toList) = true := beq_self_eq_true _
                        go_wp2
                        all_goals (go_ret; exact ⟨rfl, B.out⟩)
                      · obtain ⟨g1, g2, g3⟩ := hmid
                        simp only [g1, g2] at esM ⊢
                        clear g1 g2
                        have sB : ((strOfNums b).toList != (strOfNums b).toList) = false := bne_self_eq_false _
                        have gv : ¬ v2 < v1 := by omega
                        clear g3
                        obtain ⟨h1, h2, h3, h4⟩ := hnow
                        simp only [h1, h2] at esN ⊢
                        have hwid := HKM.out h4
                        have sN : ((strOfNums b).toList == (strOfNums b).toList) = true := beq_self_eq_true _
                        have gn : (v3 == v1) = false := by simp; omega
                        clear h1 h2 h4
                        go_wp2
                        all_goals (go_ret; exact ⟨rfl, B.out⟩)
                    | false =>
                      rcases hnow with hnow | hnow
                      · obtain ⟨g1, g2, g3⟩ := hmid
                        simp only [g1, g2] at esM ⊢
                        clear g1 g2
                        have sB : ((strOfNums b).toList != (strOfNums b).toList) = false := bne_self_eq_false _
                        have gv : ¬ v2 < v1 := by omega
                        clear g3
                        obtain ⟨h1, h2, h3⟩ := hnow
                        simp only [h1, h2, h3] at esN ⊢
                        clear h1 h2 h3
                        have sN : ((strOfNums bW).toList == (strOfNums bW).toList) = true := beq_self_eq_true _
                        go_wp2
                        all_goals (go_ret; exact ⟨rfl, B.out⟩)
                      · obtain ⟨g1, g2, g3⟩ := hmid
                        simp only [g1, g2] at esM ⊢
                        clear g1 g2
                        have sB : ((strOfNums b).toList != (strOfNums b).toList) = false := bne_self_eq_false _
                        have gv : ¬ v2 < v1 := by omega
                        clear g3
                        obtain ⟨h1, h2, h3, h4⟩ := hnow
                        simp only [h1, h2] at esN ⊢
                        have hwid := HKM.out h4
                        have sN : ((strOfNums b).toList == (strOfNums b).toList) = true := beq_self_eq_true _
                        have gn : (v3 == v1) = false := by simp; omega
                        clear h1 h2 h4
                        go_wp2
                        all_goals (go_ret; exact ⟨rfl, B.out⟩)
                · skip
                  have hz1 : (E1 == 0) = false := beq_eq_false_iff_ne.2 hz
                  have hz2 : (0 == E1) = false := beq_eq_false_iff_ne.2 (fun e => hz e.symm)
                  rcases hmid with hmid | hmid
                  · skip
                    rcases hnow with hnow | hnow
                    · obtain ⟨g1, g2, g3⟩ := hmid
                      simp only [g1, g2, g3] at esM ⊢
                      clear g1 g2 g3
                      have sM : ((strOfNums bW).toList != (strOfNums bW).toList) = false := bne_self_eq_false _
                      obtain ⟨h1, h2, h3⟩ := hnow
                      simp only [h1, h2, h3] at esN ⊢
                      clear h1 h2 h3
                      have sN : ((strOfNums bW).toList == (strOfNums bW).toList) = true := beq_self_eq_true _
                      go_wp2
                      all_goals (go_ret; exact ⟨rfl, B.out⟩)
                    · obtain ⟨g1, g2, g3⟩ := hmid
                      simp only [g1, g2, g3] at esM ⊢
                      clear g1 g2 g3
                      have sM : ((strOfNums bW).toList != (strOfNums bW).toList) = false := bne_self_eq_false _
                      obtain ⟨h1, h2, h3, h4⟩ := hnow
                      simp only [h1, h2] at esN ⊢
                      have hwid := HKM.out h4
                      have sN : ((strOfNums b).toList == (strOfNums b).toList) = true := beq_self_eq_true _
                      have gn : (v3 == v1) = false := by simp; omega
                      clear h1 h2 h4
                      go_wp2
                      all_goals (go_ret; exact ⟨rfl, B.out⟩)
                  · skip
                    cases hq : ((strOfNums b).toList != (strOfNums bW).toList) with
                    | true =>
                      rcases hnow with hnow | hnow
                      · obtain ⟨g1, g2, g3⟩ := hmid
                        simp only [g1, g2] at esM ⊢
                        clear g1 g2
                        have sB : ((strOfNums b).toList != (strOfNums b).toList) = false := bne_self_eq_false _
                        have gv : ¬ v2 < v1 := by omega
                        clear g3
                        obtain ⟨h1, h2, h3⟩ := hnow
                        simp only [h1, h2, h3] at esN ⊢
                        clear h1 h2 h3
                        have sN : ((strOfNums bW).toList == (strOfNums bW).toList) = true := beq_self_eq_true _
                        go_wp2
                        all_goals (go_ret; exact ⟨rfl, B.out⟩)
                      · obtain ⟨g1, g2, g3⟩ := hmid
                        simp only [g1, g2] at esM ⊢
                        clear g1 g2
                        have sB : ((strOfNums b).toList != (strOfNums b).toList) = false := bne_self_eq_false _
                        have gv : ¬ v2 < v1 := by omega
                        clear g3
                        obtain ⟨h1, h2, h3, h4⟩ := hnow
                        simp only [h1, h2] at esN ⊢
                        have hwid := HKM.out h4
                        have sN : ((strOfNums b).toList == (strOfNums b).toList) = true := beq_self_eq_true _
                        have gn : (v3 == v1) = false := by simp; omega
                        clear h1 h2 h4
                        go_wp2
                        all_goals (go_ret; exact ⟨rfl, B.out⟩)
                    | false =>
                      rcases hnow with hnow | hnow
                      · obtain ⟨g1, g2, g3⟩ := hmid
                        simp only [g1, g2] at esM ⊢
                        clear g1 g2
                        have sB : ((strOfNums b).toList != (strOfNums b).toList) = false := bne_self_eq_false _
                        have gv : ¬ v2 < v1 := by omega
                        clear g3
                        obtain ⟨h1, h2, h3⟩ := hnow
                        simp only [h1, h2, h3] at esN ⊢
                        clear h1 h2 h3
                        have sN : ((strOfNums bW).toList == (strOfNums bW).toList) = true := beq_self_eq_true _
                        go_wp2
                        all_goals (go_ret; exact ⟨rfl, B.out⟩)
                      · obtain ⟨g1, g2, g3⟩ := hmid
                        simp only [g1, g2] at esM ⊢
                        clear g1 g2
                        have sB : ((strOfNums b).toList != (strOfNums b).toList) = false := bne_self_eq_false _
                        have gv : ¬ v2 < v1 := by omega
                        clear g3
                        obtain ⟨h1, h2, h3, h4⟩ := hnow
                        simp only [h1, h2] at esN ⊢
                        have hwid := HKM.out h4
                        have sN : ((strOfNums b).toList == (strOfNums b).toList) = true := beq_self_eq_true _
                        have gn : (v3 == v1) = false := by simp; omega
                        clear h1 h2 h4
                        go_wp2
                        all_goals (go_ret; exact ⟨rfl, B.out⟩)
              · skip
                go_wp2_with fail
                refine (RD2.out _ X.out.dsk).mono ?_
                rintro e wf ⟨AM, cM, rfl, hown, hb1⟩
                have B := Lib.hid (B.out.trans (hb1.mono B.out.size))
                have X := Lib.hid (X.out.below hb1)
                have OW := Lib.hid (owns_below OW.out hb1)
                have OM := Lib.hid hown
                clear hb1 hown c0 c1 RD2
                obtain ⟨c0, c1⟩ := X.out.cells
                go_wp2_with fail
                refine (CR.out wf X.out.dsk (RF.out.below B.out)).mono ?_
                intro e wg hout
                obtain ⟨AX, cX, AX', cX', rfl, hown, hb1⟩ := DiskOut.as hout (S' := S3) (C' := []) (E' := 0) (n := len0) (n' := 0) rfl rfl HCK.out HL3.out rfl
                have hkA : Below wg.heap.size wg (wg.alloc (.cells #[.slice AX len0 cX, .slice AX' 0 cX'] 25)) := (Below.refl _ _).alloc (Nat.le_refl _) _
                have hb3 := hb1.trans (hkA.mono hb1.size)
                have XX := DBox.new (Dsk.of_own hown)
                have OM := Lib.hid (owns_below (owns_base OM.out (Nat.zero_le _)) hb3)
                have B := Lib.hid (B.out.trans (hb3.mono B.out.size))
                have X := Lib.hid (X.out.below hb3)
                have OW := Lib.hid (owns_below OW.out hb3)
                clear hout hown hb1 hb3 hkA c0 c1 CR
                obtain ⟨GX, hGX⟩ : ∃ x, x = wg.heap.size := ⟨_, rfl⟩
                go_upto_region 17 with fail
                rw [← hGX] at XX ⊢
                obtain ⟨wh, hW⟩ : ∃ x : World, x = wg.alloc (.cells #[.slice AX len0 cX, .slice AX' 0 cX'] 25) := ⟨_, rfl⟩
                rw [← hW] at XX OM OW B X ⊢
                clear hW hGX
                have XX := Lib.hid XX
                obtain ⟨d0, d1⟩ := XX.out.cells
                go_wp2_with fail
                refine (RD3.out AX cX AX' cX' wh XX.out.dsk).mono ?_
                rintro e wi ⟨AN, cN, rfl, hown, hb1⟩
                have B := Lib.hid (B.out.trans (hb1.mono B.out.size))
                have esM := str_arg (Arg.own (owns_below OM.out hb1))
                have esW := str_arg (Arg.own (owns_below OW.out hb1))
                have esN := str_arg (Arg.own hown)
                have esB := str_arg (RB.out.below B.out)
                clear hb1 hown RD3 XX X OM OW d0 d1
                go_upto_region 18 with fail
                have hmid := MID.out
                have hnow := NOW.out
                clear MID NOW
                by_cases hz : E1 = 0
                · skip
                  subst hz
                  rcases hmid with hmid | hmid
                  · skip
                    rcases hnow with hnow | hnow
                    · obtain ⟨g1, g2, g3⟩ := hmid
                      simp only [g1, g2, g3] at esM ⊢
                      clear g1 g2 g3
                      have sM : ((strOfNums bW).toList != (strOfNums bW).toList) = false := bne_self_eq_false _
                      obtain ⟨h1, h2, h3⟩ := hnow
                      simp only [h1, h2, h3] at esN ⊢
                      clear h1 h2 h3
                      have sN : ((strOfNums bW).toList == (strOfNums bW).toList) = true := beq_self_eq_true _
                      go_wp2
                      all_goals (go_ret; exact ⟨rfl, B.out⟩)
                    · obtain ⟨g1, g2, g3⟩ := hmid
                      simp only [g1, g2, g3] at esM ⊢
                      clear g1 g2 g3
                      have sM : ((strOfNums bW).toList != (strOfNums bW).toList) = false := bne_self_eq_false _
                      obtain ⟨h1, h2, h3, h4⟩ := hnow
                      simp only [h1, h2] at esN ⊢
                      have hwid := HKM.out h4
                      have sN : ((strOfNums b).toList == (strOfNums b).toList) = true := beq_self_eq_true _
                      have gn : (v3 == v1) = false := by simp; omega
                      clear h1 h2 h4
                      go_wp2
                      all_goals (go_ret; exact ⟨rfl, B.out⟩)
                  · skip
                    cases hq : ((strOfNums b).toList != (strOfNums bW).toList) with
                    | true =>
                      rcases hnow with hnow | hnow
                      · obtain ⟨g1, g2, g3⟩ := hmid
                        simp only [g1, g2] at esM ⊢
                        clear g1 g2
                        have sB : ((strOfNums b).toList != (strOfNums b).toList) = false := bne_self_eq_false _
                        have gv : ¬ v2 < v1 := by omega
                        clear g3
                        obtain ⟨h1, h2, h3⟩ := hnow
                        simp only [h1, h2, h3] at esN ⊢
                        clear h1 h2 h3
                        have sN : ((strOfNums bW).toList == (strOfNums bW).toList) = true := beq_self_eq_true _
                        go_wp2
                        all_goals (go_ret; exact ⟨rfl, B.out⟩)
                      · obtain ⟨g1, g2, g3⟩ := hmid
                        simp only [g1, g2] at esM ⊢
                        clear g1 g2
                        have sB : ((strOfNums b).toList != (strOfNums b).toList) = false := bne_self_eq_false _
                        have gv : ¬ v2 < v1 := by omega
                        clear g3
                        obtain ⟨h1, h2, h3, h4⟩ := hnow
                        simp only [h1, h2] at esN ⊢
                        have hwid := HKM.out h4
                        have sN : ((strOfNums b).toList == (strOfNums b).toList) = true := beq_self_eq_true _
                        have gn : (v3 == v1) = false := by simp; omega
                        clear h1 h2 h4
                        go_wp2
                        all_goals (go_ret; exact ⟨rfl, B.out⟩)
                    | false =>
                      rcases hnow with hnow | hnow
                      · obtain ⟨g1, g2, g3⟩ := hmid
                        simp only [g1, g2] at esM ⊢
                        clear g1 g2
                        have sB : ((strOfNums b).toList != (strOfNums b).toList) = false := bne_self_eq_false _
                        have gv : ¬ v2 < v1 := by omega
                        clear g3
                        obtain ⟨h1, h2, h3⟩ := hnow
                        simp only [h1, h2, h3] at esN ⊢
                        clear h1 h2 h3
                        have sN : ((strOfNums bW).toList == (strOfNums bW).toList) = true := beq_self_eq_true _
                        go_wp2
                        all_goals (go_ret; exact ⟨rfl, B.out⟩)
                      · obtain ⟨g1, g2, g3⟩ := hmid
                        simp only [g1, g2] at esM ⊢
                        clear g1 g2
                        have sB : ((strOfNums b).toList != (strOfNums b).toList) = false := bne_self_eq_false _
                        have gv : ¬ v2 < v1 := by omega
                        clear g3
                        obtain ⟨h1, h2, h3, h4⟩ := hnow
                        simp only [h1, h2] at esN ⊢
                        have hwid := HKM.out h4
                        have sN : ((strOfNums b).toList == (strOfNums b).toList) = true := beq_self_eq_true _
                        have gn : (v3 == v1) = false := by simp; omega
                        clear h1 h2 h4
                        go_wp2
                        all_goals (go_ret; exact ⟨rfl, B.out⟩)
                · skip
                  have hz1 : (E1 == 0) = false := beq_eq_false_iff_ne.2 hz
                  have hz2 : (0 == E1) = false := beq_eq_false_iff_ne.2 (fun e => hz e.symm)
                  rcases hmid with hmid | hmid
                  · skip
                    rcases hnow with hnow | hnow
                    · obtain ⟨g1, g2, g3⟩ := hmid
                      simp only [g1, g2, g3] at esM ⊢
                      clear g1 g2 g3
                      have sM : ((strOfNums bW).toList != (strOfNums bW).toList) = false := bne_self_eq_false _
                      obtain ⟨h1, h2, h3⟩ := hnow
                      simp only [h1, h2, h3] at esN ⊢
                      clear h1 h2 h3
                      have sN : ((strOfNums bW).toList == (strOfNums bW).toList) = true := beq_self_eq_true _
                      go_wp2
                      all_goals (go_ret; exact ⟨rfl, B.out⟩)
                    · obtain ⟨g1, g2, g3⟩ := hmid
                      simp only [g1, g2, g3] at esM ⊢
                      clear g1 g2 g3
                      have sM : ((strOfNums bW).toList != (strOfNums bW).toList) = false := bne_self_eq_false _
                      obtain ⟨h1, h2, h3, h4⟩ := hnow
                      simp only [h1, h2] at esN ⊢
                      have hwid := HKM.out h4
                      have sN : ((strOfNums b).toList == (strOfNums b).toList) = true := beq_self_eq_true _
                      have gn : (v3 == v1) = false := by simp; omega
                      clear h1 h2 h4
                      go_wp2
                      all_goals (go_ret; exact ⟨rfl, B.out⟩)
                  · skip
                    cases hq : ((strOfNums b).toList != (strOfNums bW).toList) with
                    | true =>
                      rcases hnow with hnow | hnow
                      · obtain ⟨g1, g2, g3⟩ := hmid
                        simp only [g1, g2] at esM ⊢
                        clear g1 g2
                        have sB : ((strOfNums b).toList != (strOfNums b).toList) = false := bne_self_eq_false _
                        have gv : ¬ v2 < v1 := by omega
                        clear g3
                        obtain ⟨h1, h2, h3⟩ := hnow
                        simp only [h1, h2, h3] at esN ⊢
                        clear h1 h2 h3
                        have sN : ((strOfNums bW).toList == (strOfNums bW).toList) = true := beq_self_eq_true _
                        go_wp2
                        all_goals (go_ret; exact ⟨rfl, B.out⟩)
                      · obtain ⟨g1, g2, g3⟩ := hmid
                        simp only [g1, g2] at esM ⊢
                        clear g1 g2
                        have sB : ((strOfNums b).toList != (strOfNums b).toList) = false := bne_self_eq_false _
                        have gv : ¬ v2 < v1 := by omega
                        clear g3
                        obtain ⟨h1, h2, h3, h4⟩ := hnow
                        simp only [h1, h2] at esN ⊢
                        have hwid := HKM.out h4
                        have sN : ((strOfNums b).toList == (strOfNums b).toList) = true := beq_self_eq_true _
                        have gn : (v3 == v1) = false := by simp; omega
                        clear h1 h2 h4
                        go_wp2
                        all_goals (go_ret; exact ⟨rfl, B.out⟩)
                    | false =>
                      rcases hnow with hnow | hnow
                      · obtain ⟨g1, g2, g3⟩ := hmid
                        simp only [g1, g2] at esM ⊢
                        clear g1 g2
                        have sB : ((strOfNums b).toList != (strOfNums b).toList) = false := bne_self_eq_false _
                        have gv : ¬ v2 < v1 := by omega
                        clear g3
                        obtain ⟨h1, h2, h3⟩ := hnow
                        simp only [h1, h2, h3] at esN ⊢
                        clear h1 h2 h3
                        have sN : ((strOfNums bW).toList == (strOfNums bW).toList) = true := beq_self_eq_true _
                        go_wp2
                        all_goals (go_ret; exact ⟨rfl, B.out⟩)
                      · obtain ⟨g1, g2, g3⟩ := hmid
                        simp only [g1, g2] at esM ⊢
                        clear g1 g2
                        have sB : ((strOfNums b).toList != (strOfNums b).toList) = false := bne_self_eq_false _
                        have gv : ¬ v2 < v1 := by omega
                        clear g3
                        obtain ⟨h1, h2, h3, h4⟩ := hnow
                        simp only [h1, h2] at esN ⊢
                        have hwid := HKM.out h4
                        have sN : ((strOfNums b).toList == (strOfNums b).toList) = true := beq_self_eq_true _
                        have gn : (v3 == v1) = false := by simp; omega
                        clear h1 h2 h4
                        go_wp2
                        all_goals (go_ret; exact ⟨rfl, B.out⟩)
        · have hR : cpL S C at_ wd b = [] := if_neg hE
          rw [hR] at PL
          obtain ⟨E2, hE2⟩ : ∃ v, v = cpE S C at_ wd b := ⟨_, rfl⟩
          rw [← hE2] at PL hE
          have hne : (E2 != 0) = true := bne_iff_ne.2 hE
          obtain ⟨v1, hv1⟩ : ∃ v, v = crV S C at_ wd := ⟨_, rfl⟩
          obtain ⟨E1, hE1⟩ : ∃ v, v = crE S C at_ wd := ⟨_, rfl⟩
          obtain ⟨bW, hbW⟩ : ∃ v, v = crB S C at_ wd := ⟨_, rfl⟩
          rw [← hv1, ← hE1, ← hbW] at RD
          clear hR hE2 hE hv1 hE1 hbW hbl hl1 hl3 hcl hsl hFl
          go_enter Try.func12, Try.ntmps12
          go_wp2_with fail
          refine (alive_cell _).mono ?_
          rintro e wa ⟨rfl, hb1⟩
          have B := Lib.hid (B.out.trans (hb1.mono B.out.size))
          have XQ := Lib.hid (XQ.out.below hb1)
          clear hb1 c0 c1
          obtain ⟨c0, c1⟩ := XQ.out.cells
          have G1 := Lib.hid (GG.out wa XQ.out.dsk)
          go_wp2_with fail
          refine G1.out.mono ?_
          rintro e wb ⟨rfl, hb3⟩
          have B := Lib.hid (B.out.trans (hb3.mono B.out.size))
          have XQ := Lib.hid (XQ.out.below hb3)
          clear hb3 c0 c1
          obtain ⟨c0, c1⟩ := XQ.out.cells
          clear G1 GG
          go_wp2_with fail
          refine (RD.out wb XQ.out.dsk).mono ?_
          rintro e wc ⟨AR, cR, rfl, hown, hb1⟩
          have OW := Lib.hid (owns_base (base' := w.heap.size) hown B.out.size)
          have B := Lib.hid (B.out.trans (hb1.mono B.out.size))
          have XQ := Lib.hid (XQ.out.below hb1)
          clear hb1 c0 c1
          obtain ⟨c0, c1⟩ := XQ.out.cells
          clear hown RD
          go_wp2_with fail
          refine (PL.out wc XQ.out.dsk (RB.out.below B.out)).mono ?_
          rintro e we ⟨Al, cl, rfl, hown, hb1⟩
          have B := Lib.hid (B.out.trans (hb1.mono B.out.size))
          clear hown hb1 PL c0 c1
          go_wp2
          go_ret
          exact ⟨by simp, B.out⟩

end Go.Proofs.Yteinfkjlcpfeiaa
