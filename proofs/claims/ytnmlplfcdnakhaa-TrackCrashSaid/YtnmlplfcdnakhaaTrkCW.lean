/- Layer 8, TrackCrash: the walk. -/
import Derived.Test.YtnmlplfcdnakhaaTrkB
namespace Go.Proofs.Ytnmlplfcdnakhaa
open Go.RowKit
set_option linter.unusedVariables false

set_option maxRecDepth 100000 in
set_option maxHeartbeats 51200000 in
theorem tcrash_of (P T A M W Q : Int) (D : Option Addr) (n c : Nat) (D' : Option Addr) (n' c' : Nat) (S : List Sec) (C : List Pnd) (l0 l1 l2 l3 : Int) (a3 : Option Addr) (len3 cap3 : Nat) (z3 : List Int) (many : Int) (a5 : Option Addr) (len5 cap5 : Nat) (z5 : List Int) (w : World) (hq : Dsk w D n c D' n' c' S C) (w3 : IsRow .u8 w a3 len3 cap3 z3) (w5 : IsRow .u8 w a5 len5 cap5 z5) :
    Calls Try.prog 13 #[cfgV P T A M W Q, diskV D n c D' n' c', .agg #[.int .i64 l0, .int .i64 l1, .int .i64 l2, .int .i64 l3], .slice a3 len3 cap3, .int .i64 many, .slice a5 len5 cap5] w fun e w' => e = .returned (.bool true) ∧ Below w.heap.size w w' := by
  obtain ⟨x, hbel⟩ := ABox.new P T A M W Q l0 l1 l2 l3 hq
  obtain ⟨w0, hw0⟩ : ∃ x : World, x = ((w.alloc (.cells #[.int .i64 P, .int .i64 T, .int .i64 A, .int .i64 M, .int .i64 W, .int .i64 Q] 74)).alloc (.cells #[.slice D n c, .slice D' n' c'] 32)).alloc (.cells #[.int .i64 l0, .int .i64 l1, .int .i64 l2, .int .i64 l3] 107) := ⟨_, rfl⟩
  rw [← hw0] at x hbel
  obtain ⟨b, hb, hbw⟩ := w3.arg
  obtain ⟨F, hF, hFw⟩ := w5.arg
  have hbl := hb.len
  have hFl := hF.len
  have BY := Lib.hid (fun z hz => wf_byte (hbw z hz) : ∀ z ∈ b, isByte z)
  have FY := Lib.hid (fun z hz => wf_byte (hFw z hz) : ∀ z ∈ F, isByte z)
  have X := Lib.hid x
  have B := Lib.hid hbel
  have RB := Lib.hid (hb.below hbel)
  have RF := Lib.hid (hF.below hbel)
  have HSB := Lib.hid hq.secs.byte
  have hsl := hq.secs.len
  have hpl := hq.pnds.len
  obtain ⟨c0, c1, c2, c3, c4, c5, d0, d1, q0, q1, q2, q3⟩ := x.cells
  have gg := fun w hx => great_any D n c D' n' c' S C 300 w hx
  have RB0 := Lib.hid hb
  have RF0 := Lib.hid hF
  clear x hbel hq w3 w5 hb hbw hF hFw
  cases hg1 : greatD S C 300 with
  | true =>
    rw [hg1] at gg
    have GG := Lib.hid gg
    clear gg hg1 hbl hFl hsl hpl
    go_enter Try.func13, Try.ntmps13
    go_wp2_with fail
    rw [← hw0]
    clear hw0
    refine (alive_track _).mono ?_
    rintro e wa ⟨rfl, hb⟩
    have B := Lib.hid (B.out.trans (hb.mono B.out.size))
    have X := Lib.hid (X.out.below hb)
    have RB := Lib.hid (RB.out.below hb)
    have RF := Lib.hid (RF.out.below hb)
    clear hb c0 c1 c2 c3 c4 c5 d0 d1 q0 q1 q2 q3
    obtain ⟨c0, c1, c2, c3, c4, c5, d0, d1, q0, q1, q2, q3⟩ := X.out.cells
    go_wp2_with fail
    refine (GG.out _ X.out.two.dsk.dsk).mono ?_
    rintro e wb ⟨rfl, hb⟩
    have B := Lib.hid (B.out.trans (hb.mono B.out.size))
    have X := Lib.hid (X.out.below hb)
    have RB := Lib.hid (RB.out.below hb)
    have RF := Lib.hid (RF.out.below hb)
    clear hb c0 c1 c2 c3 c4 c5 d0 d1 q0 q1 q2 q3
    obtain ⟨c0, c1, c2, c3, c4, c5, d0, d1, q0, q1, q2, q3⟩ := X.out.cells
    go_wp2
    go_ret
    exact ⟨rfl, B.out⟩
  | false =>
  rw [hg1] at gg
  have GG := Lib.hid gg
  have SZ := Lib.hid (small_ofD (by decide) (by decide) hg1)
  clear gg hg1
  by_cases hn0 : 0 < n'
  · have hn2 : (0 : Int) < (n' : Int) := by omega
    clear hbl hFl hsl hpl hn0
    go_enter Try.func13, Try.ntmps13
    go_wp2_with fail
    rw [← hw0]
    clear hw0
    refine (alive_track _).mono ?_
    rintro e wa ⟨rfl, hb⟩
    have B := Lib.hid (B.out.trans (hb.mono B.out.size))
    have X := Lib.hid (X.out.below hb)
    have RB := Lib.hid (RB.out.below hb)
    have RF := Lib.hid (RF.out.below hb)
    clear hb c0 c1 c2 c3 c4 c5 d0 d1 q0 q1 q2 q3
    obtain ⟨c0, c1, c2, c3, c4, c5, d0, d1, q0, q1, q2, q3⟩ := X.out.cells
    go_wp2_with fail
    refine (GG.out _ X.out.two.dsk.dsk).mono ?_
    rintro e wb ⟨rfl, hb⟩
    have B := Lib.hid (B.out.trans (hb.mono B.out.size))
    have X := Lib.hid (X.out.below hb)
    have RB := Lib.hid (RB.out.below hb)
    have RF := Lib.hid (RF.out.below hb)
    clear hb c0 c1 c2 c3 c4 c5 d0 d1 q0 q1 q2 q3
    obtain ⟨c0, c1, c2, c3, c4, c5, d0, d1, q0, q1, q2, q3⟩ := X.out.cells
    go_wp2
    go_ret
    exact ⟨rfl, B.out⟩
  obtain rfl : n' = 0 := by omega
  obtain rfl : C = [] := List.eq_nil_of_length_eq_zero hpl
  clear hn0 hpl
  by_cases hl1 : 100 < len3
  · have hl2 : (100 : Int) < (len3 : Int) := by omega
    clear hbl hl1 hsl hFl
    go_enter Try.func13, Try.ntmps13
    go_wp2_with fail
    rw [← hw0]
    clear hw0
    refine (alive_track _).mono ?_
    rintro e wa ⟨rfl, hb⟩
    have B := Lib.hid (B.out.trans (hb.mono B.out.size))
    have X := Lib.hid (X.out.below hb)
    have RB := Lib.hid (RB.out.below hb)
    have RF := Lib.hid (RF.out.below hb)
    clear hb c0 c1 c2 c3 c4 c5 d0 d1 q0 q1 q2 q3
    obtain ⟨c0, c1, c2, c3, c4, c5, d0, d1, q0, q1, q2, q3⟩ := X.out.cells
    go_wp2_with fail
    refine (GG.out _ X.out.two.dsk.dsk).mono ?_
    rintro e wb ⟨rfl, hb⟩
    have B := Lib.hid (B.out.trans (hb.mono B.out.size))
    have X := Lib.hid (X.out.below hb)
    have RB := Lib.hid (RB.out.below hb)
    have RF := Lib.hid (RF.out.below hb)
    clear hb c0 c1 c2 c3 c4 c5 d0 d1 q0 q1 q2 q3
    obtain ⟨c0, c1, c2, c3, c4, c5, d0, d1, q0, q1, q2, q3⟩ := X.out.cells
    go_wp2
    go_ret
    exact ⟨rfl, B.out⟩
  have hl2 : ¬ (100 : Int) < (len3 : Int) := by omega
  by_cases hl3 : 200 < len5
  · have hl4 : (200 : Int) < (len5 : Int) := by omega
    clear hbl hl1 hl3 hsl hFl
    go_enter Try.func13, Try.ntmps13
    go_wp2_with fail
    rw [← hw0]
    clear hw0
    refine (alive_track _).mono ?_
    rintro e wa ⟨rfl, hb⟩
    have B := Lib.hid (B.out.trans (hb.mono B.out.size))
    have X := Lib.hid (X.out.below hb)
    have RB := Lib.hid (RB.out.below hb)
    have RF := Lib.hid (RF.out.below hb)
    clear hb c0 c1 c2 c3 c4 c5 d0 d1 q0 q1 q2 q3
    obtain ⟨c0, c1, c2, c3, c4, c5, d0, d1, q0, q1, q2, q3⟩ := X.out.cells
    go_wp2_with fail
    refine (GG.out _ X.out.two.dsk.dsk).mono ?_
    rintro e wb ⟨rfl, hb⟩
    have B := Lib.hid (B.out.trans (hb.mono B.out.size))
    have X := Lib.hid (X.out.below hb)
    have RB := Lib.hid (RB.out.below hb)
    have RF := Lib.hid (RF.out.below hb)
    clear hb c0 c1 c2 c3 c4 c5 d0 d1 q0 q1 q2 q3
    obtain ⟨c0, c1, c2, c3, c4, c5, d0, d1, q0, q1, q2, q3⟩ := X.out.cells
    go_wp2
    go_ret
    exact ⟨rfl, B.out⟩
  have hl4 : ¬ (200 : Int) < (len5 : Int) := by omega
  have HF200 := Lib.hid (show F.length ≤ 200 by omega)
  have RD1 := Lib.hid (fun wx hx => tread_any P T A M W Q D n c D' 0 c' S [] l0 l1 wx hx SZ.out)
  have RD2 := Lib.hid (fun wx hx => tread_any P T A M W Q D n c D' 0 c' S [] l2 l3 wx hx SZ.out)
  have PL := Lib.hid (fun wx hx (hr : Arg wx .u8 a3 len3 cap3 b) => tplan_any P T A M W Q D n c D' 0 c' S [] l0 l1 a3 len3 cap3 b wx hx SZ.out hr BY.out)
  unfold RowOut at RD1 RD2
  unfold PlanOut at PL
  obtain ⟨EW, hEW⟩ : ∃ v, v = trE P T A M W Q S [] l0 l1 := ⟨_, rfl⟩
  obtain ⟨bW, hbW⟩ : ∃ v, v = trB P T A M W Q S [] l0 l1 := ⟨_, rfl⟩
  obtain ⟨EO, hEO⟩ : ∃ v, v = trE P T A M W Q S [] l2 l3 := ⟨_, rfl⟩
  obtain ⟨bO, hbO⟩ : ∃ v, v = trB P T A M W Q S [] l2 l3 := ⟨_, rfl⟩
  rw [← hEW, ← hbW] at RD1
  rw [← hEO, ← hbO] at RD2
  by_cases hE : tpE P T A M W Q S [] l0 l1 b = 0
  · obtain ⟨ha, hl28, hp⟩ := tpE_zero hE
    obtain ⟨hLl, _, _, hmay, hgood⟩ := cpL_good hp (sealed_byte BY.out)
    have CT := Lib.hid (fun k (hk : k ≤ 2) => trk_crash hE BY.out HSB.out hk F)
    have hmT := (taE_zero ha).1
    rw [show tpL P T A M W Q S [] l0 l1 b = cpL S [] (atT P T A l0 l1) 2 (sealed b) from if_pos hE, hE] at PL
    obtain ⟨RL, hRL⟩ : ∃ L, L = cpL S [] (atT P T A l0 l1) 2 (sealed b) := ⟨_, rfl⟩
    rw [← hRL] at CT hLl hgood PL
    rw [← hEW, ← hbW] at CT
    have HLL : RL.length = 2 := hLl
    rw [HLL] at PL
    have CO := Lib.hid (fun k (hk : k ≤ 2) (hne : l0 ≠ l2 ∨ l1 ≠ l3) => (CT.out k hk).2.2 l2 l3 hne)
    rw [← hEO, ← hbO] at CO
    have HG := Lib.hid hgood
    have HMAY := Lib.hid hmay
    have HRL := Lib.hid HLL
    have HSL := Lib.hid hsl
    obtain ⟨mW, hmW⟩ : ∃ m, m = bW.length := ⟨_, rfl⟩
    obtain ⟨mO, hmO⟩ : ∃ m, m = bO.length := ⟨_, rfl⟩
    rw [← hmW] at RD1
    rw [← hmO] at RD2
    clear hE ha hl28 hp hLl HLL hmay hgood hRL hEW hbW hEO hbO hmW hmO hbl hFl hl1 hl3 hsl hmT
    go_enter Try.func13, Try.ntmps13
    go_wp2_with fail
    rw [← hw0]
    clear hw0
    refine (alive_track _).mono ?_
    rintro e wa ⟨rfl, hb⟩
    have B := Lib.hid (B.out.trans (hb.mono B.out.size))
    have X := Lib.hid (X.out.below hb)
    have RB := Lib.hid (RB.out.below hb)
    have RF := Lib.hid (RF.out.below hb)
    clear hb c0 c1 c2 c3 c4 c5 d0 d1 q0 q1 q2 q3
    obtain ⟨c0, c1, c2, c3, c4, c5, d0, d1, q0, q1, q2, q3⟩ := X.out.cells
    go_wp2_with fail
    refine (GG.out _ X.out.two.dsk.dsk).mono ?_
    rintro e wb ⟨rfl, hb⟩
    have B := Lib.hid (B.out.trans (hb.mono B.out.size))
    have X := Lib.hid (X.out.below hb)
    have RB := Lib.hid (RB.out.below hb)
    have RF := Lib.hid (RF.out.below hb)
    clear hb c0 c1 c2 c3 c4 c5 d0 d1 q0 q1 q2 q3
    obtain ⟨c0, c1, c2, c3, c4, c5, d0, d1, q0, q1, q2, q3⟩ := X.out.cells
    go_wp2_with fail
    refine (RD1.out _ X.out.two.dsk.dsk).mono ?_
    rintro e wc ⟨AR, cR, rfl, hown, hb⟩
    have OW := Lib.hid (owns_base (base' := w.heap.size) hown B.out.size)
    have B := Lib.hid (B.out.trans (hb.mono B.out.size))
    have X := Lib.hid (X.out.below hb)
    have RB := Lib.hid (RB.out.below hb)
    have RF := Lib.hid (RF.out.below hb)
    clear hb hown RD1 c0 c1 c2 c3 c4 c5 d0 d1 q0 q1 q2 q3
    obtain ⟨c0, c1, c2, c3, c4, c5, d0, d1, q0, q1, q2, q3⟩ := X.out.cells
    go_wp2_with fail
    refine (RD2.out _ X.out.two.dsk.dsk).mono ?_
    rintro e wd ⟨AO, cO, rfl, hown, hb⟩
    have OO := Lib.hid (owns_base (base' := w.heap.size) hown B.out.size)
    have B := Lib.hid (B.out.trans (hb.mono B.out.size))
    have X := Lib.hid (X.out.below hb)
    have RB := Lib.hid (RB.out.below hb)
    have RF := Lib.hid (RF.out.below hb)
    have OW := Lib.hid (owns_below OW.out hb)
    clear hb hown RD2 c0 c1 c2 c3 c4 c5 d0 d1 q0 q1 q2 q3
    obtain ⟨c0, c1, c2, c3, c4, c5, d0, d1, q0, q1, q2, q3⟩ := X.out.cells
    go_wp2_with fail
    refine (PL.out _ X.out.two.dsk.dsk RB.out).mono ?_
    rintro e we ⟨Al, cl, rfl, hown, hb⟩
    have OP := Lib.hid (hown.lower B.out.size)
    have B := Lib.hid (B.out.trans (hb.mono B.out.size))
    have X := Lib.hid (X.out.below hb)
    have RB := Lib.hid (RB.out.below hb)
    have RF := Lib.hid (RF.out.below hb)
    have OW := Lib.hid (owns_below OW.out hb)
    have OO := Lib.hid (owns_below OO.out hb)
    clear hb hown PL c0 c1 c2 c3 c4 c5 d0 d1 q0 q1 q2 q3
    obtain ⟨c0, c1, c2, c3, c4, c5, d0, d1, q0, q1, q2, q3⟩ := X.out.cells
    clear c0 c1 c2 c3 c4 c5 d0 d1 q0 q1 q2 q3
    go_wp2
    go_loopw [20] (fun i wr => ∃ (k : Nat) (A1 : Option Addr) (x1 : Nat) (A1' : Option Addr) (x1' : Nat), k ≤ 2 ∧ i = .int .i64 k ∧ Blk wr w.heap.size 74 [.int .i64 P, .int .i64 T, .int .i64 A, .int .i64 M, .int .i64 W, .int .i64 Q] ∧ Blk wr (w.heap.size + 1) 32 [.slice A1 n x1, .slice A1' k x1'] ∧ Blk wr (w.heap.size + 2) 107 [.int .i64 l0, .int .i64 l1, .int .i64 l2, .int .i64 l3] ∧ Dsk wr A1 n x1 A1' k x1' S (RL.take k) ∧ OwnPnds wr w.heap.size Al 2 cl RL ∧ wr.ownsRow w.heap.size 5 1 (.slice AR mW cR) mW (ints .u8 bW) ∧ wr.ownsRow w.heap.size 5 1 (.slice AO mO cO) mO (ints .u8 bO) ∧ Below w.heap.size w wr) (fun i _ => 2 - (intOf i).toNat)
    case atStart => exact ⟨0, D, c, D', c', Nat.zero_le _, rfl, X.out.two.cfg, X.out.two.dsk.blk, X.out.arr, by rw [List.take_zero]; exact X.out.two.dsk.dsk, OP.out, OW.out, OO.out, B.out⟩
    case round =>
      obtain ⟨k, A1, x1, A1', x1', hk, rfl, hcf, hx, har, hd, hol, how, hoo, hbw⟩ := hrel
      by_cases hgo : (k : Int) < many ∧ k < 2
      · skip
        obtain ⟨hgo1, hgo2⟩ := hgo
        have hgo3 : (k : Int) < 2 := by omega
        have hkR : k < RL.length := by rw [HRL.out]; exact hgo2
        obtain ⟨bk, ok, Ak, nk, ck, eA, hlt, hcs, hci, hak⟩ := (Pnds.of_own hol).at_ k hgo2
        subst eA
        have hnext := wr_next (C := []) HMAY.out HG.out hkR (by simp; omega)
        have hgk := HG.out (RL.getD k (0, [])) (by rw [List.getD_eq_getElem?_getD, List.getElem?_eq_getElem hkR]; exact List.getElem_mem hkR)
        have hns := fun h => wr_nextS (S := S) (C := []) hkR h
        have hsm := small_more (C := []) SZ.out HG.out (k := k) (by simp; omega)
        rw [if_neg (by simp; omega)] at hnext
        have hns := hns hnext
        simp only [List.nil_append] at hnext hns hsm
        obtain ⟨pk, hpk⟩ : ∃ p, p = RL.getD k (0, []) := ⟨_, rfl⟩
        rw [← hpk] at hci hak hnext hgk hns
        obtain ⟨pa, Tk⟩ := pk
        dsimp only at hci hak hnext hgk hns
        have WR := Lib.hid (fun wX (hbA : Below wr.heap.size wr wX) => dsk_does.write A1 n x1 A1' k x1' S (RL.take k) pa Ak nk ck Tk wX (hd.below hbA) hsm (hak.below hbA) hgk.2 (by rw [hgk.1.2.2]; decide))
        have HX := Lib.hid hx
        have HC := Lib.hid hcf
        have HR := Lib.hid har
        have OL := Lib.hid hol
        have OW := Lib.hid how
        have OO := Lib.hid hoo
        have B := Lib.hid hbw
        have HKM := Lib.hid (⟨hk, hgo2⟩ : _ ∧ _)
        have HNE := Lib.hid hnext
        have HNS := Lib.hid hns
        obtain ⟨q0, q1⟩ : wr.cell? ⟨w.heap.size + 1, 0, none⟩ = some (.slice A1 n x1) ∧ wr.cell? ⟨w.heap.size + 1, 1, none⟩ = some (.slice A1' k x1') := ⟨hx.cell 0, hx.cell 1⟩
        have hlt0 := hx.lt
        clear hx hcf har hd hol how hoo hbw hnext hgk hns hsm hpk hak hkR hk
        go_upto_region 12 with fail
        have hcur : Below wr.heap.size wr wr.drew := below_drewN (Below.refl _ _) 1
        have keepX : ∀ wx, Below wr.heap.size wr wx → wx.cell? ⟨w.heap.size + 1, 0, none⟩ = some (.slice A1 n x1) ∧ wx.cell? ⟨w.heap.size + 1, 1, none⟩ = some (.slice A1' k x1') ∧ wx.cell? ⟨bk, ok + k * 2, none⟩ = some (.int .i64 pa) ∧ wx.cell? ⟨bk, ok + k * 2 + 1, none⟩ = some (.slice Ak nk ck) := fun wx hx => ⟨(hx.cell (p := ⟨w.heap.size + 1, 0, none⟩) hlt0).trans q0, (hx.cell (p := ⟨w.heap.size + 1, 1, none⟩) hlt0).trans q1, (hx.cell (p := ⟨bk, ok + k * 2, none⟩) hlt).trans hci, (hx.cell (p := ⟨bk, ok + k * 2 + 1, none⟩) hlt).trans hcs⟩
        have hHeld := keepX _ hcur
        refine wp_region_to 17 (fun w' => w'.cell? ⟨w.heap.size + 1, 0, none⟩ = some (.slice A1 n x1) ∧ w'.cell? ⟨w.heap.size + 1, 1, none⟩ = some (.slice A1' k x1') ∧ w'.cell? ⟨bk, ok + k * 2, none⟩ = some (.int .i64 pa) ∧ w'.cell? ⟨bk, ok + k * 2 + 1, none⟩ = some (.slice Ak nk ck)) (by kernel_rfl) ?_
        refine wpAnyG_take1 (i := 0) (v := ?_) rfl (by kernel_rfl) (by kernel_rfl) (by kernel_rfl) (by kernel_rfl) (by kernel_rfl) rfl (fun _ _ _ h => h) (Or.inl ⟨by rfl, ?_⟩) hHeld ?_
        rotate_left
        · (intro w' hSw; (try dsimp only at hSw); go_simp; (try with_reducible rfl))
        simp only [Act.put, List.setIfInBounds_toArray, List.set_cons_zero, List.set_cons_succ, List.getElem_toArray, List.getElem_cons_zero]
        refine wpAnyG_take1 (i := 1) (v := ?_) rfl (by kernel_rfl) (by kernel_rfl) (by kernel_rfl) (by kernel_rfl) (by kernel_rfl) rfl (fun _ _ _ h => h) (Or.inl ⟨by rfl, ?_⟩) hHeld ?_
        rotate_left
        · (intro w' hSw; (try dsimp only at hSw); go_simp; (try with_reducible rfl))
        simp only [Act.put, List.setIfInBounds_toArray, List.set_cons_zero, List.set_cons_succ, List.getElem_toArray, List.getElem_cons_zero, List.getElem_cons_succ]
        refine wpAnyG_take1 (i := 2) (v := ?_) rfl (by kernel_rfl) (by kernel_rfl) (by kernel_rfl) (by kernel_rfl) (by kernel_rfl) rfl (fun _ _ _ h => h) (Or.inl ⟨by rfl, ?_⟩) hHeld ?_
        rotate_left
        · (intro w' hSw; (try dsimp only at hSw); go_simp; (try with_reducible rfl))
        simp only [Act.put, List.setIfInBounds_toArray, List.set_cons_zero, List.set_cons_succ, List.getElem_toArray, List.getElem_cons_zero, List.getElem_cons_succ]
        refine wpAnyG_take1 (i := 3) (v := ?_) rfl (by kernel_rfl) (by kernel_rfl) (by kernel_rfl) (by kernel_rfl) (by kernel_rfl) rfl (fun _ _ _ h => h) (Or.inl ⟨by rfl, ?_⟩) hHeld ?_
        rotate_left
        · (intro w' hSw; (try dsimp only at hSw); go_simp; (try with_reducible rfl))
        simp only [Act.put, List.setIfInBounds_toArray, List.set_cons_zero, List.set_cons_succ, List.getElem_toArray, List.getElem_cons_zero, List.getElem_cons_succ]
        refine wpAnyG_take1 (i := 4) (v := ?_) rfl (by kernel_rfl) (by kernel_rfl) (by kernel_rfl) (by kernel_rfl) (by kernel_rfl) rfl (fun _ _ _ h => h) (Or.inl ⟨by rfl, ?_⟩) hHeld ?_
        rotate_left
        · (intro w' hSw; (try dsimp only at hSw); go_simp; (try with_reducible rfl))
        simp only [Act.put, List.setIfInBounds_toArray, List.set_cons_zero, List.set_cons_succ, List.getElem_toArray, List.getElem_cons_zero, List.getElem_cons_succ]
        refine wpAnyG_take1 (i := 5) (v := ?_) rfl (by kernel_rfl) (by kernel_rfl) (by kernel_rfl) (by kernel_rfl) (by kernel_rfl) rfl (fun _ _ _ h => h) (Or.inl ⟨by rfl, ?_⟩) hHeld ?_
        rotate_left
        · (intro w' hSw; (try dsimp only at hSw); go_simp; (try with_reducible rfl))
        simp only [Act.put, List.setIfInBounds_toArray, List.set_cons_zero, List.set_cons_succ, List.getElem_toArray, List.getElem_cons_zero, List.getElem_cons_succ]
        refine wpAnyG_take1 (i := 6) (v := ?_) rfl (by kernel_rfl) (by kernel_rfl) (by kernel_rfl) (by kernel_rfl) (by kernel_rfl) rfl (fun _ _ _ h => h) (Or.inl ⟨by rfl, ?_⟩) hHeld ?_
        rotate_left
        · (intro w' hSw; (try dsimp only at hSw); go_simp; (try with_reducible rfl))
        simp only [Act.put, List.setIfInBounds_toArray, List.set_cons_zero, List.set_cons_succ, List.getElem_toArray, List.getElem_cons_zero, List.getElem_cons_succ]
        refine wpAnyG_take1 (i := 7) (v := ?_) rfl (by kernel_rfl) (by kernel_rfl) (by kernel_rfl) (by kernel_rfl) (by kernel_rfl) rfl (fun _ _ _ h => h) (Or.inl ⟨by rfl, ?_⟩) hHeld ?_
        rotate_left
        · (intro w' hSw; (try dsimp only at hSw); go_simp; (try with_reducible rfl))
        simp only [Act.put, List.setIfInBounds_toArray, List.set_cons_zero, List.set_cons_succ, List.getElem_toArray, List.getElem_cons_zero, List.getElem_cons_succ]
        refine wpAnyG_take1 (i := 8) (v := ?_) rfl (by kernel_rfl) (by kernel_rfl) (by kernel_rfl) (by kernel_rfl) (by kernel_rfl) rfl (fun _ _ _ h => h) (Or.inl ⟨by rfl, ?_⟩) hHeld ?_
        rotate_left
        · (intro w' hSw; (try dsimp only at hSw); go_simp; (try with_reducible rfl))
        simp only [Act.put, List.setIfInBounds_toArray, List.set_cons_zero, List.set_cons_succ, List.getElem_toArray, List.getElem_cons_zero, List.getElem_cons_succ]
        refine wpAnyG_take1 (i := 9) (v := ?_) rfl (by kernel_rfl) (by kernel_rfl) (by kernel_rfl) (by kernel_rfl) (by kernel_rfl) rfl (fun _ _ _ h => h) (Or.inl ⟨by rfl, ?_⟩) hHeld ?_
        rotate_left
        · (intro w' hSw; (try dsimp only at hSw); go_simp; (try with_reducible rfl))
        simp only [Act.put, List.setIfInBounds_toArray, List.set_cons_zero, List.set_cons_succ, List.getElem_toArray, List.getElem_cons_zero, List.getElem_cons_succ]
        refine wpAnyG_take1 (i := 10) (v := ?_) rfl (by kernel_rfl) (by kernel_rfl) (by kernel_rfl) (by kernel_rfl) (by kernel_rfl) rfl (fun _ _ _ h => h) (Or.inl ⟨by rfl, ?_⟩) hHeld ?_
        rotate_left
        · (intro w' hSw; (try dsimp only at hSw); go_simp; (try with_reducible rfl))
        simp only [Act.put, List.setIfInBounds_toArray, List.set_cons_zero, List.set_cons_succ, List.getElem_toArray, List.getElem_cons_zero, List.getElem_cons_succ]
        refine wpAnyG_two (i := 11) (j := 15) (by kernel_rfl) rfl rfl (fun K hK => ?_) (fun K hK => ?_)
        · try simp only [List.getElem_toArray, List.getElem_cons_zero, List.getElem_cons_succ] at hK ⊢
          go_simp
          go_at_call 20
          refine (WR.out _ hcur).mono ?_
          intro e w4 hout
          obtain ⟨A9, c9, A9', c9', rfl, hown, hb4⟩ := DiskOut.as hout (S' := S) (C' := RL.take (k + 1)) (E' := 0) (n := n) (n' := k + 1) HNS.out.1 HNS.out.2 HNE.out HSL.out (by rw [List.length_take, HRL.out]; have := HKM.out.2; omega)
          have hcur := hcur.trans (hb4.mono hcur.size)
          refine hK.out _ _ (fun _ => keepX _ hcur) (fun hHeld => ?_)
          have hHeld := hHeld (by decide)
          clear hK K
          try simp only [Act.put, List.setIfInBounds_toArray, List.set_cons_zero, List.set_cons_succ, List.getElem_toArray, List.getElem_cons_zero, List.getElem_cons_succ]
          refine wpAnyG_take1 (i := 12) (v := ?_) rfl (by kernel_rfl) (by kernel_rfl) (by kernel_rfl) (by kernel_rfl) (by kernel_rfl) rfl (fun _ _ _ h => h) (Or.inl ⟨by rfl, ?_⟩) hHeld ?_
          rotate_left
          · (intro w' hSw; (try dsimp only at hSw); go_simp; (try with_reducible rfl))
          simp only [Act.put, List.setIfInBounds_toArray, List.set_cons_zero, List.set_cons_succ, List.getElem_toArray, List.getElem_cons_zero, List.getElem_cons_succ]
          refine wpAnyG_take1 (i := 13) (v := ?_) rfl (by kernel_rfl) (by kernel_rfl) (by kernel_rfl) (by kernel_rfl) (by kernel_rfl) rfl (fun _ _ _ h => h) (Or.inl ⟨by rfl, ?_⟩) hHeld ?_
          rotate_left
          · (intro w' hSw; (try dsimp only at hSw); go_simp; (try with_reducible rfl))
          simp only [Act.put, List.setIfInBounds_toArray, List.set_cons_zero, List.set_cons_succ, List.getElem_toArray, List.getElem_cons_zero, List.getElem_cons_succ]
          refine wpAnyG_take1 (i := 14) (v := ?_) rfl (by kernel_rfl) (by kernel_rfl) (by kernel_rfl) (by kernel_rfl) (by kernel_rfl) rfl (fun _ _ _ h => h) (Or.inl ⟨by rfl, ?_⟩) hHeld ?_
          rotate_left
          · (intro w' hSw; (try dsimp only at hSw); go_simp; (try with_reducible rfl))
          simp only [Act.put, List.setIfInBounds_toArray, List.set_cons_zero, List.set_cons_succ, List.getElem_toArray, List.getElem_cons_zero, List.getElem_cons_succ]
          refine wpAnyG_one (i := 15) (by kernel_rfl) rfl (fun K hK => ?_)
          try simp only [List.getElem_toArray, List.getElem_cons_zero, List.getElem_cons_succ] at hK ⊢
          go_simp
          have hcurA := hcur.alloc hcur.size (.cells #[.slice none 0 0, .slice none 0 0] 32)
          refine hK.out _ _ (fun _ => keepX _ hcurA) (fun hHeld => ?_)
          have hHeld := hHeld (by decide)
          clear hK K
          try simp only [Act.put, List.setIfInBounds_toArray, List.set_cons_zero, List.set_cons_succ, List.getElem_toArray, List.getElem_cons_zero, List.getElem_cons_succ]
          refine wpAnyG_one (i := 16) (by kernel_rfl) rfl (fun K hK => ?_)
          try simp only [List.getElem_toArray, List.getElem_cons_zero, List.getElem_cons_succ] at hK ⊢
          go_simp
          have hk2 : Below w4.heap.size w4 (w4.alloc (.cells #[.slice A9 n c9, .slice A9' (k + 1) c9'] 32)) := (Below.refl _ _).alloc (Nat.le_refl _) _
          have XX := DBox.new (Dsk.of_own hown)
          have hown := hown.below hk2
          have hcur := hcur.trans (hk2.mono hcur.size)
          clear hcurA hk2
          refine hK.out _ _ (fun _ => keepX _ hcur) (fun hHeld => ?_)
          have hHeld := hHeld (by decide)
          clear hK K
          try simp only [Act.put, List.setIfInBounds_toArray, List.set_cons_zero, List.set_cons_succ, List.getElem_toArray, List.getElem_cons_zero, List.getElem_cons_succ]
          refine wpAnyG_one (i := 17) (by kernel_rfl) rfl (fun K hK => ?_)
          try simp only [List.getElem_toArray, List.getElem_cons_zero, List.getElem_cons_succ] at hK ⊢
          go_simp
          refine hK.out _ _ (fun h => absurd rfl h) (fun _ => ?_)
          clear hK K
          refine wpAnyG_done (by kernel_rfl) ?_ _
          obtain ⟨GX, hGX⟩ : ∃ x, x = w4.heap.size := ⟨_, rfl⟩
          obtain ⟨wx, hwx⟩ : ∃ x, x = w4.alloc (.cells #[.slice A9 n c9, .slice A9' (k + 1) c9'] 32) := ⟨_, rfl⟩
          rw [← hwx] at XX hown hcur
          rw [← hGX] at XX
          rw [← hwx, ← hGX]
          clear hGX hwx hb4 hout
          have x4 := HX.out.below hcur HX.out.lt
          have p0 := x4.cell 0
          have p1 := x4.cell 1
          have f0 := x4.free 0
          have f1 := x4.free 1
          obtain ⟨y0, y1⟩ := XX.cells
          simp only [List.getElem?_cons_zero, List.getElem?_cons_succ] at p0 p1
          have HX4 := Lib.hid (x4.two (.slice A9 n c9) (.slice A9' (k + 1) c9'))
          have HO4 := Lib.hid ((hown.lower B.out.size).two x4 (.slice A9 n c9) (.slice A9' (k + 1) c9'))
          have HC4 := Lib.hid (((HC.out.below hcur HC.out.lt).away (by omega : w.heap.size ≠ w.heap.size + 1) 0 (.slice A9 n c9)).away (by omega : w.heap.size ≠ w.heap.size + 1) 1 (.slice A9' (k + 1) c9'))
          have HR4 := Lib.hid (((HR.out.below hcur HR.out.lt).away (by omega : w.heap.size + 2 ≠ w.heap.size + 1) 0 (.slice A9 n c9)).away (by omega : w.heap.size + 2 ≠ w.heap.size + 1) 1 (.slice A9' (k + 1) c9'))
          have HL4 := Lib.hid (((OL.out.below hcur).box x4 (by decide) (by decide) 0 (.slice A9 n c9)).box (x4.set 0 (.slice A9 n c9)) (by decide) (by decide) 1 (.slice A9' (k + 1) c9'))
          have HW4 := Lib.hid (owns_other_box (owns_other_box (owns_below OW.out hcur) x4 (by decide) 0 (.slice A9 n c9)) (x4.set 0 (.slice A9 n c9)) (by decide) 1 (.slice A9' (k + 1) c9'))
          have HQ4 := Lib.hid (owns_other_box (owns_other_box (owns_below OO.out hcur) x4 (by decide) 0 (.slice A9 n c9)) (x4.set 0 (.slice A9 n c9)) (by decide) 1 (.slice A9' (k + 1) c9'))
          have HB4 := Lib.hid (below_two (B.out.trans (hcur.mono B.out.size)) (by omega : w.heap.size ≤ w.heap.size + 1) (.slice A9 n c9) (.slice A9' (k + 1) c9'))
          clear hcur keepX hHeld hown XX x4 WR HNS HNE
          go_wp2
          go_roundw
          case rel => exact ⟨k + 1, A9, c9, A9', c9', by have := HKM.out; omega, by go_num, HC4.out, HX4.out, HR4.out, Dsk.of_own HO4.out, HL4.out, HW4.out, HQ4.out, HB4.out⟩
          case measure => have := HKM.out; simp [intOf]; omega
        · try simp only [List.getElem_toArray, List.getElem_cons_zero, List.getElem_cons_succ] at hK ⊢
          go_simp
          have hZ0 : Blk (wr.drew.alloc (.cells #[.slice none 0 0, .slice none 0 0] 32)) wr.heap.size 32 [.slice none 0 0, .slice none 0 0] := Blk.new wr.drew 32 [.slice none 0 0, .slice none 0 0]
          have hcur := hcur.alloc (show wr.heap.size ≤ wr.drew.heap.size from Nat.le_refl _) (.cells #[.slice none 0 0, .slice none 0 0] 32)
          refine hK.out _ _ (fun _ => keepX _ hcur) (fun hHeld => ?_)
          have hHeld := hHeld (by decide)
          clear hK K
          try simp only [Act.put, List.setIfInBounds_toArray, List.set_cons_zero, List.set_cons_succ, List.getElem_toArray, List.getElem_cons_zero, List.getElem_cons_succ]
          refine wpAnyG_one (i := 11) (by kernel_rfl) rfl (fun K hK => ?_)
          try simp only [List.getElem_toArray, List.getElem_cons_zero, List.getElem_cons_succ] at hK ⊢
          go_simp
          go_at_call 20
          refine (WR.out _ hcur).mono ?_
          intro e w4 hout
          obtain ⟨A9, c9, A9', c9', rfl, hown, hb4⟩ := DiskOut.as hout (S' := S) (C' := RL.take (k + 1)) (E' := 0) (n := n) (n' := k + 1) HNS.out.1 HNS.out.2 HNE.out HSL.out (by rw [List.length_take, HRL.out]; have := HKM.out.2; omega)
          have hcur := hcur.trans (hb4.mono hcur.size)
          have hZ := hZ0.below hb4 hZ0.lt
          have z0 := hZ.cell 0
          have z1 := hZ.cell 1
          have g0 := hZ.free 0
          have g1 := hZ.free 1
          simp only [List.getElem?_cons_zero, List.getElem?_cons_succ] at z0 z1
          refine hK.out _ _ (fun _ => keepX _ hcur) (fun hHeld => ?_)
          have hHeld := hHeld (by decide)
          clear hK K
          try simp only [Act.put, List.setIfInBounds_toArray, List.set_cons_zero, List.set_cons_succ, List.getElem_toArray, List.getElem_cons_zero, List.getElem_cons_succ]
          refine wpAnyG_take1 (i := 12) (v := ?_) rfl (by kernel_rfl) (by kernel_rfl) (by kernel_rfl) (by kernel_rfl) (by kernel_rfl) rfl (fun _ _ _ h => h) (Or.inl ⟨by rfl, ?_⟩) hHeld ?_
          rotate_left
          · (intro w' hSw; (try dsimp only at hSw); go_simp; (try with_reducible rfl))
          simp only [Act.put, List.setIfInBounds_toArray, List.set_cons_zero, List.set_cons_succ, List.getElem_toArray, List.getElem_cons_zero, List.getElem_cons_succ]
          refine wpAnyG_take1 (i := 13) (v := ?_) rfl (by kernel_rfl) (by kernel_rfl) (by kernel_rfl) (by kernel_rfl) (by kernel_rfl) rfl (fun _ _ _ h => h) (Or.inl ⟨by rfl, ?_⟩) hHeld ?_
          rotate_left
          · (intro w' hSw; (try dsimp only at hSw); go_simp; (try with_reducible rfl))
          simp only [Act.put, List.setIfInBounds_toArray, List.set_cons_zero, List.set_cons_succ, List.getElem_toArray, List.getElem_cons_zero, List.getElem_cons_succ]
          refine wpAnyG_take1 (i := 14) (v := ?_) rfl (by kernel_rfl) (by kernel_rfl) (by kernel_rfl) (by kernel_rfl) (by kernel_rfl) rfl (fun _ _ _ h => h) (Or.inl ⟨by rfl, ?_⟩) hHeld ?_
          rotate_left
          · (intro w' hSw; (try dsimp only at hSw); go_simp; (try with_reducible rfl))
          simp only [Act.put, List.setIfInBounds_toArray, List.set_cons_zero, List.set_cons_succ, List.getElem_toArray, List.getElem_cons_zero, List.getElem_cons_succ]
          refine wpAnyG_one (i := 16) (by kernel_rfl) rfl (fun K hK => ?_)
          try simp only [List.getElem_toArray, List.getElem_cons_zero, List.getElem_cons_succ] at hK ⊢
          go_simp
          have OZ := hown.two hZ (.slice A9 n c9) (.slice A9' (k + 1) c9')
          have XX : DBox _ wr.heap.size A9 n c9 A9' (k + 1) c9' _ _ := ⟨hZ.two (.slice A9 n c9) (.slice A9' (k + 1) c9'), Dsk.of_own OZ⟩
          have hown := OZ.lower (Nat.le_of_lt hZ0.lt)
          have hcur := below_two hcur (Nat.le_refl wr.heap.size) (.slice A9 n c9) (.slice A9' (k + 1) c9')
          clear z0 z1 g0 g1 hZ hZ0 OZ
          refine hK.out _ _ (fun _ => keepX _ hcur) (fun hHeld => ?_)
          have hHeld := hHeld (by decide)
          clear hK K
          try simp only [Act.put, List.setIfInBounds_toArray, List.set_cons_zero, List.set_cons_succ, List.getElem_toArray, List.getElem_cons_zero, List.getElem_cons_succ]
          refine wpAnyG_one (i := 17) (by kernel_rfl) rfl (fun K hK => ?_)
          try simp only [List.getElem_toArray, List.getElem_cons_zero, List.getElem_cons_succ] at hK ⊢
          go_simp
          refine hK.out _ _ (fun h => absurd rfl h) (fun _ => ?_)
          clear hK K
          refine wpAnyG_done (by kernel_rfl) ?_ _
          obtain ⟨GX, hGX⟩ : ∃ x, x = wr.heap.size := ⟨_, rfl⟩
          obtain ⟨wx, hwx⟩ : ∃ x, x = (w4.setCell ⟨wr.heap.size, 0, none⟩ (.slice A9 n c9)).setCell ⟨wr.heap.size, 1, none⟩ (.slice A9' (k + 1) c9') := ⟨_, rfl⟩
          rw [← hwx] at XX hown hcur
          rw [← hGX] at XX
          rw [← hwx, ← hGX]
          clear hGX hwx hb4 hout
          have x4 := HX.out.below hcur HX.out.lt
          have p0 := x4.cell 0
          have p1 := x4.cell 1
          have f0 := x4.free 0
          have f1 := x4.free 1
          obtain ⟨y0, y1⟩ := XX.cells
          simp only [List.getElem?_cons_zero, List.getElem?_cons_succ] at p0 p1
          have HX4 := Lib.hid (x4.two (.slice A9 n c9) (.slice A9' (k + 1) c9'))
          have HO4 := Lib.hid ((hown.lower B.out.size).two x4 (.slice A9 n c9) (.slice A9' (k + 1) c9'))
          have HC4 := Lib.hid (((HC.out.below hcur HC.out.lt).away (by omega : w.heap.size ≠ w.heap.size + 1) 0 (.slice A9 n c9)).away (by omega : w.heap.size ≠ w.heap.size + 1) 1 (.slice A9' (k + 1) c9'))
          have HR4 := Lib.hid (((HR.out.below hcur HR.out.lt).away (by omega : w.heap.size + 2 ≠ w.heap.size + 1) 0 (.slice A9 n c9)).away (by omega : w.heap.size + 2 ≠ w.heap.size + 1) 1 (.slice A9' (k + 1) c9'))
          have HL4 := Lib.hid (((OL.out.below hcur).box x4 (by decide) (by decide) 0 (.slice A9 n c9)).box (x4.set 0 (.slice A9 n c9)) (by decide) (by decide) 1 (.slice A9' (k + 1) c9'))
          have HW4 := Lib.hid (owns_other_box (owns_other_box (owns_below OW.out hcur) x4 (by decide) 0 (.slice A9 n c9)) (x4.set 0 (.slice A9 n c9)) (by decide) 1 (.slice A9' (k + 1) c9'))
          have HQ4 := Lib.hid (owns_other_box (owns_other_box (owns_below OO.out hcur) x4 (by decide) 0 (.slice A9 n c9)) (x4.set 0 (.slice A9 n c9)) (by decide) 1 (.slice A9' (k + 1) c9'))
          have HB4 := Lib.hid (below_two (B.out.trans (hcur.mono B.out.size)) (by omega : w.heap.size ≤ w.heap.size + 1) (.slice A9 n c9) (.slice A9' (k + 1) c9'))
          clear hcur keepX hHeld hown XX x4 WR HNS HNE
          go_wp2
          go_roundw
          case rel => exact ⟨k + 1, A9, c9, A9', c9', by have := HKM.out; omega, by go_num, HC4.out, HX4.out, HR4.out, Dsk.of_own HO4.out, HL4.out, HW4.out, HQ4.out, HB4.out⟩
          case measure => have := HKM.out; simp [intOf]; omega
      · skip
        obtain ⟨hmay2, hnow, _⟩ := CT.out k hk
        have hoth := CO.out k hk
        have hsm := small_more (C := []) SZ.out HG.out (k := k) (by simp; omega)
        rw [List.nil_append] at hsm
        obtain ⟨DD, hD⟩ : ∃ DD, DD = RL.take k := ⟨_, rfl⟩
        rw [← hD] at hmay2 hnow hoth hsm hd
        have hcm := cr_may hmay2 F
        have hs3 := cr_small hsm F
        have hck : chkD S DD = 0 := by unfold chkD; rw [if_pos hmay2]
        have CR := Lib.hid (fun wx (hx : Dsk wx A1 n x1 A1' k x1' S DD) (hr : Arg wx .u8 a5 len5 cap5 F) => dsk_does.crash A1 n x1 A1' k x1' S DD a5 len5 cap5 F wx hx hsm hr FY.out HF200.out)
        obtain ⟨S3, hS3⟩ : ∃ x, x = crS S DD F := ⟨_, rfl⟩
        rw [← hS3] at hcm hs3 hnow hoth CR
        have R3 := Lib.hid (fun A9 c9 A9' c9' wx (hx : Dsk wx A9 n c9 A9' 0 c9' S3 []) => tread_any P T A M W Q A9 n c9 A9' 0 c9' S3 [] l0 l1 wx hx hs3)
        have R4 := Lib.hid (fun A9 c9 A9' c9' wx (hx : Dsk wx A9 n c9 A9' 0 c9' S3 []) => tread_any P T A M W Q A9 n c9 A9' 0 c9' S3 [] l2 l3 wx hx hs3)
        unfold RowOut at R3 R4
        have HL3 := Lib.hid (hcm.2.trans HSL.out)
        have HCK := Lib.hid hck
        obtain ⟨E3, hE3⟩ : ∃ v, v = trE P T A M W Q S3 [] l0 l1 := ⟨_, rfl⟩
        obtain ⟨b3, hb3⟩ : ∃ v, v = trB P T A M W Q S3 [] l0 l1 := ⟨_, rfl⟩
        obtain ⟨E4, hE4⟩ : ∃ v, v = trE P T A M W Q S3 [] l2 l3 := ⟨_, rfl⟩
        obtain ⟨b4, hb4⟩ : ∃ v, v = trB P T A M W Q S3 [] l2 l3 := ⟨_, rfl⟩
        rw [← hE3, ← hb3] at R3 hnow
        rw [← hE4, ← hb4] at R4 hoth
        obtain ⟨m3, hm3⟩ : ∃ m, m = b3.length := ⟨_, rfl⟩
        obtain ⟨m4, hm4⟩ : ∃ m, m = b4.length := ⟨_, rfl⟩
        rw [← hm3] at R3
        rw [← hm4] at R4
        have X := Lib.hid (show ABox wr w.heap.size P T A M W Q A1 n x1 A1' k x1' S DD l0 l1 l2 l3 from ⟨⟨hcf, ⟨hx, hd⟩⟩, har⟩)
        have OW := Lib.hid how
        have OO := Lib.hid hoo
        have B := Lib.hid hbw
        have NOW := Lib.hid hnow
        have OTH := Lib.hid hoth
        obtain ⟨c0, c1, c2, c3, c4, c5, d0, d1, q0, q1, q2, q3⟩ := X.out.cells
        have hexit : ((k : Int) < many ∧ ¬ (k : Int) < 2) ∨ ¬ (k : Int) < many := by omega
        have RB := Lib.hid (fun wx (hx : Below w.heap.size w wx) => (RB0.out.below hx))
        have RF := Lib.hid (fun wx (hx : Below w.heap.size w wx) => (RF0.out.below hx))
        clear hk hx hcf har hd hol how hoo hbw hgo hmay2 hnow hoth hsm hD hcm hs3 hck hS3 hE3 hb3 hE4 hb4 hm3 hm4 CT CO
        rcases hexit with ⟨ex1, ex2⟩ | ex1
        · skip
          go_wp2_with fail
          refine (CR.out _ X.out.two.dsk.dsk (RF.out _ B.out)).mono ?_
          intro e wg hout
          obtain ⟨AX, cX, AX', cX', rfl, hown, hb⟩ := DiskOut.as hout (S' := S3) (C' := []) (E' := 0) (n := n) (n' := 0) rfl rfl HCK.out HL3.out rfl
          have hkA : Below wg.heap.size wg (wg.alloc (.cells #[.slice AX n cX, .slice AX' 0 cX'] 32)) := (Below.refl _ _).alloc (Nat.le_refl _) _
          have hb := hb.trans (hkA.mono hb.size)
          have XX := DBox.new (Dsk.of_own hown)
          have B := Lib.hid (B.out.trans (hb.mono B.out.size))
          have X := Lib.hid (X.out.below hb)
          have OW := Lib.hid (owns_below OW.out hb)
          have OO := Lib.hid (owns_below OO.out hb)
          clear hb hkA hown hout CR c0 c1 c2 c3 c4 c5 d0 d1 q0 q1 q2 q3
          obtain ⟨GX, hGX⟩ : ∃ x, x = wg.heap.size := ⟨_, rfl⟩
          go_upto_region 17 with fail
          rw [← hGX] at XX ⊢
          obtain ⟨wh, hW⟩ : ∃ x : World, x = wg.alloc (.cells #[.slice AX n cX, .slice AX' 0 cX'] 32) := ⟨_, rfl⟩
          rw [← hW] at XX OW OO B X ⊢
          clear hW hGX
          have XX := Lib.hid XX
          obtain ⟨c0, c1, c2, c3, c4, c5, d0, d1, q0, q1, q2, q3⟩ := X.out.cells
          obtain ⟨x0, x1⟩ := XX.out.cells
          go_wp2_with fail
          refine (R3.out AX cX AX' cX' _ XX.out.dsk).mono ?_
          rintro e wi ⟨AN, cN, rfl, hown, hb⟩
          have ON := Lib.hid hown
          have B := Lib.hid (B.out.trans (hb.mono B.out.size))
          have X := Lib.hid (X.out.below hb)
          have XX := Lib.hid (XX.out.below hb)
          have OW := Lib.hid (owns_below OW.out hb)
          have OO := Lib.hid (owns_below OO.out hb)
          clear hb hown R3 x0 x1 c0 c1 c2 c3 c4 c5 d0 d1 q0 q1 q2 q3
          obtain ⟨c0, c1, c2, c3, c4, c5, d0, d1, q0, q1, q2, q3⟩ := X.out.cells
          obtain ⟨x0, x1⟩ := XX.out.cells
          go_wp2_with fail
          refine (R4.out AX cX AX' cX' _ XX.out.dsk).mono ?_
          rintro e wj ⟨AP, cP, rfl, hown, hb⟩
          have OP2 := Lib.hid hown
          have B := Lib.hid (B.out.trans (hb.mono B.out.size))
          have X := Lib.hid (X.out.below hb)
          have XX := Lib.hid (XX.out.below hb)
          have OW := Lib.hid (owns_below OW.out hb)
          have OO := Lib.hid (owns_below OO.out hb)
          have ON := Lib.hid (owns_below ON.out hb)
          clear hb hown R4 x0 x1 c0 c1 c2 c3 c4 c5 d0 d1 q0 q1 q2 q3
          obtain ⟨c0, c1, c2, c3, c4, c5, d0, d1, q0, q1, q2, q3⟩ := X.out.cells
          have es1 := str_arg (Arg.own ON.out)
          have es2 := str_arg (Arg.own OW.out)
          have es3 := str_arg (Arg.own OP2.out)
          have es4 := str_arg (Arg.own OO.out)
          have es5 := str_arg (RB.out _ B.out)
          go_upto_region 19 with fail
          have hnow := NOW.out
          have hoth := OTH.out
          clear NOW OTH
          by_cases h02 : l0 = l2
          · subst h02
            have h02b : (l0 != l0) = false := bne_self_eq_false _
            by_cases h13 : l1 = l3
            · subst h13
              have h13b : (l1 != l1) = false := bne_self_eq_false _
              clear hoth
              rcases hnow with ⟨h1, h2⟩ | ⟨h1, h2⟩
              · subst h1
                subst h2
                have n1 : (E3 == E3) = true := beq_self_eq_true _
                have n2 : ((strOfNums b3).toList == (strOfNums b3).toList) = true := beq_self_eq_true _
                go_wp2
                go_ret
                exact ⟨rfl, B.out⟩
              · subst h1
                subst h2
                have n2 : ((strOfNums b3).toList == (strOfNums b3).toList) = true := beq_self_eq_true _
                by_cases hz : EW = 0
                · subst hz
                  cases hq : ((strOfNums b3).toList == (strOfNums bW).toList) with
                  | true =>
                    go_wp2
                    go_ret
                    exact ⟨rfl, B.out⟩
                  | false =>
                    go_wp2
                    go_ret
                    exact ⟨rfl, B.out⟩
                · have hz1 : ((0 : Int) == EW) = false := beq_eq_false_iff_ne.2 (fun e => hz e.symm)
                  have hz2 : (0 : Int) ≠ EW := fun e => hz e.symm
                  go_wp2
                  go_ret
                  exact ⟨rfl, B.out⟩
            · have h13b : (l1 != l3) = true := bne_iff_ne.2 h13
              obtain ⟨j1, j2⟩ := hoth (.inr h13)
              subst j1
              subst j2
              have o1 : (E4 != E4) = false := bne_self_eq_false _
              have o2 : ((strOfNums b4).toList != (strOfNums b4).toList) = false := bne_self_eq_false _
              rcases hnow with ⟨h1, h2⟩ | ⟨h1, h2⟩
              · subst h1
                subst h2
                have n1 : (E3 == E3) = true := beq_self_eq_true _
                have n2 : ((strOfNums b3).toList == (strOfNums b3).toList) = true := beq_self_eq_true _
                go_wp2
                go_ret
                exact ⟨rfl, B.out⟩
              · subst h1
                subst h2
                have n2 : ((strOfNums b3).toList == (strOfNums b3).toList) = true := beq_self_eq_true _
                by_cases hz : EW = 0
                · subst hz
                  cases hq : ((strOfNums b3).toList == (strOfNums bW).toList) with
                  | true =>
                    go_wp2
                    go_ret
                    exact ⟨rfl, B.out⟩
                  | false =>
                    go_wp2
                    go_ret
                    exact ⟨rfl, B.out⟩
                · have hz1 : ((0 : Int) == EW) = false := beq_eq_false_iff_ne.2 (fun e => hz e.symm)
                  have hz2 : (0 : Int) ≠ EW := fun e => hz e.symm
                  go_wp2
                  go_ret
                  exact ⟨rfl, B.out⟩
          · have h02b : (l0 != l2) = true := bne_iff_ne.2 h02
            obtain ⟨j1, j2⟩ := hoth (.inl h02)
            subst j1
            subst j2
            have o1 : (E4 != E4) = false := bne_self_eq_false _
            have o2 : ((strOfNums b4).toList != (strOfNums b4).toList) = false := bne_self_eq_false _
            rcases hnow with ⟨h1, h2⟩ | ⟨h1, h2⟩
            · subst h1
              subst h2
              have n1 : (E3 == E3) = true := beq_self_eq_true _
              have n2 : ((strOfNums b3).toList == (strOfNums b3).toList) = true := beq_self_eq_true _
              go_wp2
              go_ret
              exact ⟨rfl, B.out⟩
            · subst h1
              subst h2
              have n2 : ((strOfNums b3).toList == (strOfNums b3).toList) = true := beq_self_eq_true _
              by_cases hz : EW = 0
              · subst hz
                cases hq : ((strOfNums b3).toList == (strOfNums bW).toList) with
                | true =>
                  go_wp2
                  go_ret
                  exact ⟨rfl, B.out⟩
                | false =>
                  go_wp2
                  go_ret
                  exact ⟨rfl, B.out⟩
              · have hz1 : ((0 : Int) == EW) = false := beq_eq_false_iff_ne.2 (fun e => hz e.symm)
                have hz2 : (0 : Int) ≠ EW := fun e => hz e.symm
                go_wp2
                go_ret
                exact ⟨rfl, B.out⟩
        · skip
          go_wp2_with fail
          refine (CR.out _ X.out.two.dsk.dsk (RF.out _ B.out)).mono ?_
          intro e wg hout
          obtain ⟨AX, cX, AX', cX', rfl, hown, hb⟩ := DiskOut.as hout (S' := S3) (C' := []) (E' := 0) (n := n) (n' := 0) rfl rfl HCK.out HL3.out rfl
          have hkA : Below wg.heap.size wg (wg.alloc (.cells #[.slice AX n cX, .slice AX' 0 cX'] 32)) := (Below.refl _ _).alloc (Nat.le_refl _) _
          have hb := hb.trans (hkA.mono hb.size)
          have XX := DBox.new (Dsk.of_own hown)
          have B := Lib.hid (B.out.trans (hb.mono B.out.size))
          have X := Lib.hid (X.out.below hb)
          have OW := Lib.hid (owns_below OW.out hb)
          have OO := Lib.hid (owns_below OO.out hb)
          clear hb hkA hown hout CR c0 c1 c2 c3 c4 c5 d0 d1 q0 q1 q2 q3
          obtain ⟨GX, hGX⟩ : ∃ x, x = wg.heap.size := ⟨_, rfl⟩
          go_upto_region 17 with fail
          rw [← hGX] at XX ⊢
          obtain ⟨wh, hW⟩ : ∃ x : World, x = wg.alloc (.cells #[.slice AX n cX, .slice AX' 0 cX'] 32) := ⟨_, rfl⟩
          rw [← hW] at XX OW OO B X ⊢
          clear hW hGX
          have XX := Lib.hid XX
          obtain ⟨c0, c1, c2, c3, c4, c5, d0, d1, q0, q1, q2, q3⟩ := X.out.cells
          obtain ⟨x0, x1⟩ := XX.out.cells
          go_wp2_with fail
          refine (R3.out AX cX AX' cX' _ XX.out.dsk).mono ?_
          rintro e wi ⟨AN, cN, rfl, hown, hb⟩
          have ON := Lib.hid hown
          have B := Lib.hid (B.out.trans (hb.mono B.out.size))
          have X := Lib.hid (X.out.below hb)
          have XX := Lib.hid (XX.out.below hb)
          have OW := Lib.hid (owns_below OW.out hb)
          have OO := Lib.hid (owns_below OO.out hb)
          clear hb hown R3 x0 x1 c0 c1 c2 c3 c4 c5 d0 d1 q0 q1 q2 q3
          obtain ⟨c0, c1, c2, c3, c4, c5, d0, d1, q0, q1, q2, q3⟩ := X.out.cells
          obtain ⟨x0, x1⟩ := XX.out.cells
          go_wp2_with fail
          refine (R4.out AX cX AX' cX' _ XX.out.dsk).mono ?_
          rintro e wj ⟨AP, cP, rfl, hown, hb⟩
          have OP2 := Lib.hid hown
          have B := Lib.hid (B.out.trans (hb.mono B.out.size))
          have X := Lib.hid (X.out.below hb)
          have XX := Lib.hid (XX.out.below hb)
          have OW := Lib.hid (owns_below OW.out hb)
          have OO := Lib.hid (owns_below OO.out hb)
          have ON := Lib.hid (owns_below ON.out hb)
          clear hb hown R4 x0 x1 c0 c1 c2 c3 c4 c5 d0 d1 q0 q1 q2 q3
          obtain ⟨c0, c1, c2, c3, c4, c5, d0, d1, q0, q1, q2, q3⟩ := X.out.cells
          have es1 := str_arg (Arg.own ON.out)
          have es2 := str_arg (Arg.own OW.out)
          have es3 := str_arg (Arg.own OP2.out)
          have es4 := str_arg (Arg.own OO.out)
          have es5 := str_arg (RB.out _ B.out)
          go_upto_region 19 with fail
          have hnow := NOW.out
          have hoth := OTH.out
          clear NOW OTH
          by_cases h02 : l0 = l2
          · subst h02
            have h02b : (l0 != l0) = false := bne_self_eq_false _
            by_cases h13 : l1 = l3
            · subst h13
              have h13b : (l1 != l1) = false := bne_self_eq_false _
              clear hoth
              rcases hnow with ⟨h1, h2⟩ | ⟨h1, h2⟩
              · subst h1
                subst h2
                have n1 : (E3 == E3) = true := beq_self_eq_true _
                have n2 : ((strOfNums b3).toList == (strOfNums b3).toList) = true := beq_self_eq_true _
                go_wp2
                go_ret
                exact ⟨rfl, B.out⟩
              · subst h1
                subst h2
                have n2 : ((strOfNums b3).toList == (strOfNums b3).toList) = true := beq_self_eq_true _
                by_cases hz : EW = 0
                · subst hz
                  cases hq : ((strOfNums b3).toList == (strOfNums bW).toList) with
                  | true =>
                    go_wp2
                    go_ret
                    exact ⟨rfl, B.out⟩
                  | false =>
                    go_wp2
                    go_ret
                    exact ⟨rfl, B.out⟩
                · have hz1 : ((0 : Int) == EW) = false := beq_eq_false_iff_ne.2 (fun e => hz e.symm)
                  have hz2 : (0 : Int) ≠ EW := fun e => hz e.symm
                  go_wp2
                  go_ret
                  exact ⟨rfl, B.out⟩
            · have h13b : (l1 != l3) = true := bne_iff_ne.2 h13
              obtain ⟨j1, j2⟩ := hoth (.inr h13)
              subst j1
              subst j2
              have o1 : (E4 != E4) = false := bne_self_eq_false _
              have o2 : ((strOfNums b4).toList != (strOfNums b4).toList) = false := bne_self_eq_false _
              rcases hnow with ⟨h1, h2⟩ | ⟨h1, h2⟩
              · subst h1
                subst h2
                have n1 : (E3 == E3) = true := beq_self_eq_true _
                have n2 : ((strOfNums b3).toList == (strOfNums b3).toList) = true := beq_self_eq_true _
                go_wp2
                go_ret
                exact ⟨rfl, B.out⟩
              · subst h1
                subst h2
                have n2 : ((strOfNums b3).toList == (strOfNums b3).toList) = true := beq_self_eq_true _
                by_cases hz : EW = 0
                · subst hz
                  cases hq : ((strOfNums b3).toList == (strOfNums bW).toList) with
                  | true =>
                    go_wp2
                    go_ret
                    exact ⟨rfl, B.out⟩
                  | false =>
                    go_wp2
                    go_ret
                    exact ⟨rfl, B.out⟩
                · have hz1 : ((0 : Int) == EW) = false := beq_eq_false_iff_ne.2 (fun e => hz e.symm)
                  have hz2 : (0 : Int) ≠ EW := fun e => hz e.symm
                  go_wp2
                  go_ret
                  exact ⟨rfl, B.out⟩
          · have h02b : (l0 != l2) = true := bne_iff_ne.2 h02
            obtain ⟨j1, j2⟩ := hoth (.inl h02)
            subst j1
            subst j2
            have o1 : (E4 != E4) = false := bne_self_eq_false _
            have o2 : ((strOfNums b4).toList != (strOfNums b4).toList) = false := bne_self_eq_false _
            rcases hnow with ⟨h1, h2⟩ | ⟨h1, h2⟩
            · subst h1
              subst h2
              have n1 : (E3 == E3) = true := beq_self_eq_true _
              have n2 : ((strOfNums b3).toList == (strOfNums b3).toList) = true := beq_self_eq_true _
              go_wp2
              go_ret
              exact ⟨rfl, B.out⟩
            · subst h1
              subst h2
              have n2 : ((strOfNums b3).toList == (strOfNums b3).toList) = true := beq_self_eq_true _
              by_cases hz : EW = 0
              · subst hz
                cases hq : ((strOfNums b3).toList == (strOfNums bW).toList) with
                | true =>
                  go_wp2
                  go_ret
                  exact ⟨rfl, B.out⟩
                | false =>
                  go_wp2
                  go_ret
                  exact ⟨rfl, B.out⟩
              · have hz1 : ((0 : Int) == EW) = false := beq_eq_false_iff_ne.2 (fun e => hz e.symm)
                have hz2 : (0 : Int) ≠ EW := fun e => hz e.symm
                go_wp2
                go_ret
                exact ⟨rfl, B.out⟩
  · have hR : tpL P T A M W Q S [] l0 l1 b = [] := if_neg hE
    rw [hR] at PL
    obtain ⟨E2, hE2⟩ : ∃ v, v = tpE P T A M W Q S [] l0 l1 b := ⟨_, rfl⟩
    rw [← hE2] at PL hE
    have hne : (E2 != 0) = true := bne_iff_ne.2 hE
    have hne2 : ((([] : List Pnd).length : Int) == 0) = true := rfl
    obtain ⟨mW, hmW⟩ : ∃ m, m = bW.length := ⟨_, rfl⟩
    obtain ⟨mO, hmO⟩ : ∃ m, m = bO.length := ⟨_, rfl⟩
    rw [← hmW] at RD1
    rw [← hmO] at RD2
    clear hR hE2 hE hEW hbW hEO hbO hmW hmO hbl hFl hl1 hl3 hsl
    go_enter Try.func13, Try.ntmps13
    go_wp2_with fail
    rw [← hw0]
    clear hw0
    refine (alive_track _).mono ?_
    rintro e wa ⟨rfl, hb⟩
    have B := Lib.hid (B.out.trans (hb.mono B.out.size))
    have X := Lib.hid (X.out.below hb)
    have RB := Lib.hid (RB.out.below hb)
    have RF := Lib.hid (RF.out.below hb)
    clear hb c0 c1 c2 c3 c4 c5 d0 d1 q0 q1 q2 q3
    obtain ⟨c0, c1, c2, c3, c4, c5, d0, d1, q0, q1, q2, q3⟩ := X.out.cells
    go_wp2_with fail
    refine (GG.out _ X.out.two.dsk.dsk).mono ?_
    rintro e wb ⟨rfl, hb⟩
    have B := Lib.hid (B.out.trans (hb.mono B.out.size))
    have X := Lib.hid (X.out.below hb)
    have RB := Lib.hid (RB.out.below hb)
    have RF := Lib.hid (RF.out.below hb)
    clear hb c0 c1 c2 c3 c4 c5 d0 d1 q0 q1 q2 q3
    obtain ⟨c0, c1, c2, c3, c4, c5, d0, d1, q0, q1, q2, q3⟩ := X.out.cells
    go_wp2_with fail
    refine (RD1.out _ X.out.two.dsk.dsk).mono ?_
    rintro e wc ⟨AR, cR, rfl, hown, hb⟩
    have OW := Lib.hid (owns_base (base' := w.heap.size) hown B.out.size)
    have B := Lib.hid (B.out.trans (hb.mono B.out.size))
    have X := Lib.hid (X.out.below hb)
    have RB := Lib.hid (RB.out.below hb)
    have RF := Lib.hid (RF.out.below hb)
    clear hb hown RD1 c0 c1 c2 c3 c4 c5 d0 d1 q0 q1 q2 q3
    obtain ⟨c0, c1, c2, c3, c4, c5, d0, d1, q0, q1, q2, q3⟩ := X.out.cells
    go_wp2_with fail
    refine (RD2.out _ X.out.two.dsk.dsk).mono ?_
    rintro e wd ⟨AO, cO, rfl, hown, hb⟩
    have OO := Lib.hid (owns_base (base' := w.heap.size) hown B.out.size)
    have B := Lib.hid (B.out.trans (hb.mono B.out.size))
    have X := Lib.hid (X.out.below hb)
    have RB := Lib.hid (RB.out.below hb)
    have RF := Lib.hid (RF.out.below hb)
    have OW := Lib.hid (owns_below OW.out hb)
    clear hb hown RD2 c0 c1 c2 c3 c4 c5 d0 d1 q0 q1 q2 q3
    obtain ⟨c0, c1, c2, c3, c4, c5, d0, d1, q0, q1, q2, q3⟩ := X.out.cells
    go_wp2_with fail
    refine (PL.out _ X.out.two.dsk.dsk RB.out).mono ?_
    rintro e we ⟨Al, cl, rfl, hown, hb⟩
    have B := Lib.hid (B.out.trans (hb.mono B.out.size))
    clear hown hb PL c0 c1 c2 c3 c4 c5 d0 d1 q0 q1 q2 q3
    go_wp2
    go_ret
    exact ⟨by simp, B.out⟩

end Go.Proofs.Ytnmlplfcdnakhaa
