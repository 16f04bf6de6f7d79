/- Layer 15, the program's: Read. No statement is proved here. -/
import Derived.Test.YtdgfofemogmmkaaFrP4
namespace Go.Proofs.Ytdgfofemogmmkaa
open Go.RowKit
set_option linter.unusedVariables false
set_option maxRecDepth 100000

set_option maxHeartbeats 3200000 in
theorem pread15_short (A : Option Addr) (n c : Nat) (w : World) (hn : n < 20) : Calls Try.prog 9 #[.slice A n c] w (FrdOut w zFr 10) := by
  obtain ⟨x, hbel⟩ := box_frm w 0 0 0 0 none 0 0
  obtain ⟨w1, hw1⟩ : ∃ x : World, x = (w.alloc (.cells #[.int .u32 0, .int .u32 0, .int .u32 0, .int .u32 0, .slice none 0 0] 25)) := ⟨_, rfl⟩
  rw [← hw1] at x hbel
  obtain ⟨d0, d1, d2, d3, d4⟩ := x.frm
  have f0 := x.free 0
  have f1 := x.free 1
  have f2 := x.free 2
  have f3 := x.free 3
  have f4 := x.free 4
  have X := Lib.hid x
  have B := Lib.hid hbel
  have hni : (n : Int) < 20 := by omega
  clear x hbel hn
  go_enter Try.func9, Try.ntmps9
  go_upto_region 1 with fail
  rw [← hw1]
  clear hw1
  go_wp2
  obtain ⟨y0, y1, y2, y3, y4⟩ := (X.out.frm5 (.int .u32 0) (.int .u32 0) (.int .u32 0) (.int .u32 0) (.slice none 0 0)).frm
  have BF := Lib.hid (below_frm (g := w.heap.size) B.out (Nat.le_refl _) (.int .u32 0) (.int .u32 0) (.int .u32 0) (.int .u32 0) (.slice none 0 0))
  refine bodyPost_ret (v := .tuple #[frmV 0 0 0 0 none 0 0, .int .i64 10]) ?_ rfl ⟨none, 0, rfl, World.ownsRow_nil _ _ _ _, BF.out⟩
  clear d0 d1 d2 d3 d4 f0 f1 f2 f3 f4
  simp [results, Try.f9, go_sem, y0, y1, y2, y3, y4]

set_option maxHeartbeats 3200000 in
theorem pread15_long (A : Option Addr) (n c : Nat) (w : World) (hn : 84 < n) : Calls Try.prog 9 #[.slice A n c] w (FrdOut w zFr 150) := by
  obtain ⟨x, hbel⟩ := box_frm w 0 0 0 0 none 0 0
  obtain ⟨w1, hw1⟩ : ∃ x : World, x = (w.alloc (.cells #[.int .u32 0, .int .u32 0, .int .u32 0, .int .u32 0, .slice none 0 0] 25)) := ⟨_, rfl⟩
  rw [← hw1] at x hbel
  obtain ⟨d0, d1, d2, d3, d4⟩ := x.frm
  have f0 := x.free 0
  have f1 := x.free 1
  have f2 := x.free 2
  have f3 := x.free 3
  have f4 := x.free 4
  have X := Lib.hid x
  have B := Lib.hid hbel
  have hni : ¬ (n : Int) < 20 := by omega
  have hni2 : (84 : Int) < n := by omega
  clear x hbel hn
  go_enter Try.func9, Try.ntmps9
  go_upto_region 1 with fail
  rw [← hw1]
  clear hw1
  go_wp2
  obtain ⟨y0, y1, y2, y3, y4⟩ := (X.out.frm5 (.int .u32 0) (.int .u32 0) (.int .u32 0) (.int .u32 0) (.slice none 0 0)).frm
  have BF := Lib.hid (below_frm (g := w.heap.size) B.out (Nat.le_refl _) (.int .u32 0) (.int .u32 0) (.int .u32 0) (.int .u32 0) (.slice none 0 0))
  refine bodyPost_ret (v := .tuple #[frmV 0 0 0 0 none 0 0, .int .i64 150]) ?_ rfl ⟨none, 0, rfl, World.ownsRow_nil _ _ _ _, BF.out⟩
  clear d0 d1 d2 d3 d4 f0 f1 f2 f3 f4
  simp [results, Try.f9, go_sem, y0, y1, y2, y3, y4]

set_option maxHeartbeats 3200000 in
theorem pread15_bad (A : Option Addr) (n c : Nat) (t : List Int) (w : World) (h : Arg w .u8 A n c t) (hby : ∀ z ∈ t, isByte z) (hn : 20 ≤ n ∧ n ≤ 84) (hE : opE t ≠ 0) : Calls Try.prog 9 #[.slice A n c] w (FrdOut w zFr (opE t)) := by
  obtain ⟨x, hbel⟩ := box_frm w 0 0 0 0 none 0 0
  obtain ⟨w1, hw1⟩ : ∃ x : World, x = (w.alloc (.cells #[.int .u32 0, .int .u32 0, .int .u32 0, .int .u32 0, .slice none 0 0] 25)) := ⟨_, rfl⟩
  rw [← hw1] at x hbel
  obtain ⟨d0, d1, d2, d3, d4⟩ := x.frm
  have f0 := x.free 0
  have f1 := x.free 1
  have f2 := x.free 2
  have f3 := x.free 3
  have f4 := x.free 4
  have X := Lib.hid x
  have B := Lib.hid hbel
  have hni : ¬ (n : Int) < 20 := by omega
  have hni2 : ¬ (84 : Int) < n := by omega
  have OP := Lib.hid (open_gen A n c t w1 (h.below hbel) hby)
  rw [opB_not hE] at OP
  obtain ⟨E, hEe⟩ : ∃ E, E = opE t := ⟨_, rfl⟩
  rw [← hEe] at OP hE ⊢
  have hq : (E != 0) = true := bne_iff_ne.2 hE
  clear x hbel hn hEe h hby
  go_enter Try.func9, Try.ntmps9
  go_upto_region 1 with fail
  rw [← hw1]
  clear hw1
  go_wp2_with fail
  refine OP.out.mono ?_
  rintro e w2 ⟨A2, k2, rfl, _, hb⟩
  have B := Lib.hid (B.out.trans (hb.mono B.out.size))
  have X := Lib.hid (X.out.below hb X.out.lt)
  clear hb OP d0 d1 d2 d3 d4 f0 f1 f2 f3 f4
  obtain ⟨d0, d1, d2, d3, d4⟩ := X.out.frm
  have f0 := X.out.free 0
  have f1 := X.out.free 1
  have f2 := X.out.free 2
  have f3 := X.out.free 3
  have f4 := X.out.free 4
  go_wp2
  obtain ⟨y0, y1, y2, y3, y4⟩ := (X.out.frm5 (.int .u32 0) (.int .u32 0) (.int .u32 0) (.int .u32 0) (.slice none 0 0)).frm
  have BF := Lib.hid (below_frm (g := w.heap.size) B.out (Nat.le_refl _) (.int .u32 0) (.int .u32 0) (.int .u32 0) (.int .u32 0) (.slice none 0 0))
  refine bodyPost_ret (v := .tuple #[frmV 0 0 0 0 none 0 0, .int .i64 E]) ?_ rfl ⟨none, 0, rfl, World.ownsRow_nil _ _ _ _, BF.out⟩
  clear d0 d1 d2 d3 d4 f0 f1 f2 f3 f4
  simp [results, Try.f9, go_sem, y0, y1, y2, y3, y4]
set_option maxHeartbeats 6400000 in
theorem pread15_yes (A : Option Addr) (m c : Nat) (t : List Int) (w : World) (h : Arg w .u8 A (m + 20) c t) (hby : ∀ z ∈ t, isByte z) (hm : m ≤ 64) (hE : opE t = 0) :
    Calls Try.prog 9 #[.slice A (m + 20) c] w (FrdOut w (if mayF (frV (opB t)) then frV (opB t) else zFr) (if mayF (frV (opB t)) then 0 else 150)) := by
  obtain ⟨x, hbel⟩ := box_frm w 0 0 0 0 none 0 0
  obtain ⟨w1, hw1⟩ : ∃ x : World, x = (w.alloc (.cells #[.int .u32 0, .int .u32 0, .int .u32 0, .int .u32 0, .slice none 0 0] 25)) := ⟨_, rfl⟩
  rw [← hw1] at x hbel
  have X := Lib.hid x
  have B := Lib.hid hbel
  have hni : ¬ ((m : Int) + 20) < 20 := by omega
  have hni2 : ¬ (84 : Int) < (m : Int) + 20 := by omega
  have OP := Lib.hid (open_gen A (m + 20) c t w1 (h.below hbel) hby)
  rw [hE] at OP
  have hbl := opB_length hE
  have hlen := h.len
  obtain ⟨b, hb0⟩ : ∃ b, b = opB t := ⟨_, rfl⟩
  have hbb : ∀ z ∈ b, isByte z := by rw [hb0]; exact opB_byte hby
  rw [← hb0] at OP hbl ⊢
  have LB := Lib.hid (show b.length = m + 16 by omega)
  have HBB := Lib.hid hbb
  have HM := Lib.hid hm
  have hdl : (b.drop 16).length = m := by rw [List.length_drop, LB.out]; omega
  have PF := Lib.hid (fun (g k : Nat) (wx : World) (hx : Arg wx .u8 (some ⟨g, 0, none⟩) (m + 16) k b) => pframe15_any g k m b wx hx hbb (by omega))
  have hfv : frV b = ((frV b).1, (frV b).2.1, (frV b).2.2.1, (frV b).2.2.2.1, b.drop 16) := rfl
  obtain ⟨v0, hv0⟩ : ∃ v, v = (frV b).1 := ⟨_, rfl⟩
  obtain ⟨v1, hv1⟩ : ∃ v, v = (frV b).2.1 := ⟨_, rfl⟩
  obtain ⟨v2, hv2⟩ : ∃ v, v = (frV b).2.2.1 := ⟨_, rfl⟩
  obtain ⟨v3, hv3⟩ : ∃ v, v = (frV b).2.2.2.1 := ⟨_, rfl⟩
  rw [← hv0, ← hv1, ← hv2, ← hv3] at PF hfv
  rw [hfv]
  unfold FrmOut at PF
  rw [hdl] at PF
  have CK := Lib.hid (fun (Ax : Option Addr) (kx : Nat) (wx : World) => pcheck15_any v0 v1 v2 v3 Ax m kx wx)
  have HLL := Lib.hid hdl
  obtain ⟨z, hz⟩ : ∃ z, z = b.drop 16 := ⟨_, rfl⟩
  rw [← hz] at PF HLL ⊢
  have hmm : mayF (v0, v1, v2, v3, z) ↔ mayN v0 v2 m := by rw [mayN_iff, HLL.out]
  obtain ⟨K, hK⟩ : ∃ K : Ending → World → Prop, K = FrdOut w (if mayF (v0, v1, v2, v3, z) then (v0, v1, v2, v3, z) else zFr) (if mayF (v0, v1, v2, v3, z) then 0 else 150) := ⟨_, rfl⟩
  have HK1 := Lib.hid (show mayN v0 v2 m → ∀ e w', FrdOut w (v0, v1, v2, v3, z) 0 e w' → K e w' from fun hx e w' ho => by rw [hK, if_pos (hmm.2 hx), if_pos (hmm.2 hx)]; exact ho)
  have HK2 := Lib.hid (show ¬ mayN v0 v2 m → ∀ e w', FrdOut w zFr 150 e w' → K e w' from fun hx e w' ho => by rw [hK, if_neg (fun k => hx (hmm.1 k)), if_neg (fun k => hx (hmm.1 k))]; exact ho)
  rw [← hK]
  obtain ⟨d0, d1, d2, d3, d4⟩ := x.frm
  have f0 := x.free 0
  have f1 := x.free 1
  have f2 := x.free 2
  have f3 := x.free 3
  have f4 := x.free 4
  clear x hbel hE h hby hm hbl hlen hb0 hbb hdl hfv hv0 hv1 hv2 hv3 hz hmm hK
  go_enter Try.func9, Try.ntmps9
  go_upto_region 1 with fail
  rw [← hw1]
  clear hw1
  go_wp2_with fail
  refine OP.out.mono ?_
  intro e w5 hout
  obtain ⟨A5, k5, rfl, hown, hb⟩ := hout.len rfl LB.out
  have B5 := Lib.hid (B.out.trans (hb.mono B.out.size))
  have X5 := Lib.hid (X.out.below hb X.out.lt)
  have AR := Lib.hid (Arg.own hown)
  obtain ⟨g, rfl, _⟩ := owns_int_at hown (show 0 < m + 16 by omega)
  clear d0 d1 d2 d3 d4 f0 f1 f2 f3 f4 X B OP hout hown hb
  go_wp2_with fail
  refine (PF.out g k5 w5 AR.out).mono ?_
  rintro e w6 ⟨A6, k6, rfl, hown, hb⟩
  have B6 := Lib.hid (B5.out.trans (hb.mono B5.out.size))
  have X6 := Lib.hid (X5.out.below hb X5.out.lt)
  obtain ⟨y, hbk⟩ := box_frm w6 v0 v1 v2 v3 A6 m k6
  obtain ⟨w7, hw7⟩ : ∃ x : World, x = w6.alloc (.cells #[.int .u32 v0, .int .u32 v1, .int .u32 v2, .int .u32 v3, .slice A6 m k6] 25) := ⟨_, rfl⟩
  rw [← hw7] at y hbk
  have O7 := Lib.hid (owns_base (owns_below hown hbk) B5.out.size)
  have X7 := Lib.hid (X6.out.below hbk X6.out.lt)
  have B7 := Lib.hid (B6.out.trans (hbk.mono B6.out.size))
  have Y7 := Lib.hid y
  obtain ⟨c0, c1, c2, c3, c4⟩ := y.frm
  have CC := Lib.hid (CK.out A6 k6 w7)
  clear hown hb hbk y X5 B5 AR PF CK X6 B6
  go_upto_region 9 with fail
  rw [← hw7]
  clear hw7
  by_cases hm : mayN v0 v2 m
  · rw [if_pos hm] at CC
    have KK := Lib.hid (HK1.out hm)
    clear hm HK1 HK2
    go_wp2_with fail
    refine CC.out.mono ?_
    rintro e w8 ⟨rfl, hb⟩
    have X8 := Lib.hid (X7.out.below hb X7.out.lt)
    have Y8 := Lib.hid (Y7.out.below hb Y7.out.lt)
    have O8 := Lib.hid (owns_below O7.out hb)
    have B8 := Lib.hid (B7.out.trans (hb.mono B7.out.size))
    clear hb CC c0 c1 c2 c3 c4 X7 Y7 O7 B7
    obtain ⟨c0, c1, c2, c3, c4⟩ := Y8.out.frm
    obtain ⟨d0, d1, d2, d3, d4⟩ := X8.out.frm
    have f0 := X8.out.free 0
    have f1 := X8.out.free 1
    have f2 := X8.out.free 2
    have f3 := X8.out.free 3
    have f4 := X8.out.free 4
    go_wp2
    obtain ⟨z0, z1, z2, z3, z4⟩ := (X8.out.frm5 (.int .u32 v0) (.int .u32 v1) (.int .u32 v2) (.int .u32 v3) (.slice A6 m k6)).frm
    have BF := Lib.hid (below_frm (g := w.heap.size) B8.out (Nat.le_refl _) (.int .u32 v0) (.int .u32 v1) (.int .u32 v2) (.int .u32 v3) (.slice A6 m k6))
    have OF := Lib.hid (owns_frm O8.out X8.out (by decide) (.int .u32 v0) (.int .u32 v1) (.int .u32 v2) (.int .u32 v3) (.slice A6 m k6))
    refine bodyPost_ret (v := .tuple #[frmV v0 v1 v2 v3 A6 m k6, .int .i64 0]) ?_ rfl (KK.out _ _ ⟨A6, k6, by rw [HLL.out], by rw [HLL.out]; exact OF.out, BF.out⟩)
    clear c0 c1 c2 c3 c4 d0 d1 d2 d3 d4 f0 f1 f2 f3 f4
    simp [results, Try.f9, go_sem, z0, z1, z2, z3, z4]
  · rw [if_neg hm] at CC
    have KK := Lib.hid (HK2.out hm)
    clear hm HK1 HK2
    go_wp2_with fail
    refine CC.out.mono ?_
    rintro e w8 ⟨rfl, hb⟩
    have X8 := Lib.hid (X7.out.below hb X7.out.lt)
    have B8 := Lib.hid (B7.out.trans (hb.mono B7.out.size))
    clear hb CC c0 c1 c2 c3 c4 X7 Y7 O7 B7
    obtain ⟨d0, d1, d2, d3, d4⟩ := X8.out.frm
    have f0 := X8.out.free 0
    have f1 := X8.out.free 1
    have f2 := X8.out.free 2
    have f3 := X8.out.free 3
    have f4 := X8.out.free 4
    go_wp2
    obtain ⟨z0, z1, z2, z3, z4⟩ := (X8.out.frm5 (.int .u32 0) (.int .u32 0) (.int .u32 0) (.int .u32 0) (.slice none 0 0)).frm
    have BF := Lib.hid (below_frm (g := w.heap.size) B8.out (Nat.le_refl _) (.int .u32 0) (.int .u32 0) (.int .u32 0) (.int .u32 0) (.slice none 0 0))
    refine bodyPost_ret (v := .tuple #[frmV 0 0 0 0 none 0 0, .int .i64 150]) ?_ rfl (KK.out _ _ ⟨none, 0, rfl, World.ownsRow_nil _ _ _ _, BF.out⟩)
    clear d0 d1 d2 d3 d4 f0 f1 f2 f3 f4
    simp [results, Try.f9, go_sem, z0, z1, z2, z3, z4]

theorem pread15_any (A : Option Addr) (n c : Nat) (t : List Int) (w : World) (h : Arg w .u8 A n c t) (hby : ∀ z ∈ t, isByte z) :
    Calls Try.prog 9 #[.slice A n c] w (FrdOut w (fdV t) (fdE t)) := by
  have hl := h.len
  by_cases h1 : n < 20
  · have e : fdE t = 10 := by unfold fdE; rw [if_pos (by omega)]
    unfold fdV
    rw [e, if_neg (by decide)]
    exact pread15_short A n c w h1
  · by_cases h2 : 84 < n
    · have e : fdE t = 150 := by unfold fdE; rw [if_neg (by omega), if_pos (by omega)]
      unfold fdV
      rw [e, if_neg (by decide)]
      exact pread15_long A n c w h2
    · have e : fdE t = if opE t = 0 then (if mayF (frV (opB t)) then 0 else 150) else opE t := by unfold fdE; rw [if_neg (by omega), if_neg (by omega)]
      by_cases h3 : opE t = 0
      · obtain ⟨m, rfl⟩ : ∃ m, n = m + 20 := ⟨n - 20, by omega⟩
        have r := pread15_yes A m c t w h hby (by omega) h3
        rw [if_pos h3] at e
        have e2 : fdV t = if mayF (frV (opB t)) then frV (opB t) else zFr := by
          unfold fdV
          rw [e]
          by_cases hm : mayF (frV (opB t))
          · rw [if_pos hm, if_pos hm, if_pos rfl]
          · rw [if_neg hm, if_neg hm, if_neg (by decide)]
        rw [e, e2]
        exact r
      · rw [if_neg h3] at e
        unfold fdV
        rw [e, if_neg h3]
        exact pread15_bad A n c t w h hby ⟨by omega, by omega⟩ h3
end Go.Proofs.Ytdgfofemogmmkaa
