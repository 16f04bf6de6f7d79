/- Layer 15, FrameTells: the walk, told of what the program's calls do. -/
import Derived.Test.YtdgfofemogmmkaaFrA
import Derived.Test.YtdgfofemogmmkaaFrR5
import Derived.StillTailTactics
import Derived.Lib.QuoteBits
namespace Go.Proofs.Ytdgfofemogmmkaa
open Go.RowKit Go.OpenShut
set_option linter.unusedVariables false
set_option maxRecDepth 100000

theorem row_below {w : World} {base B g i : Nat} {t : TypeId} {A : Option Addr} {n c : Nat} {xs : List Value} (h : w.ownsRow base t 1 (.slice A n c) n xs) (hB : ∀ k, (Value.slice A n c).ownBlock = some k → k < B) (hg : B ≤ g) (u : Value) : (w.setCell ⟨g, i, none⟩ u).ownsRow base t 1 (.slice A n c) n xs := by
  refine h.kept (grownBy_set w g i u) ?_
  cases hb : (Value.slice A n c).ownBlock with
  | none => exact .inl rfl
  | some k => exact .inr (fun e => by injection e with e; have := hB k hb; omega)
theorem row_above {w : World} {base g i : Nat} {t : TypeId} {A : Option Addr} {n c : Nat} {xs : List Value} (h : w.ownsRow base t 1 (.slice A n c) n xs) (hg : g < base) (u : Value) : (w.setCell ⟨g, i, none⟩ u).ownsRow base t 1 (.slice A n c) n xs := by
  refine h.kept (grownBy_set w g i u) ?_
  cases hb : (Value.slice A n c).ownBlock with
  | none => exact .inl rfl
  | some k => exact .inr (fun e => by injection e with e; have := (h.lt k hb).1; omega)
theorem byte_at15 {l : List Int} (h : ∀ y ∈ l, isByte y) (k : Nat) : isByte (l.getD k 0) := by
  rcases Nat.lt_or_ge k l.length with hk | hk
  · rw [List.getD_eq_getElem?_getD, List.getElem?_eq_getElem hk]
    exact h _ (List.getElem_mem _)
  · rw [List.getD_eq_getElem?_getD, List.getElem?_eq_none hk]
    exact ⟨by decide, by decide⟩
theorem next_byte {x : Int} (h : isByte x) : isByte ((x + 1) % 256) := ⟨by omega, by omega⟩
theorem set_bytes {l : List Int} (h : ∀ y ∈ l, isByte y) (k : Nat) {x : Int} (hx : isByte x) : ∀ y ∈ l.set k x, isByte y := fun y hy => by
  rcases List.mem_or_eq_of_mem_set hy with hy | rfl
  · exact h y hy
  · exact hx

set_option maxHeartbeats 3200000 in
theorem ftells_great (FD : FrameDoes) (a b c d : Int) (A : Option Addr) (n k : Nat) (z : List Int) (a2 b2 c2 d2 : Int) (A2 : Option Addr) (n2 k2 : Nat) (z2 : List Int) (A1 : Option Addr) (n1 k1 : Nat) (t : List Int) (w : World) (h : Arg w .u8 A n k z) (hz : ∀ x ∈ z, isByte x) (va : isV a) (vb : isV b) (vc : isV c) (vd : isV d) (h2 : Arg w .u8 A2 n2 k2 z2) (hz2 : ∀ x ∈ z2, isByte x) (va2 : isV a2) (vb2 : isV b2) (vc2 : isV c2) (vd2 : isV d2) (h1 : Arg w .u8 A1 n1 k1 t) (ht : ∀ x ∈ t, isByte x) (hg : 200 < n ∨ 200 < n2 ∨ 200 < n1) :
    Calls Try.prog 4 #[frmV a b c d A n k, frmV a2 b2 c2 d2 A2 n2 k2, .slice A1 n1 k1] w fun e w' => e = .returned (.bool true) ∧ Below w.heap.size w w' := by
  obtain ⟨x, y, hbel⟩ := box_frms w a b c d A n k a2 b2 c2 d2 A2 n2 k2
  obtain ⟨w1, hw1⟩ : ∃ x : World, x = ((w.alloc (.cells #[.int .u32 a, .int .u32 b, .int .u32 c, .int .u32 d, .slice A n k] 25)).alloc (.cells #[.int .u32 a2, .int .u32 b2, .int .u32 c2, .int .u32 d2, .slice A2 n2 k2] 25)) := ⟨_, rfl⟩
  rw [← hw1] at x y hbel
  obtain ⟨c0, c1, c2', c3, c4⟩ := x.frm
  obtain ⟨d0, d1, d2', d3, d4⟩ := y.frm
  have B := Lib.hid hbel
  clear x y hbel h hz va vb vc vd h1 ht h2 hz2 va2 vb2 vc2 vd2
  by_cases g0 : (200 : Int) < (n : Int)
  · clear hg
    go_enter Try.func4, Try.ntmps4
    go_upto_region 1 with fail
    rw [← hw1]
    clear hw1
    go_wp2
    go_ret
    exact ⟨rfl, B.out⟩
  · by_cases g1 : (200 : Int) < (n2 : Int)
    · clear hg
      go_enter Try.func4, Try.ntmps4
      go_upto_region 1 with fail
      rw [← hw1]
      clear hw1
      go_wp2
      go_ret
      exact ⟨rfl, B.out⟩
    · have g2 : (200 : Int) < (n1 : Int) := by omega
      clear hg
      go_enter Try.func4, Try.ntmps4
      go_upto_region 1 with fail
      rw [← hw1]
      clear hw1
      go_wp2
      go_ret
      exact ⟨rfl, B.out⟩

set_option maxHeartbeats 25600000 in
theorem ftells_small (FD : FrameDoes) (a b c d : Int) (A : Option Addr) (n k : Nat) (z : List Int) (a2 b2 c2 d2 : Int) (A2 : Option Addr) (n2 k2 : Nat) (z2 : List Int) (A1 : Option Addr) (n1 k1 : Nat) (t : List Int) (w : World) (h : Arg w .u8 A n k z) (hz : ∀ x ∈ z, isByte x) (va : isV a) (vb : isV b) (vc : isV c) (vd : isV d) (h2 : Arg w .u8 A2 n2 k2 z2) (hz2 : ∀ x ∈ z2, isByte x) (va2 : isV a2) (vb2 : isV b2) (vc2 : isV c2) (vd2 : isV d2) (h1 : Arg w .u8 A1 n1 k1 t) (ht : ∀ x ∈ t, isByte x) (hn : n ≤ 200) (hn2 : n2 ≤ 200) (hn1 : n1 ≤ 200) :
    Calls Try.prog 4 #[frmV a b c d A n k, frmV a2 b2 c2 d2 A2 n2 k2, .slice A1 n1 k1] w fun e w' => e = .returned (.bool true) ∧ Below w.heap.size w w' := by
  obtain ⟨ib, hib, hbz, hb1, hb2⟩ := info_parts byte_info
  have hml : (1000000 : Nat) ≤ maxLen := by decide
  have hln := h.len
  have hln1 := h1.len
  have hln2 := h2.len
  obtain ⟨x, y, hbel⟩ := box_frms w a b c d A n k a2 b2 c2 d2 A2 n2 k2
  obtain ⟨w1, hw1⟩ : ∃ x : World, x = ((w.alloc (.cells #[.int .u32 a, .int .u32 b, .int .u32 c, .int .u32 d, .slice A n k] 25)).alloc (.cells #[.int .u32 a2, .int .u32 b2, .int .u32 c2, .int .u32 d2, .slice A2 n2 k2] 25)) := ⟨_, rfl⟩
  rw [← hw1] at x y hbel
  obtain ⟨c0, c1, c2', c3, c4⟩ := x.frm
  obtain ⟨d0, d1, d2', d3, d4⟩ := y.frm
  have B := Lib.hid hbel
  have X1 := Lib.hid x
  have Y1 := Lib.hid y
  have RZ1 := Lib.hid (h.below hbel)
  have RW1 := Lib.hid (h2.below hbel)
  have RT1 := Lib.hid (h1.below hbel)
  have g0 : ¬ (200 : Int) < (n : Int) := by omega
  have g1 : ¬ (200 : Int) < (n2 : Int) := by omega
  have g2 : ¬ (200 : Int) < (n1 : Int) := by omega
  have TW := Lib.hid (rtwinF_any a b c d A n k z w1 RZ1.out (by omega))
  unfold FrmOut at TW
  rw [hln] at TW
  have WR := Lib.hid (fun Ax kx wx hx => FD.write a b c d Ax n kx z wx hx hz va vb vc vd)
  have WD := Lib.hid (fun Ax kx wx hx => rwriteF_any a b c d Ax n kx z wx hx hz va vb vc vd)
  have RD := Lib.hid (fun Ax kx wx hx => FD.read Ax n1 kx t wx hx ht (by omega))
  have RR := Lib.hid (fun Ax kx wx hx => rreadF_any Ax n1 kx t wx hx ht)
  have TP := Lib.hid (fun Ax kx wx hx => FD.twin a b c d Ax n kx z wx hx hz va vb vc vd hn)
  unfold FrmOut at TP
  rw [hln] at TP
  have CP := Lib.hid (fun Ax kx wx => FD.check a b c d Ax n kx wx va vb vc vd hn)
  have CD := Lib.hid (fun Ax kx wx => rcheckF_any a b c d Ax n kx wx)
  have SPO := Lib.hid (fun Ax kx Ay ky wx hx hy => FD.same a b c d Ax n kx z a2 b2 c2 d2 Ay n2 ky z2 wx hx hy hz hz2 va vb vc vd va2 vb2 vc2 vd2 hn hn2)
  have SDO := Lib.hid (fun Ax kx Ay ky wx hx hy => rsameF_any a b c d Ax n kx z a2 b2 c2 d2 Ay n2 ky z2 wx hx hy hz hz2)
  have SPF := Lib.hid (fun Ax kx Ay ky wx hx hy => FD.same a b c d Ax n kx z a b c d Ay n ky z wx hx hy hz hz va vb vc vd va vb vc vd hn hn)
  have SDF := Lib.hid (fun Ax kx Ay ky wx hx hy => rsameF_any a b c d Ax n kx z a b c d Ay n ky z wx hx hy hz hz)
  rw [show decide (((a, b, c, d, z) : Fr) = (a, b, c, d, z)) = true from decide_eq_true rfl] at SPF SDF
  obtain ⟨r, hr⟩ : ∃ r, r = decide (((a, b, c, d, z) : Fr) = (a2, b2, c2, d2, z2)) := ⟨_, rfl⟩
  rw [← hr] at SPO SDO
  have hrr : (r == r) = true := beq_self_eq_true _
  obtain ⟨EC, hEC⟩ : ∃ E : Int, E = (if mayN a c n then 0 else 150) := ⟨_, rfl⟩
  rw [← hEC] at CP CD
  have hcc : (EC == EC) = true := beq_self_eq_true _
  have hPB : ∀ y ∈ frB (a, b, c, d, z), isByte y := by
    unfold frB
    split
    · exact frT_byte ⟨va, vb, vc, vd, hz⟩
    · intro y hy; cases hy
  obtain ⟨PB, hPB0⟩ : ∃ y, y = frB (a, b, c, d, z) := ⟨_, rfl⟩
  obtain ⟨PE, hPE⟩ : ∃ y, y = frE (a, b, c, d, z) := ⟨_, rfl⟩
  rw [← hPB0, ← hPE] at WR WD
  rw [← hPB0] at hPB
  obtain ⟨m5, hm5⟩ : ∃ y, y = PB.length := ⟨_, rfl⟩
  have HM5 := Lib.hid hm5.symm
  have H5S := Lib.hid (show m5 ≤ 300 by
    rw [hm5, hPB0]
    unfold frB
    split
    · rw [frT_length]
      show 20 + z.length ≤ 300
      omega
    · exact Nat.zero_le _)
  have hpe : (PE == PE) = true := beq_self_eq_true _
  obtain ⟨sp, hsp⟩ : ∃ y, y = strOfNums PB := ⟨_, rfl⟩
  have HSP := Lib.hid hsp
  have hspp : (sp.toList == sp.toList) = true := beq_self_eq_true _
  obtain ⟨st, hst0⟩ : ∃ y, y = strOfNums t := ⟨_, rfl⟩
  have HST := Lib.hid hst0
  have hstt : (st.toList == st.toList) = true := beq_self_eq_true _
  obtain ⟨E7, hE7⟩ : ∃ y, y = fdE t := ⟨_, rfl⟩
  have hee : (E7 == E7) = true := beq_self_eq_true _
  have hvb : ∀ y ∈ (fdV t).2.2.2.2, isByte y := by
    by_cases e : fdE t = 0
    · exact (fr_anew ht e).1.2.2.2.2
    · unfold fdV
      rw [if_neg e]
      intro y hy
      cases hy
  have hq64 : (fdV t).2.2.2.2.length ≤ 64 := by
    by_cases e : fdE t = 0
    · exact few_frame (fr_anew ht e).2.1
    · unfold fdV
      rw [if_neg e]
      decide
  obtain ⟨f, hf⟩ : ∃ f, f = fdV t := ⟨_, rfl⟩
  rw [← hE7, ← hf] at RD RR
  rw [← hf] at hvb hq64
  obtain ⟨q0, q1, q2, q3, q4⟩ := f
  unfold FrdOut at RD RR
  dsimp only at RD RR hvb hq64
  obtain ⟨m7, hm7⟩ : ∃ y, y = q4.length := ⟨_, rfl⟩
  rw [← hm7] at RD RR hq64
  have HQ4 := Lib.hid hq64
  have HVB := Lib.hid hvb
  have HPBB := Lib.hid hPB
  have SAB := Lib.hid (fun Ax kx Ay ky wx (hx : Arg wx .u8 Ax m7 kx q4) (hy : Arg wx .u8 Ay m7 ky q4) => rsameF_any q0 q1 q2 q3 Ax m7 kx q4 q0 q1 q2 q3 Ay m7 ky q4 wx hx hy HVB.out HVB.out)
  rw [show decide (((q0, q1, q2, q3, q4) : Fr) = (q0, q1, q2, q3, q4)) = true from decide_eq_true rfl] at SAB
  have HZ := Lib.hid hz
  have LN1 := Lib.hid hln1
  have HN1 := Lib.hid hn1
  have HNN := Lib.hid hn
  clear x y hbel h hz va vb vc vd h1 ht h2 hz2 va2 vb2 vc2 vd2 hn hn2 hn1 hln hln1 hln2 hr hEC hPB hPB0 hPE hsp hst0 hE7 hvb hf hm5 hm7 hq64
  go_enter Try.func4, Try.ntmps4
  go_upto_region 1 with fail
  rw [← hw1]
  clear hw1
  go_wp2_with fail
  refine TW.out.mono ?_
  rintro e w2 ⟨A3, k3, rfl, hown, hb⟩
  have B2 := Lib.hid (B.out.trans (hb.mono B.out.size))
  have RT2 := Lib.hid (RT1.out.below hb)
  have RO2 := Lib.hid (Arg.own hown)
  have C2 := Lib.hid hb
  clear hown hb TW c0 c1 c2' c3 c4 d0 d1 d2' d3 d4
  go_upto_region 4 with (at_builtin; (refine wpList_dup w2 rfl (.tmp 40) (.tmp 41) _ rfl 5 ib _ 1 Try.underlying23 hib hbz hb1 hb2 rfl rfl A1 n1 k1 (ints .u8 t) rfl (by rw [ints_length]; exact LN1.out) RT2.out.seq (ints_one _ _) (by have := HN1.out; omega) (by have := HN1.out; omega) ?_); intro A4 k4 w3 hown4 hb4; have OM := Lib.hid hown4; have BM := Lib.hid hb4; clear hown4 hb4)
  obtain ⟨y, hbk⟩ := box_frm w3 a b c d A3 n k3
  have hall := C2.out.trans ((BM.out.trans (hbk.mono BM.out.size)).mono C2.out.size)
  have X4 := Lib.hid (X1.out.below hall X1.out.lt)
  have Y4 := Lib.hid (Y1.out.below hall Y1.out.lt)
  have RZ4 := Lib.hid (RZ1.out.below hall)
  have RW4 := Lib.hid (RW1.out.below hall)
  have RT4 := Lib.hid (RT1.out.below hall)
  have RO4 := Lib.hid (RO2.out.below (BM.out.trans (hbk.mono BM.out.size)))
  have RM4 := Lib.hid ((Arg.own OM.out).below hbk)
  have B4 := Lib.hid (B.out.trans (hall.mono B.out.size))
  obtain ⟨w4, hW⟩ : ∃ x : World, x = w3.alloc (.cells #[.int .u32 a, .int .u32 b, .int .u32 c, .int .u32 d, .slice A3 n k3] 25) := ⟨_, rfl⟩
  obtain ⟨GO, hG⟩ : ∃ y, y = w3.heap.size := ⟨_, rfl⟩
  rw [← hW] at y X4 Y4 RZ4 RW4 RT4 RO4 RM4 B4
  rw [← hG] at y ⊢
  change Code.wp _ _ _ _ (w3.alloc (.cells #[.int .u32 a, .int .u32 b, .int .u32 c, .int .u32 d, .slice A3 n k3] 25))
  rw [← hW]
  have O4 := Lib.hid y
  clear hW hG y hbk hall B2 RT2 RO2 C2 OM BM X1 Y1 RZ1 RW1 RT1 B
  obtain ⟨c0, c1, c2', c3, c4⟩ := O4.out.frm
  go_wp2_with fail
  refine (WR.out _ _ _ RO4.out).mono ?_
  intro e w5 hout
  obtain ⟨A5, k5, rfl, hown, hb⟩ := hout.len rfl HM5.out
  have OX := Lib.hid hown
  have LX := Lib.hid (show ∀ g, (Value.slice A5 m5 k5).ownBlock = some g → g < w5.heap.size from fun g e => (hown.lt g e).2)
  have BV := Lib.hid hb
  have HW45 := Lib.hid hb.size
  clear hout hown hb WR c0 c1 c2' c3 c4
  obtain ⟨c0, c1, c2', c3, c4⟩ := (X4.out.below BV.out X4.out.lt).frm
  go_wp2_with fail
  refine (WD.out _ _ _ (RZ4.out.below BV.out)).mono ?_
  intro e w6 hout
  obtain ⟨A6, k6, rfl, hown, hb⟩ := hout.len rfl HM5.out
  have OX := Lib.hid (owns_below OX.out hb)
  have OY := Lib.hid hown
  have HS5 := Lib.hid hb.size
  have BV := Lib.hid (BV.out.trans (hb.mono BV.out.size))
  clear hout hown hb WD c0 c1 c2' c3 c4
  go_wp2_with fail
  refine (RD.out _ _ _ (RM4.out.below BV.out)).mono ?_
  rintro e w7 ⟨A7, k7, rfl, hown, hb⟩
  obtain ⟨y, hbk⟩ := box_frm w7 q0 q1 q2 q3 A7 m7 k7
  have hall := hb.trans (hbk.mono hb.size)
  have OX := Lib.hid (owns_below OX.out hall)
  have OY := Lib.hid (owns_below OY.out hall)
  have OA := Lib.hid (owns_below hown hbk)
  have LA := Lib.hid (show ∀ g, (Value.slice A7 m7 k7).ownBlock = some g → g < w7.heap.size from fun g e => (hown.lt g e).2)
  have HS6 := Lib.hid (Nat.le_trans HS5.out (Nat.le_refl w6.heap.size))
  have HS7 := Lib.hid hb.size
  have BV := Lib.hid (BV.out.trans (hall.mono BV.out.size))
  clear hown hb hbk hall RD
  go_upto_region 7 with fail
  obtain ⟨w8, hW⟩ : ∃ x : World, x = w7.alloc (.cells #[.int .u32 q0, .int .u32 q1, .int .u32 q2, .int .u32 q3, .slice A7 m7 k7] 25) := ⟨_, rfl⟩
  obtain ⟨GA, hG⟩ : ∃ y, y = w7.heap.size := ⟨_, rfl⟩
  rw [← hW] at y OX OY OA BV
  rw [← hG] at y LA HS7 ⊢
  change Code.wp _ _ _ _ (w7.alloc (.cells #[.int .u32 q0, .int .u32 q1, .int .u32 q2, .int .u32 q3, .slice A7 m7 k7] 25))
  rw [← hW]
  have YA := Lib.hid y
  clear hW hG y
  go_wp2_with fail
  refine (RR.out _ _ _ (RT4.out.below BV.out)).mono ?_
  rintro e w9 ⟨A8, k8, rfl, hown, hb⟩
  obtain ⟨y, hbk⟩ := box_frm w9 q0 q1 q2 q3 A8 m7 k8
  have hall := hb.trans (hbk.mono hb.size)
  have OX := Lib.hid (owns_below OX.out hall)
  have OY := Lib.hid (owns_below OY.out hall)
  have OA := Lib.hid (owns_below OA.out hall)
  have YA := Lib.hid (YA.out.below hall YA.out.lt)
  have OB := Lib.hid (owns_below hown hbk)
  have BV := Lib.hid (BV.out.trans (hall.mono BV.out.size))
  clear hown hb hbk hall RR
  go_upto_region 8 with fail
  obtain ⟨w10, hW⟩ : ∃ x : World, x = w9.alloc (.cells #[.int .u32 q0, .int .u32 q1, .int .u32 q2, .int .u32 q3, .slice A8 m7 k8] 25) := ⟨_, rfl⟩
  obtain ⟨GB, hG⟩ : ∃ y, y = w9.heap.size := ⟨_, rfl⟩
  rw [← hW] at y OX OY OA OB YA BV
  rw [← hG] at y ⊢
  change Code.wp _ _ _ _ (w9.alloc (.cells #[.int .u32 q0, .int .u32 q1, .int .u32 q2, .int .u32 q3, .slice A8 m7 k8] 25))
  rw [← hW]
  have YB := Lib.hid y
  have HS10 := Lib.hid YA.out.lt
  clear hW hG y
  obtain ⟨c0, c1, c2', c3, c4⟩ := (O4.out.below BV.out O4.out.lt).frm
  go_wp2_with fail
  refine (TP.out _ _ _ (RO4.out.below BV.out)).mono ?_
  rintro e w11 ⟨A9, k9, rfl, hown, hb⟩
  obtain ⟨y, hbk⟩ := box_frm w11 a b c d A9 n k9
  have hall := hb.trans (hbk.mono hb.size)
  have OX := Lib.hid (owns_below OX.out hall)
  have OY := Lib.hid (owns_below OY.out hall)
  have OA := Lib.hid (owns_below OA.out hall)
  have OB := Lib.hid (owns_below OB.out hall)
  have YA := Lib.hid (YA.out.below hall YA.out.lt)
  have YB := Lib.hid (YB.out.below hall YB.out.lt)
  have OW := Lib.hid (owns_below hown hbk)
  have LW := Lib.hid (show ∀ g, (Value.slice A9 n k9).ownBlock = some g → g < w11.heap.size from fun g e => (hown.lt g e).2)
  have HS11 := Lib.hid hb.size
  have BV := Lib.hid (BV.out.trans (hall.mono BV.out.size))
  clear hown hb hbk hall TP c0 c1 c2' c3 c4
  go_upto_region 9 with fail
  obtain ⟨w12, hW⟩ : ∃ x : World, x = w11.alloc (.cells #[.int .u32 a, .int .u32 b, .int .u32 c, .int .u32 d, .slice A9 n k9] 25) := ⟨_, rfl⟩
  obtain ⟨GW, hG⟩ : ∃ y, y = w11.heap.size := ⟨_, rfl⟩
  rw [← hW] at y OX OY OA OB OW YA YB BV
  rw [← hG] at y LW HS11 ⊢
  change Code.wp _ _ _ _ (w11.alloc (.cells #[.int .u32 a, .int .u32 b, .int .u32 c, .int .u32 d, .slice A9 n k9] 25))
  rw [← hW]
  have YW := Lib.hid y
  clear hW hG y
  have hcur : Below w12.heap.size w12 w12.drew := below_drewN (Below.refl _ _) 1
  have keepX : ∀ wx, Below w12.heap.size w12 wx → wx.cell? ⟨GA, 0, none⟩ = some (.int .u32 q0) ∧ wx.cell? ⟨GA, 1, none⟩ = some (.int .u32 q1) ∧ wx.cell? ⟨GA, 2, none⟩ = some (.int .u32 q2) ∧ wx.cell? ⟨GA, 3, none⟩ = some (.int .u32 q3) ∧ wx.cell? ⟨GA, 4, none⟩ = some (.slice A7 m7 k7) ∧ wx.cell? ⟨GB, 0, none⟩ = some (.int .u32 q0) ∧ wx.cell? ⟨GB, 1, none⟩ = some (.int .u32 q1) ∧ wx.cell? ⟨GB, 2, none⟩ = some (.int .u32 q2) ∧ wx.cell? ⟨GB, 3, none⟩ = some (.int .u32 q3) ∧ wx.cell? ⟨GB, 4, none⟩ = some (.slice A8 m7 k8) ∧ wx.cell? ⟨GO, 0, none⟩ = some (.int .u32 a) ∧ wx.cell? ⟨GO, 1, none⟩ = some (.int .u32 b) ∧ wx.cell? ⟨GO, 2, none⟩ = some (.int .u32 c) ∧ wx.cell? ⟨GO, 3, none⟩ = some (.int .u32 d) ∧ wx.cell? ⟨GO, 4, none⟩ = some (.slice A3 n k3) ∧ wx.cell? ⟨w.heap.size, 0, none⟩ = some (.int .u32 a) ∧ wx.cell? ⟨w.heap.size, 1, none⟩ = some (.int .u32 b) ∧ wx.cell? ⟨w.heap.size, 2, none⟩ = some (.int .u32 c) ∧ wx.cell? ⟨w.heap.size, 3, none⟩ = some (.int .u32 d) ∧ wx.cell? ⟨w.heap.size, 4, none⟩ = some (.slice A n k) ∧ (convert 23 9 (.slice A5 m5 k5)).run Try.prog wx = .ok (.string sp) wx ∧ (convert 23 9 (.slice A6 m5 k6)).run Try.prog wx = .ok (.string sp) wx := fun wx hx => by
    obtain ⟨u0, u1, u2, u3, u4⟩ := (YA.out.below hx YA.out.lt).frm
    obtain ⟨v0, v1, v2, v3, v4⟩ := (YB.out.below hx YB.out.lt).frm
    have hy := BV.out.trans (hx.mono BV.out.size)
    obtain ⟨c0, c1, c2, c3, c4⟩ := (O4.out.below hy O4.out.lt).frm
    obtain ⟨d0, d1, d2, d3, d4⟩ := (X4.out.below hy X4.out.lt).frm
    have s1 := str_arg15 (Arg.own (owns_below OX.out hx))
    have s2 := str_arg15 (Arg.own (owns_below OY.out hx))
    rw [← HSP.out] at s1 s2
    exact ⟨u0, u1, u2, u3, u4, v0, v1, v2, v3, v4, c0, c1, c2, c3, c4, d0, d1, d2, d3, d4, s1, s2⟩
  have hkX := keepX _ hcur
  have AA := Lib.hid (Arg.own OA.out)
  have AB := Lib.hid (Arg.own OB.out)
  go_region_held3 (fun w' => w'.cell? ⟨GA, 0, none⟩ = some (.int .u32 q0) ∧ w'.cell? ⟨GA, 1, none⟩ = some (.int .u32 q1) ∧ w'.cell? ⟨GA, 2, none⟩ = some (.int .u32 q2) ∧ w'.cell? ⟨GA, 3, none⟩ = some (.int .u32 q3) ∧ w'.cell? ⟨GA, 4, none⟩ = some (.slice A7 m7 k7) ∧ w'.cell? ⟨GB, 0, none⟩ = some (.int .u32 q0) ∧ w'.cell? ⟨GB, 1, none⟩ = some (.int .u32 q1) ∧ w'.cell? ⟨GB, 2, none⟩ = some (.int .u32 q2) ∧ w'.cell? ⟨GB, 3, none⟩ = some (.int .u32 q3) ∧ w'.cell? ⟨GB, 4, none⟩ = some (.slice A8 m7 k8) ∧ w'.cell? ⟨GO, 0, none⟩ = some (.int .u32 a) ∧ w'.cell? ⟨GO, 1, none⟩ = some (.int .u32 b) ∧ w'.cell? ⟨GO, 2, none⟩ = some (.int .u32 c) ∧ w'.cell? ⟨GO, 3, none⟩ = some (.int .u32 d) ∧ w'.cell? ⟨GO, 4, none⟩ = some (.slice A3 n k3) ∧ w'.cell? ⟨w.heap.size, 0, none⟩ = some (.int .u32 a) ∧ w'.cell? ⟨w.heap.size, 1, none⟩ = some (.int .u32 b) ∧ w'.cell? ⟨w.heap.size, 2, none⟩ = some (.int .u32 c) ∧ w'.cell? ⟨w.heap.size, 3, none⟩ = some (.int .u32 d) ∧ w'.cell? ⟨w.heap.size, 4, none⟩ = some (.slice A n k) ∧ (convert 23 9 (.slice A5 m5 k5)).run Try.prog w' = .ok (.string sp) w' ∧ (convert 23 9 (.slice A6 m5 k6)).run Try.prog w' = .ok (.string sp) w')
    (first | exact hkX | go_keep)
    (first
      | (go_at_call 17; (with_reducible refine (SAB.out _ _ _ _ _ (AA.out.below hcur) (AB.out.below hcur)).mono ?_); rintro e w13 ⟨rfl, hb⟩; have hcur := hcur.trans (hb.mono hcur.size); have hkX := keepX _ hcur)
      | (go_at_call 12; (with_reducible refine (CP.out _ _ _).mono ?_); rintro e w14 ⟨rfl, hb⟩; have hcur := hcur.trans (hb.mono hcur.size); have hkX := keepX _ hcur)
      | (go_at_call 18; (with_reducible refine (CD.out _ _ _).mono ?_); rintro e w15 ⟨rfl, hb⟩; have hcur := hcur.trans (hb.mono hcur.size); have hkX := keepX _ hcur))
  have OX := Lib.hid (owns_below OX.out hcur)
  have OA := Lib.hid (owns_below OA.out hcur)
  have OW := Lib.hid (owns_below OW.out hcur)
  have YA := Lib.hid (YA.out.below hcur YA.out.lt)
  have YW := Lib.hid (YW.out.below hcur YW.out.lt)
  have BV := Lib.hid (BV.out.trans (hcur.mono BV.out.size))
  clear hkX keepX hcur SAB CP CD AA AB OY OB YB
  go_upto_region 10 with fail
  have hcur : Below w15.heap.size w15 w15.drew := below_drewN (Below.refl _ _) 1
  have keepX : ∀ wx, Below w15.heap.size w15 wx → wx.cell? ⟨GW, 0, none⟩ = some (.int .u32 a) ∧ wx.cell? ⟨GW, 1, none⟩ = some (.int .u32 b) ∧ wx.cell? ⟨GW, 2, none⟩ = some (.int .u32 c) ∧ wx.cell? ⟨GW, 3, none⟩ = some (.int .u32 d) ∧ wx.cell? ⟨GW, 4, none⟩ = some (.slice A9 n k9) ∧ wx.cell? ⟨w.heap.size, 0, none⟩ = some (.int .u32 a) ∧ wx.cell? ⟨w.heap.size, 1, none⟩ = some (.int .u32 b) ∧ wx.cell? ⟨w.heap.size, 2, none⟩ = some (.int .u32 c) ∧ wx.cell? ⟨w.heap.size, 3, none⟩ = some (.int .u32 d) ∧ wx.cell? ⟨w.heap.size, 4, none⟩ = some (.slice A n k) ∧ wx.cell? ⟨GO, 0, none⟩ = some (.int .u32 a) ∧ wx.cell? ⟨GO, 1, none⟩ = some (.int .u32 b) ∧ wx.cell? ⟨GO, 2, none⟩ = some (.int .u32 c) ∧ wx.cell? ⟨GO, 3, none⟩ = some (.int .u32 d) ∧ wx.cell? ⟨GO, 4, none⟩ = some (.slice A3 n k3) ∧ wx.cell? ⟨w.heap.size + 1, 0, none⟩ = some (.int .u32 a2) ∧ wx.cell? ⟨w.heap.size + 1, 1, none⟩ = some (.int .u32 b2) ∧ wx.cell? ⟨w.heap.size + 1, 2, none⟩ = some (.int .u32 c2) ∧ wx.cell? ⟨w.heap.size + 1, 3, none⟩ = some (.int .u32 d2) ∧ wx.cell? ⟨w.heap.size + 1, 4, none⟩ = some (.slice A2 n2 k2) := fun wx hx => by
    obtain ⟨u0, u1, u2, u3, u4⟩ := (YW.out.below hx YW.out.lt).frm
    have hy := BV.out.trans (hx.mono BV.out.size)
    obtain ⟨c0, c1, c2, c3, c4⟩ := (O4.out.below hy O4.out.lt).frm
    obtain ⟨d0, d1, d2, d3, d4⟩ := (X4.out.below hy X4.out.lt).frm
    obtain ⟨e0, e1, e2, e3, e4⟩ := (Y4.out.below hy Y4.out.lt).frm
    exact ⟨u0, u1, u2, u3, u4, d0, d1, d2, d3, d4, c0, c1, c2, c3, c4, e0, e1, e2, e3, e4⟩
  have hkX := keepX _ hcur
  have AW := Lib.hid (Arg.own OW.out)
  have BVX := Lib.hid (fun wx (hx : Below w15.heap.size w15 wx) => BV.out.trans (hx.mono BV.out.size))
  go_region_held3 (fun w' => w'.cell? ⟨GW, 0, none⟩ = some (.int .u32 a) ∧ w'.cell? ⟨GW, 1, none⟩ = some (.int .u32 b) ∧ w'.cell? ⟨GW, 2, none⟩ = some (.int .u32 c) ∧ w'.cell? ⟨GW, 3, none⟩ = some (.int .u32 d) ∧ w'.cell? ⟨GW, 4, none⟩ = some (.slice A9 n k9) ∧ w'.cell? ⟨w.heap.size, 0, none⟩ = some (.int .u32 a) ∧ w'.cell? ⟨w.heap.size, 1, none⟩ = some (.int .u32 b) ∧ w'.cell? ⟨w.heap.size, 2, none⟩ = some (.int .u32 c) ∧ w'.cell? ⟨w.heap.size, 3, none⟩ = some (.int .u32 d) ∧ w'.cell? ⟨w.heap.size, 4, none⟩ = some (.slice A n k) ∧ w'.cell? ⟨GO, 0, none⟩ = some (.int .u32 a) ∧ w'.cell? ⟨GO, 1, none⟩ = some (.int .u32 b) ∧ w'.cell? ⟨GO, 2, none⟩ = some (.int .u32 c) ∧ w'.cell? ⟨GO, 3, none⟩ = some (.int .u32 d) ∧ w'.cell? ⟨GO, 4, none⟩ = some (.slice A3 n k3) ∧ w'.cell? ⟨w.heap.size + 1, 0, none⟩ = some (.int .u32 a2) ∧ w'.cell? ⟨w.heap.size + 1, 1, none⟩ = some (.int .u32 b2) ∧ w'.cell? ⟨w.heap.size + 1, 2, none⟩ = some (.int .u32 c2) ∧ w'.cell? ⟨w.heap.size + 1, 3, none⟩ = some (.int .u32 d2) ∧ w'.cell? ⟨w.heap.size + 1, 4, none⟩ = some (.slice A2 n2 k2))
    (first | exact hkX | go_keep)
    (first
      | (go_at_call 17; (with_reducible refine (SDF.out _ _ _ _ _ (AW.out.below hcur) (RZ4.out.below (BVX.out _ hcur))).mono ?_); rintro e w16 ⟨rfl, hb⟩; have hcur := hcur.trans (hb.mono hcur.size); have hkX := keepX _ hcur)
      | (go_at_call 19; (with_reducible refine (SPO.out _ _ _ _ _ (RO4.out.below (BVX.out _ hcur)) (RW4.out.below (BVX.out _ hcur))).mono ?_); rintro e w17 ⟨rfl, hb⟩; have hcur := hcur.trans (hb.mono hcur.size); have hkX := keepX _ hcur)
      | (go_at_call 17; (with_reducible refine (SDO.out _ _ _ _ _ (RZ4.out.below (BVX.out _ hcur)) (RW4.out.below (BVX.out _ hcur))).mono ?_); rintro e w18 ⟨rfl, hb⟩; have hcur := hcur.trans (hb.mono hcur.size); have hkX := keepX _ hcur)
      | (go_at_call 19; (with_reducible refine (SPF.out _ _ _ _ _ (RO4.out.below (BVX.out _ hcur)) (RZ4.out.below (BVX.out _ hcur))).mono ?_); rintro e w19 ⟨rfl, hb⟩; have hcur := hcur.trans (hb.mono hcur.size); have hkX := keepX _ hcur))
  have OX := Lib.hid (owns_below OX.out hcur)
  have OA := Lib.hid (owns_below OA.out hcur)
  have OW := Lib.hid (owns_below OW.out hcur)
  have YA := Lib.hid (YA.out.below hcur YA.out.lt)
  have YW := Lib.hid (YW.out.below hcur YW.out.lt)
  have BV := Lib.hid (BV.out.trans (hcur.mono BV.out.size))
  have N5 := Lib.hid (show w5.heap.size ≤ w6.heap.size ∧ w6.heap.size ≤ GA ∧ GA < w10.heap.size ∧ w10.heap.size ≤ GW from ⟨HS5.out, HS7.out, HS10.out, HS11.out⟩)
  clear hkX keepX hcur SPO SDO SPF AW BVX HS5 HS6 HS7 HS10 HS11 HM5 HSP
  go_wp2
  go_loopw [20] (fun i wr => ∃ (k : Nat) (l : List Int), k ≤ m7 ∧ i = .int .i64 k ∧ (∀ y ∈ l, isByte y) ∧ wr.ownsRow w6.heap.size 5 1 (.slice A7 m7 k7) m7 (ints .u8 l) ∧ Blk wr GA 25 (frmL q0 q1 q2 q3 A7 m7 k7) ∧ Blk wr GW 25 (frmL a b c d A9 n k9) ∧ wr.ownsRow w10.heap.size 5 1 (.slice A9 n k9) n (ints .u8 z) ∧ wr.ownsRow w4.heap.size 5 1 (.slice A5 m5 k5) m5 (ints .u8 PB) ∧ Below w4.heap.size w4 wr) (fun i _ => m7 - (intOf i).toNat)
  case atStart => exact ⟨0, q4, Nat.zero_le _, rfl, HVB.out, OA.out, YA.out, YW.out, OW.out, OX.out, BV.out⟩
  case round =>
    obtain ⟨kk, l, hk, rfl, hl, hown, hya, hyw, how, hox, hbv⟩ := hrel
    obtain ⟨u0, u1, u2, u3, u4⟩ := hya.frm
    have HYA := Lib.hid hya
    have HYW := Lib.hid hyw
    have HOW := Lib.hid how
    have HOX := Lib.hid hox
    have HBV := Lib.hid hbv
    have HL := Lib.hid hl
    have HO := Lib.hid hown
    clear hya hyw how hox hbv hl hown OA YA YW OW OX BV
    have hq4 := HQ4.out
    by_cases hkm : kk < m7
    · have hki : (kk : Int) < (m7 : Int) := by omega
      obtain ⟨g, hA7, hg, hc, hf, hset⟩ := owns_int_at HO.out hkm
      have hgA := LA.out g (by rw [hA7]; rfl)
      subst hA7
      obtain ⟨x, hx⟩ : ∃ y, y = l.getD kk 0 := ⟨_, rfl⟩
      have hxb : isByte x := by rw [hx]; exact byte_at15 HL.out kk
      rw [← hx] at hc
      obtain ⟨h50, h51, h52, h53⟩ := N5.out
      have ST := Lib.hid (show ∃ l' : List Int, (∀ y ∈ l', isByte y) ∧ (wr.setCell ⟨g, kk, none⟩ (.int .u8 ((x + 1) % 256))).ownsRow w6.heap.size 5 1 (.slice (some ⟨g, 0, none⟩) m7 k7) m7 (ints .u8 l') from ⟨_, set_bytes HL.out kk (next_byte hxb), hset _⟩)
      have SA1 := Lib.hid (HYA.out.away (show GA ≠ g by omega) kk (.int .u8 ((x + 1) % 256)))
      have SW1 := Lib.hid (HYW.out.away (show GW ≠ g by omega) kk (.int .u8 ((x + 1) % 256)))
      have SO1 := Lib.hid (row_above (i := kk) HOW.out (show g < w10.heap.size by omega) (.int .u8 ((x + 1) % 256)))
      have SX1 := Lib.hid (row_below (i := kk) HOX.out LX.out (show w5.heap.size ≤ g by omega) (.int .u8 ((x + 1) % 256)))
      have SB1 := Lib.hid (HBV.out.setCell (p := ⟨g, kk, none⟩) (show w4.heap.size ≤ g by have := HW45.out; omega) (.int .u8 ((x + 1) % 256)))
      have hx0 : 0 ≤ x := hxb.1
      have hx1 : x < 256 := hxb.2
      have hwk : IntKind.i64.wrap (kk : Int) = (kk : Int) := Lib.wrap_i64_small kk (by have := HQ4.out; omega)
      clear hset hx hxb h50 h51 h52 h53 hgA hg
      go_wp2
      refine wp_region_still_tail 10 (by kernel_rfl) (by kernel_rfl) ?_
      simp only [List.take_succ_cons, List.take_zero, List.drop_succ_cons, List.drop_zero]
      repeat still_step
      try refine wpStill_nil ?_
      change wpList _ _ _ _ _ wr.drew
      go_wp2
      go_roundw
      case rel =>
        obtain ⟨l', hl', ho'⟩ := ST.out
        have hd : Below (wr.setCell ⟨g, kk, none⟩ (.int .u8 ((x + 1) % 256))).heap.size (wr.setCell ⟨g, kk, none⟩ (.int .u8 ((x + 1) % 256))) (wr.setCell ⟨g, kk, none⟩ (.int .u8 ((x + 1) % 256))).drew := below_drewN (Below.refl _ _) 1
        exact ⟨kk + 1, l', by omega, by go_num, hl', owns_below ho' hd, SA1.out.below hd SA1.out.lt, SW1.out.below hd SW1.out.lt, owns_below SO1.out hd, owns_below SX1.out hd, below_drewN SB1.out 1⟩
      case measure => simp [intOf]; omega
    · obtain rfl : kk = m7 := by omega
      clear hq4 HO HL HYA
      have OW := Lib.hid HOW.out
      have OX := Lib.hid HOX.out
      have YW := Lib.hid HYW.out
      have BV := Lib.hid HBV.out
      clear HOW HOX HYW HBV
      go_wp2
      clear u0 u1 u2 u3 u4
      go_loopw [21] (fun i wq => ∃ (k : Nat) (l : List Int), k ≤ n ∧ i = .int .i64 k ∧ (∀ y ∈ l, isByte y) ∧ wq.ownsRow w10.heap.size 5 1 (.slice A9 n k9) n (ints .u8 l) ∧ Blk wq GW 25 (frmL a b c d A9 n k9) ∧ wq.ownsRow w4.heap.size 5 1 (.slice A5 m5 k5) m5 (ints .u8 PB) ∧ Below w4.heap.size w4 wq) (fun i _ => n - (intOf i).toNat)
      case atStart => exact ⟨0, z, Nat.zero_le _, rfl, HZ.out, OW.out, YW.out, OX.out, BV.out⟩
      case round =>
        obtain ⟨kk, l, hk, rfl, hl, hown, hyw, hox, hbv⟩ := hrel
        obtain ⟨u0, u1, u2, u3, u4⟩ := hyw.frm
        have HYW := Lib.hid hyw
        have HOX := Lib.hid hox
        have HBV := Lib.hid hbv
        have HL := Lib.hid hl
        have HO := Lib.hid hown
        clear hyw hox hbv hl hown OW YW OX BV
        have hn2' := HNN.out
        by_cases hkm : kk < n
        · have hki : (kk : Int) < (n : Int) := by omega
          obtain ⟨g, hA9, hg, hc, hf, hset⟩ := owns_int_at HO.out hkm
          have hgW := LW.out g (by rw [hA9]; rfl)
          subst hA9
          obtain ⟨x, hx⟩ : ∃ y, y = l.getD kk 0 := ⟨_, rfl⟩
          have hxb : isByte x := by rw [hx]; exact byte_at15 HL.out kk
          rw [← hx] at hc
          obtain ⟨h50, h51, h52, h53⟩ := N5.out
          have ST := Lib.hid (show ∃ l' : List Int, (∀ y ∈ l', isByte y) ∧ (wr.setCell ⟨g, kk, none⟩ (.int .u8 ((x + 1) % 256))).ownsRow w10.heap.size 5 1 (.slice (some ⟨g, 0, none⟩) n k9) n (ints .u8 l') from ⟨_, set_bytes HL.out kk (next_byte hxb), hset _⟩)
          have SW1 := Lib.hid (HYW.out.away (show GW ≠ g by omega) kk (.int .u8 ((x + 1) % 256)))
          have SX1 := Lib.hid (row_below (i := kk) HOX.out LX.out (show w5.heap.size ≤ g by omega) (.int .u8 ((x + 1) % 256)))
          have SB1 := Lib.hid (HBV.out.setCell (p := ⟨g, kk, none⟩) (show w4.heap.size ≤ g by have := HW45.out; omega) (.int .u8 ((x + 1) % 256)))
          have hx0 : 0 ≤ x := hxb.1
          have hx1 : x < 256 := hxb.2
          have hwk : IntKind.i64.wrap (kk : Int) = (kk : Int) := Lib.wrap_i64_small kk (by omega)
          clear hset hx hxb h50 h51 h52 h53 hgW hg
          go_wp2
          refine wp_region_still_tail 10 (by kernel_rfl) (by kernel_rfl) ?_
          simp only [List.take_succ_cons, List.take_zero, List.drop_succ_cons, List.drop_zero]
          repeat still_step
          try refine wpStill_nil ?_
          change wpList _ _ _ _ _ wr.drew
          go_wp2
          go_roundw
          case rel =>
            obtain ⟨l', hl', ho'⟩ := ST.out
            have hd : Below (wr.setCell ⟨g, kk, none⟩ (.int .u8 ((x + 1) % 256))).heap.size (wr.setCell ⟨g, kk, none⟩ (.int .u8 ((x + 1) % 256))) (wr.setCell ⟨g, kk, none⟩ (.int .u8 ((x + 1) % 256))).drew := below_drewN (Below.refl _ _) 1
            exact ⟨kk + 1, l', by omega, by go_num, hl', owns_below ho' hd, SW1.out.below hd SW1.out.lt, owns_below SX1.out hd, below_drewN SB1.out 1⟩
          case measure => simp [intOf]; omega
        · obtain rfl : kk = n := by omega
          clear hn2' HO HL HYW
          have OX := Lib.hid HOX.out
          have BV := Lib.hid HBV.out
          clear HOX HBV
          go_wp2
          clear u0 u1 u2 u3 u4
          go_loopw [22] (fun i wq => ∃ (k : Nat) (l : List Int), k ≤ m5 ∧ i = .int .i64 k ∧ (∀ y ∈ l, isByte y) ∧ wq.ownsRow w4.heap.size 5 1 (.slice A5 m5 k5) m5 (ints .u8 l) ∧ Below w4.heap.size w4 wq) (fun i _ => m5 - (intOf i).toNat)
          case atStart => exact ⟨0, PB, Nat.zero_le _, rfl, HPBB.out, OX.out, BV.out⟩
          case round =>
            obtain ⟨kx, l, hk, rfl, hl, hown, hbv⟩ := hrel
            have HBV := Lib.hid hbv
            have HL := Lib.hid hl
            have HO := Lib.hid hown
            clear hbv hl hown OX BV
            have hm5' := H5S.out
            by_cases hkm : kx < m5
            · have hki : (kx : Int) < (m5 : Int) := by omega
              obtain ⟨g, hA5, hg, hc, hf, hset⟩ := owns_int_at HO.out hkm
              subst hA5
              obtain ⟨x, hx⟩ : ∃ y, y = l.getD kx 0 := ⟨_, rfl⟩
              have hxb : isByte x := by rw [hx]; exact byte_at15 HL.out kx
              rw [← hx] at hc
              have ST := Lib.hid (show ∃ l' : List Int, (∀ y ∈ l', isByte y) ∧ (wr.setCell ⟨g, kx, none⟩ (.int .u8 ((x + 1) % 256))).ownsRow w4.heap.size 5 1 (.slice (some ⟨g, 0, none⟩) m5 k5) m5 (ints .u8 l') from ⟨_, set_bytes HL.out kx (next_byte hxb), hset _⟩)
              have SB1 := Lib.hid (HBV.out.setCell (p := ⟨g, kx, none⟩) hg (.int .u8 ((x + 1) % 256)))
              have hx0 : 0 ≤ x := hxb.1
              have hx1 : x < 256 := hxb.2
              have hwk : IntKind.i64.wrap (kx : Int) = (kx : Int) := Lib.wrap_i64_small kx (by omega)
              clear hset hx hxb hg
              go_wp2
              go_roundw
              case rel =>
                obtain ⟨l', hl', ho'⟩ := ST.out
                exact ⟨kx + 1, l', by omega, by go_num, hl', ho', SB1.out⟩
              case measure => simp [intOf]; omega
            · obtain rfl : kx = m5 := by omega
              clear hm5' HO HL
              obtain ⟨c0, c1, c2', c3, c4⟩ := (O4.out.below HBV.out O4.out.lt).frm
              obtain ⟨d0, d1, d2', d3, d4⟩ := (X4.out.below HBV.out X4.out.lt).frm
              go_wp2_with fail
              refine (SDF.out _ _ _ _ _ (RO4.out.below HBV.out) (RZ4.out.below HBV.out)).mono ?_
              rintro e wz ⟨rfl, hb⟩
              have BZ := Lib.hid (HBV.out.trans (hb.mono HBV.out.size))
              clear hb c0 c1 c2' c3 c4 d0 d1 d2' d3 d4
              have s1 := str_arg15 (RM4.out.below BZ.out)
              have s2 := str_arg15 (RT4.out.below BZ.out)
              rw [← HST.out] at s1 s2
              go_wp2
              go_ret
              exact ⟨rfl, B4.out.trans (BZ.out.mono B4.out.size)⟩

theorem ftells_of (FD : FrameDoes) (a b c d : Int) (A : Option Addr) (n k : Nat) (z : List Int) (a2 b2 c2 d2 : Int) (A2 : Option Addr) (n2 k2 : Nat) (z2 : List Int) (A1 : Option Addr) (n1 k1 : Nat) (t : List Int) (w : World) (h : Arg w .u8 A n k z) (hz : ∀ x ∈ z, isByte x) (va : isV a) (vb : isV b) (vc : isV c) (vd : isV d) (h2 : Arg w .u8 A2 n2 k2 z2) (hz2 : ∀ x ∈ z2, isByte x) (va2 : isV a2) (vb2 : isV b2) (vc2 : isV c2) (vd2 : isV d2) (h1 : Arg w .u8 A1 n1 k1 t) (ht : ∀ x ∈ t, isByte x) :
    Calls Try.prog 4 #[frmV a b c d A n k, frmV a2 b2 c2 d2 A2 n2 k2, .slice A1 n1 k1] w fun e w' => e = .returned (.bool true) ∧ Below w.heap.size w w' := by
  by_cases hg : 200 < n ∨ 200 < n2 ∨ 200 < n1
  · exact ftells_great FD a b c d A n k z a2 b2 c2 d2 A2 n2 k2 z2 A1 n1 k1 t w h hz va vb vc vd h2 hz2 va2 vb2 vc2 vd2 h1 ht hg
  · exact ftells_small FD a b c d A n k z a2 b2 c2 d2 A2 n2 k2 z2 A1 n1 k1 t w h hz va vb vc vd h2 hz2 va2 vb2 vc2 vd2 h1 ht (by omega) (by omega) (by omega)
end Go.Proofs.Ytdgfofemogmmkaa
