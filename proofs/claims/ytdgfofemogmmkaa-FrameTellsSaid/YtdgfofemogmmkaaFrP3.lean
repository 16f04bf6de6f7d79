/- Layer 15, the program's: rowOf, Write. No statement is proved here. -/
import Derived.Test.YtdgfofemogmmkaaFrP
import Derived.Test.YtdgfofemogmmkaaCrcG
import Derived.Test.YtdgfofemogmmkaaStepApp
import Derived.Deep.RegionHeld3
namespace Go.Proofs.Ytdgfofemogmmkaa
open Go.RowKit
set_option linter.unusedVariables false
set_option maxRecDepth 100000

theorem fits_frH {a b c d : Int} (va : isV a) (vb : isV b) (vc : isV c) (vd : isV d) : fitsTo [a, b, c, d] szFr szFr.length = true := by
  have h : ∀ v, isV v → v / 256 ^ 4 = 0 := fun v hv => Int.ediv_eq_zero_of_lt hv.1 (by rw [show (256 : Int) ^ 4 = 4294967296 by decide]; exact hv.2)
  have e : fitsTo [a, b, c, d] szFr szFr.length = ((((true && decide (a / 256 ^ 4 = 0)) && decide (b / 256 ^ 4 = 0)) && decide (c / 256 ^ 4 = 0)) && decide (d / 256 ^ 4 = 0)) := rfl
  rw [e, decide_eq_true (h a va), decide_eq_true (h b vb), decide_eq_true (h c vc), decide_eq_true (h d vd)]
  rfl
theorem words_frH {a b c d : Int} (va : isV a) (vb : isV b) (vc : isV c) (vd : isV d) : ∀ y ∈ [a, b, c, d], isWord y := by
  intro y hy
  simp only [List.mem_cons, List.not_mem_nil, or_false] at hy
  unfold isV at va vb vc vd
  unfold isWord
  rcases hy with rfl | rfl | rfl | rfl <;> omega

set_option maxHeartbeats 3200000 in
theorem prow15_any (a b c d : Int) (A : Option Addr) (n k : Nat) (w : World) (va : isV a) (vb : isV b) (vc : isV c) (vd : isV d) :
    Calls Try.prog 20 #[frmV a b c d A n k] w (OneOut .u8 5 w (frH a b c d) 16) := by
  obtain ⟨x, hbel⟩ := box_frm w a b c d A n k
  obtain ⟨w1, hw1⟩ : ∃ x : World, x = (w.alloc (.cells #[.int .u32 a, .int .u32 b, .int .u32 c, .int .u32 d, .slice A n k] 25)) := ⟨_, rfl⟩
  rw [← hw1] at x hbel
  have X := Lib.hid x
  have W1 := Lib.hid (words_frH va vb vc vd)
  have F1 := Lib.hid (fits_frH va vb vc vd)
  have e1 := word_u32 va
  have e2 := word_u32 vb
  have e3 := word_u32 vc
  have e4 := word_u32 vd
  have HH := Lib.hid (show rowTo [a, b, c, d] szFr szFr.length = frH a b c d from rfl)
  have HL := Lib.hid (frH_length a b c d)
  obtain ⟨R, hR⟩ : ∃ R, R = frH a b c d := ⟨_, rfl⟩
  rw [← hR] at HH HL ⊢
  have hcur : Below w.heap.size w w1.drew := below_drewN hbel 1
  have LL : ∀ wx : World, Seq (wx.alloc (.cells #[.int .u64 a, .int .u64 b, .int .u64 c, .int .u64 d] 56)) (wx.alloc (.cells #[.int .u64 a, .int .u64 b, .int .u64 c, .int .u64 d] 56)).heap.size (some ⟨wx.heap.size, 0, none⟩) (ints .u64 [a, b, c, d]) := fun wx => lit_row wx 56 .u64 [a, b, c, d] _ _ _ rfl rfl (by simp)
  have LL := Lib.hid LL
  have DW : ∀ wx : World, Below wx.heap.size wx wx.drew := fun wx => below_drewN (Below.refl _ _) 1
  have keepX : ∀ wx, Below w1.heap.size w1 wx → wx.cell? ⟨w.heap.size, 0, none⟩ = some (.int .u32 a) ∧ wx.cell? ⟨w.heap.size, 1, none⟩ = some (.int .u32 b) ∧ wx.cell? ⟨w.heap.size, 2, none⟩ = some (.int .u32 c) ∧ wx.cell? ⟨w.heap.size, 3, none⟩ = some (.int .u32 d) := fun wx hx => by
    obtain ⟨q0, q1, q2, q3, _⟩ := (X.out.below hx X.out.lt).frm
    exact ⟨q0, q1, q2, q3⟩
  have hM : Below w1.heap.size w1 w1.drew := below_drewN (Below.refl _ _) 1
  have HM := Lib.hid hM
  have hkX := keepX _ hM
  have B1 : Below w.heap.size w (w1.alloc (.cells #[.int .u64 a, .int .u64 b, .int .u64 c, .int .u64 d] 56)).drew := below_drewN (hbel.alloc hbel.size _) 1
  have M1 : Below w1.heap.size w1 (w1.alloc (.cells #[.int .u64 a, .int .u64 b, .int .u64 c, .int .u64 d] 56)).drew := below_drewN ((Below.refl w1.heap.size w1).alloc (Nat.le_refl _) _) 1
  have S1 : Seq (w1.alloc (.cells #[.int .u64 a, .int .u64 b, .int .u64 c, .int .u64 d] 56)).drew (w1.alloc (.cells #[.int .u64 a, .int .u64 b, .int .u64 c, .int .u64 d] 56)).drew.heap.size (some ⟨w1.heap.size, 0, none⟩) (ints .u64 [a, b, c, d]) := ((LL.out w1).below (below_drewN (Below.refl _ _) 1)).more (Nat.le_refl _)
  have B1 := Lib.hid B1
  have M1 := Lib.hid M1
  have S1 := Lib.hid S1
  have hz2 := keepX _ M1.out
  clear x hbel hR va vb vc vd hM
  go_enter Try.func20, Try.ntmps20
  go_upto_region 1 with fail
  rw [← hw1]
  clear hw1
  go_region_held3 (fun w' => w'.cell? ⟨w.heap.size, 0, none⟩ = some (.int .u32 a) ∧ w'.cell? ⟨w.heap.size, 1, none⟩ = some (.int .u32 b) ∧ w'.cell? ⟨w.heap.size, 2, none⟩ = some (.int .u32 c) ∧ w'.cell? ⟨w.heap.size, 3, none⟩ = some (.int .u32 d))
    (first | exact hkX | exact hz2 | exact hk3 | exact hk4 | exact hk5 | go_keep)
    ((first
      | (go_at_call 32; refine (fsizes_any _).mono ?_; rintro e wS ⟨gS, rfl, hAS, hbS⟩; (first
          | (have BF := B1.out.trans (hbS.mono B1.out.size); have MF := M1.out.trans (hbS.mono M1.out.size); have SL := (S1.out.below hbS).more hbS.size; have SS := hAS; have hk3 := keepX _ MF)
          | (have B0 := hcur.trans (hbS.mono hcur.size); have M0 := HM.out.trans (hbS.mono HM.out.size); have hk3 := keepX _ M0; have BF := B0.alloc B0.size (.cells #[.int .u64 a, .int .u64 b, .int .u64 c, .int .u64 d] 56); have MF := M0.alloc M0.size (.cells #[.int .u64 a, .int .u64 b, .int .u64 c, .int .u64 d] 56); have SL := LL.out wS; have SS := hAS.below ((Below.refl _ _).alloc (Nat.le_refl _) (.cells #[.int .u64 a, .int .u64 b, .int .u64 c, .int .u64 d] 56)); have hk4 := keepX _ MF)))
      | (go_at_call 31; with_reducible refine (write_ok _ (some ⟨gS, 0, none⟩) 4 4 4 4 [a, b, c, d] szFr _ SS.seq rfl okB_szFr SL rfl rfl W1.out).mono ?_; intro e w4 hout; obtain ⟨A4, r4, rfl, hown, hb4⟩ := (hout.yes F1.out).len HH.out HL.out; have hown := owns_base hown BF.size; have BF := BF.trans (hb4.mono BF.size); have MF := MF.trans (hb4.mono MF.size); have hk5 := keepX _ MF)))
  all_goals (
    have B := Lib.hid BF
    have O := Lib.hid hown
    go_wp2
    go_ret
    exact ⟨A4, r4, rfl, O.out, B.out⟩)

set_option maxHeartbeats 6400000 in
theorem pwrite15_any (a b c d : Int) (A : Option Addr) (n k : Nat) (z : List Int) (w : World) (h : Arg w .u8 A n k z) (hz : ∀ x ∈ z, isByte x) (va : isV a) (vb : isV b) (vc : isV c) (vd : isV d) :
    Calls Try.prog 8 #[frmV a b c d A n k] w (RowOut .u8 5 w (frB (a, b, c, d, z)) (frE (a, b, c, d, z))) := by
  obtain ⟨ib, hib, hbz, hb1, hb2⟩ := info_parts byte_info
  have hml : (1000000 : Nat) ≤ maxLen := by decide
  obtain ⟨x, hbel⟩ := box_frm w a b c d A n k
  obtain ⟨w1, hw1⟩ : ∃ x : World, x = (w.alloc (.cells #[.int .u32 a, .int .u32 b, .int .u32 c, .int .u32 d, .slice A n k] 25)) := ⟨_, rfl⟩
  rw [← hw1] at x hbel
  have X := Lib.hid x
  have B := Lib.hid hbel
  have hl := h.len
  have CK := Lib.hid (pcheck15_any a b c d A n k w1)
  have hmm : mayF (a, b, c, d, z) ↔ mayN a c n := by rw [mayN_iff, hl]
  obtain ⟨c0, c1, c2, c3, c4⟩ := x.frm
  by_cases hm : mayN a c n
  · rw [if_pos hm] at CK
    rw [frB, frE, if_pos (hmm.2 hm), if_pos (hmm.2 hm)]
    have hn : n ≤ 64 := by have := few_frame (hmm.2 hm); dsimp only at this; omega
    have RW := Lib.hid (fun wx => prow15_any a b c d A n k wx va vb vc vd)
    have HTB := Lib.hid (show ∀ y ∈ frH a b c d ++ z, isByte y from fun y hy => by
      rcases List.mem_append.1 hy with hy | hy
      · exact frH_byte _ _ _ _ y hy
      · exact hz y hy)
    have HTL := Lib.hid (show (frH a b c d ++ z).length = 16 + n by rw [List.length_append, frH_length, hl])
    have e : frT (a, b, c, d, z) = seB (frH a b c d ++ z) := by
      unfold frT seB
      rw [frW_eq, if_neg (by rw [HTL.out]; omega)]
    have e0 : (0 : Int) = seE (frH a b c d ++ z) := by
      unfold seE
      rw [if_neg (by rw [HTL.out]; omega)]
    have HSL := Lib.hid (show (frT (a, b, c, d, z)).length = 20 + n by rw [frT_length]; show 20 + z.length = _; omega)
    have SG := Lib.hid (fun (Ax : Option Addr) (kx : Nat) (wx : World) (hx : Arg wx .u8 Ax (16 + n) kx (frH a b c d ++ z)) => seal_gen Ax (16 + n) kx (frH a b c d ++ z) wx hx HTB.out)
    rw [← e, ← e0] at SG
    obtain ⟨H, hH⟩ : ∃ H, H = frH a b c d := ⟨_, rfl⟩
    obtain ⟨T, hT⟩ : ∃ H, H = frT (a, b, c, d, z) := ⟨_, rfl⟩
    rw [← hH] at RW SG
    rw [← hT] at SG HSL ⊢
    have R0 := Lib.hid (h.below hbel)
    have L0 := Lib.hid (show (ints .u8 z).length = n by rw [ints_length]; exact hl)
    clear x hbel h hz va vb vc vd hmm hm hl HTB HTL e e0 hH hT
    go_enter Try.func8, Try.ntmps8
    go_wp2_with fail
    rw [← hw1]
    clear hw1
    refine CK.out.mono ?_
    rintro e w2 ⟨rfl, hb⟩
    have X2 := Lib.hid (X.out.below hb X.out.lt)
    have R2 := Lib.hid (R0.out.below hb)
    have B2 := Lib.hid (B.out.trans (hb.mono B.out.size))
    clear hb CK c0 c1 c2 c3 c4 X R0 B
    go_upto_region 4 with fail
    have XD := Lib.hid (X2.out.below (below_drewN (Below.refl w2.heap.size w2) 1) X2.out.lt)
    have RD := Lib.hid (R2.out.below (below_drewN (Below.refl w2.heap.size w2) 1))
    have BD := Lib.hid (below_drewN B2.out 1)
    have hlx := X2.out.lt
    have keepX : ∀ wx, Below w2.heap.size w2 wx → wx.cell? ⟨w.heap.size, 0, none⟩ = some (.int .u32 a) ∧ wx.cell? ⟨w.heap.size, 1, none⟩ = some (.int .u32 b) ∧ wx.cell? ⟨w.heap.size, 2, none⟩ = some (.int .u32 c) ∧ wx.cell? ⟨w.heap.size, 3, none⟩ = some (.int .u32 d) ∧ wx.cell? ⟨w.heap.size, 4, none⟩ = some (.slice A n k) := fun wx hx => (X2.out.below hx X2.out.lt).frm
    have hcur : Below w2.heap.size w2 w2.drew := below_drewN (Below.refl _ _) 1
    have hM1 : 16 + n ≤ maxLen := by omega
    have hM2 : (16 + n) * 1 ≤ 140737488355328 := by omega
    have hkX := keepX _ hcur
    go_region_held3 (fun w' => w'.cell? ⟨w.heap.size, 0, none⟩ = some (.int .u32 a) ∧ w'.cell? ⟨w.heap.size, 1, none⟩ = some (.int .u32 b) ∧ w'.cell? ⟨w.heap.size, 2, none⟩ = some (.int .u32 c) ∧ w'.cell? ⟨w.heap.size, 3, none⟩ = some (.int .u32 d) ∧ w'.cell? ⟨w.heap.size, 4, none⟩ = some (.slice A n k))
      (first | exact hkX | go_keep)
      ((first
        | (go_at_call 20; (with_reducible refine (RW.out _).mono ?_); rintro e w3 ⟨A3, r3, rfl, hown, hb⟩; have hown := owns_base hown hcur.size; have hcur := hcur.trans (hb.mono hcur.size); have hkX := keepX _ hcur)
        | (go_at_call 10; (with_reducible refine (SG.out A6 c6 _ AR).mono ?_); rintro e w7 ⟨A7, c7, rfl, hown7, hb7⟩; have hown7 := owns_base hown7 hcur.size; have hcur := hcur.trans (hb7.mono hcur.size); have hkX := keepX _ hcur)
        | (refine step_app _ ?_ (.tmp 11) (.tmp 13) _ ?_ w2.heap.size 5 ib _ 1 Try.underlying23 hib hbz hb1 hb2 rfl (.slice A3 16 r3) 16 _ ?_ hown _ _ n k (ints .u8 z) ?_ L0.out (R2.out.below hcur).seq (ints_one _ _) hM1 hM2 hcur.size ?_; rfl; rfl; rfl; rfl; intro v6 w6 hown6 hg6 hob6; have hcur := hcur.grown hg6 hcur.size (fun g e => (hown.lt g e).1); have hkX := keepX _ hcur; obtain ⟨A6, c6, rfl⟩ := owns_slice hown6; rw [← ints_app] at hown6; have AR := Arg.own hown6)
        | fail))
    all_goals (
      have BF := Lib.hid (B2.out.trans (hcur.mono B2.out.size))
      have O := Lib.hid (owns_base hown7 B2.out.size)
      clear keepX hkX hcur hown hown6 hown7 hg6 hob6 hb7 AR
      go_wp2
      go_ret2
      exact ⟨A7, c7, rfl, O.out, BF.out⟩)
  · rw [if_neg hm] at CK
    rw [frB, frE, if_neg (fun e => hm (hmm.1 e)), if_neg (fun e => hm (hmm.1 e))]
    clear x hbel h hz va vb vc vd hmm hm hl
    go_enter Try.func8, Try.ntmps8
    go_wp2_with fail
    rw [← hw1]
    clear hw1
    refine CK.out.mono ?_
    rintro e w2 ⟨rfl, hb⟩
    have B2 := Lib.hid (B.out.trans (hb.mono B.out.size))
    clear hb CK c0 c1 c2 c3 c4 B
    go_wp2
    go_ret2
    exact ⟨none, 0, rfl, World.ownsRow_nil _ _ _ _, B2.out⟩
end Go.Proofs.Ytdgfofemogmmkaa
