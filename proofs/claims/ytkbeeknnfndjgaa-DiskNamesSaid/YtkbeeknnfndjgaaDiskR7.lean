/- Layer 5: the document's own: a write. -/
import Derived.Test.YtkbeeknnfndjgaaDiskR6
namespace Go.Proofs.Ytkbeeknnfndjgaa
open Go.RowKit
set_option linter.unusedVariables false

set_option maxRecDepth 100000 in
set_option maxHeartbeats 3200000 in
theorem write_any (A : Option Addr) (n c : Nat) (A' : Option Addr) (n' c' : Nat) (S : List Sec) (C : List Pnd) (at_ : Int) (Ab : Option Addr) (nb cb : Nat) (b : Txt) (w : World) (hq : Dsk w A n c A' n' c' S C) (hs : SmallD S C) (hb : Arg w .u8 Ab nb cb b) (hby : ∀ z ∈ b, isByte z) (hbl : b.length ≤ 100) :
    Calls Try.prog 24 #[diskV A n c A' n' c', .int .i64 at_, .slice Ab nb cb] w (DiskOut w (wrS S C at_ b) (wrC S C at_ b) (wrE S C at_ b)) := by
  obtain ⟨x1, x2, hbel⟩ := boxes2 w A n c A' n' c' none 0 0 none 0 0
  have hsz : ((w.alloc (.cells #[.slice A n c, .slice A' n' c'] 25)).alloc (.cells #[.slice none 0 0, .slice none 0 0] 25)).heap.size = w.heap.size + 2 := by simp
  have K := asked_any A n c A' n' c' S C at_ _ (hq.below hbel)
  have X1 := Lib.hid x1
  have X2 := Lib.hid x2
  have BEL := Lib.hid hbel
  have HSZ := Lib.hid hsz
  have c0 := x1.cell 0
  have c1 := x1.cell 1
  simp only [List.getElem?_cons_zero, List.getElem?_cons_succ] at c0 c1
  have hlb := hb.len
  have hlp := hq.pnds.len
  have hls := hq.secs.len
  have hcb := Nat.le_trans hb.cap hb.max
  have hcp := Nat.le_trans hq.pnds.cap hq.pnds.max
  unfold maxLen at hcb hcp
  by_cases h0 : askE S C at_ = 0
  · have hE : wrE S C at_ b = if b.length = 32 then (if 64 ≤ C.length then 9 else 0) else 2 := by unfold wrE; rw [if_pos h0]
    rw [h0] at K
    have K := Lib.hid K
    by_cases h32 : nb = 32
    · by_cases h64 : 64 ≤ n'
      · have hE9 : wrE S C at_ b = 9 := by rw [hE, if_pos (by omega), if_pos (by omega)]
        rw [show wrS S C at_ b = [] by unfold wrS; rw [hE9]; rfl, show wrC S C at_ b = [] by unfold wrC; rw [hE9]; rfl, hE9]
        subst h32
        have h64i : (64 : Int) ≤ (n' : Int) := by omega
        clear hE hE9 h0 hq hs hb hby hbl hlb hlp hls x1 x2 hbel hsz
        go_enter Try.func24, Try.ntmps24
        go_wp2_with fail
        refine K.out.mono ?_
        rintro e w3 ⟨rfl, hb3⟩
        have x1 := X1.out.below hb3 (by have := HSZ.out; omega)
        have x2 := X2.out.below hb3 (by have := HSZ.out; omega)
        have d0 := x1.cell 0
        have d1 := x1.cell 1
        have e0 := x2.cell 0
        have e1 := x2.cell 1
        have g0 := x2.free 0
        have g1 := x2.free 1
        simp only [List.getElem?_cons_zero, List.getElem?_cons_succ] at d0 d1 e0 e1
        have R2 := Lib.hid x2
        have B3 := Lib.hid (BEL.out.trans (hb3.mono (by have := HSZ.out; omega)))
        clear hb3 x1 x2 c0 c1
        go_wp2
        have z := R2.out.two (.slice none 0 0) (.slice none 0 0)
        have z0 := z.cell 0
        have z1 := z.cell 1
        simp only [List.getElem?_cons_zero, List.getElem?_cons_succ] at z0 z1
        refine bodyPost_ret (v := .tuple #[diskV none 0 0 none 0 0, .int .i64 9]) ?_ rfl ⟨none, 0, none, 0, rfl, OwnDsk.nil _ _, below_two B3.out (by omega) _ _⟩
        clear d0 d1 e0 e1 g0 g1
        simp [results, Try.f24, go_sem, z0, z1]

      · have hE0 : wrE S C at_ b = 0 := by rw [hE, if_pos (by omega), if_neg (by omega)]
        rw [show wrS S C at_ b = S by unfold wrS; rw [hE0]; rfl, show wrC S C at_ b = C ++ [(at_, b)] by unfold wrC; rw [hE0]; rfl, hE0]
        have W := Lib.hid fun w3 hx hy => with_any A n c A' n' c' S C at_ Ab nb cb b w3 hx hs hy hby hbl
        subst h32
        have h64i : ¬ (64 : Int) ≤ (n' : Int) := by omega
        have HQ := Lib.hid hq
        have HB := Lib.hid hb
        have HLS := Lib.hid hls
        have HLP := Lib.hid (show (C ++ [(at_, b)]).length = n' + 1 by simp [hlp])
        clear hE hE0 h0 hq hs hb hby hbl hlb hlp hls x1 x2 hbel hsz
        go_enter Try.func24, Try.ntmps24
        go_wp2_with fail
        refine K.out.mono ?_
        rintro e w3 ⟨rfl, hb3⟩
        have x1 := X1.out.below hb3 (by have := HSZ.out; omega)
        have x2 := X2.out.below hb3 (by have := HSZ.out; omega)
        have d0 := x1.cell 0
        have d1 := x1.cell 1
        have e0 := x2.cell 0
        have e1 := x2.cell 1
        have g0 := x2.free 0
        have g1 := x2.free 1
        simp only [List.getElem?_cons_zero, List.getElem?_cons_succ] at d0 d1 e0 e1
        have R2 := Lib.hid x2
        have B3 := Lib.hid (BEL.out.trans (hb3.mono (by have := HSZ.out; omega)))
        have W := Lib.hid (W.out w3 (HQ.out.below B3.out) (HB.out.below B3.out))
        clear hb3 x1 x2 c0 c1 K e0 e1 g0 g1
        go_wp2_with fail
        refine W.out.mono ?_
        rintro e w4 ⟨B, d, B', d', rfl, hown, hb4⟩
        have hz3 : w.heap.size + 2 ≤ w3.heap.size := by have h1 := R2.out.lt; omega
        have x2 := R2.out.below hb4 (by omega)
        have e0 := x2.cell 0
        have e1 := x2.cell 1
        have g0 := x2.free 0
        have g1 := x2.free 1
        simp only [List.getElem?_cons_zero, List.getElem?_cons_succ] at e0 e1
        have Q2 := Lib.hid x2
        have O4 := Lib.hid hown
        have B4 := Lib.hid (B3.out.trans (hb4.mono B3.out.size))
        clear x2 hown hb4 d0 d1
        go_wp2
        have z := Q2.out.two (.slice B n d) (.slice B' (n' + 1) d')
        have z0 := z.cell 0
        have z1 := z.cell 1
        simp only [List.getElem?_cons_zero, List.getElem?_cons_succ] at z0 z1
        have O9 := O4.out.two Q2.out (.slice B n d) (.slice B' (n' + 1) d')
        have hls := HLS.out
        have hlp := HLP.out
        refine bodyPost_ret (v := .tuple #[diskV B n d B' (n' + 1) d', .int .i64 0]) ?_ rfl ⟨B, d, B', d', by rw [hls, hlp], by rw [hls, hlp]; exact O9.lower (by omega), below_two B4.out (by omega) _ _⟩
        clear e0 e1 g0 g1
        simp [results, Try.f24, go_sem, z0, z1]

    · have hE2 : wrE S C at_ b = 2 := by rw [hE, if_neg (by omega)]
      rw [show wrS S C at_ b = [] by unfold wrS; rw [hE2]; rfl, show wrC S C at_ b = [] by unfold wrC; rw [hE2]; rfl, hE2]
      have h32i : ((nb : Int) != 32) = true := bne_iff_ne.2 (by omega)
      clear hE hE2 h0 hq hs hb hby hbl hlb hlp hls x1 x2 hbel hsz
      go_enter Try.func24, Try.ntmps24
      go_wp2_with fail
      refine K.out.mono ?_
      rintro e w3 ⟨rfl, hb3⟩
      have x1 := X1.out.below hb3 (by have := HSZ.out; omega)
      have x2 := X2.out.below hb3 (by have := HSZ.out; omega)
      have d0 := x1.cell 0
      have d1 := x1.cell 1
      have e0 := x2.cell 0
      have e1 := x2.cell 1
      have g0 := x2.free 0
      have g1 := x2.free 1
      simp only [List.getElem?_cons_zero, List.getElem?_cons_succ] at d0 d1 e0 e1
      have R2 := Lib.hid x2
      have B3 := Lib.hid (BEL.out.trans (hb3.mono (by have := HSZ.out; omega)))
      clear hb3 x1 x2 c0 c1
      go_wp2
      have z := R2.out.two (.slice none 0 0) (.slice none 0 0)
      have z0 := z.cell 0
      have z1 := z.cell 1
      simp only [List.getElem?_cons_zero, List.getElem?_cons_succ] at z0 z1
      refine bodyPost_ret (v := .tuple #[diskV none 0 0 none 0 0, .int .i64 2]) ?_ rfl ⟨none, 0, none, 0, rfl, OwnDsk.nil _ _, below_two B3.out (by omega) _ _⟩
      clear d0 d1 e0 e1 g0 g1
      simp [results, Try.f24, go_sem, z0, z1]

  · have hE : wrE S C at_ b = askE S C at_ := by unfold wrE; rw [if_neg h0]
    rw [show wrS S C at_ b = [] by unfold wrS; rw [hE, if_neg h0], show wrC S C at_ b = [] by unfold wrC; rw [hE, if_neg h0], hE]
    obtain ⟨E, hEE⟩ : ∃ E, E = askE S C at_ := ⟨_, rfl⟩
    rw [← hEE] at K h0 ⊢
    have K := Lib.hid K
    have hne : (E != 0) = true := bne_iff_ne.2 h0
    clear hE hEE h0 hq hs hb hby hbl hlb hlp hls x1 x2 hbel hsz
    go_enter Try.func24, Try.ntmps24
    go_wp2_with fail
    refine K.out.mono ?_
    rintro e w3 ⟨rfl, hb3⟩
    have x1 := X1.out.below hb3 (by have := HSZ.out; omega)
    have x2 := X2.out.below hb3 (by have := HSZ.out; omega)
    have d0 := x1.cell 0
    have d1 := x1.cell 1
    have e0 := x2.cell 0
    have e1 := x2.cell 1
    have g0 := x2.free 0
    have g1 := x2.free 1
    simp only [List.getElem?_cons_zero, List.getElem?_cons_succ] at d0 d1 e0 e1
    have R2 := Lib.hid x2
    have B3 := Lib.hid (BEL.out.trans (hb3.mono (by have := HSZ.out; omega)))
    clear hb3 x1 x2 c0 c1
    go_wp2
    have z := R2.out.two (.slice none 0 0) (.slice none 0 0)
    have z0 := z.cell 0
    have z1 := z.cell 1
    simp only [List.getElem?_cons_zero, List.getElem?_cons_succ] at z0 z1
    refine bodyPost_ret (v := .tuple #[diskV none 0 0 none 0 0, .int .i64 E]) ?_ rfl ⟨none, 0, none, 0, rfl, OwnDsk.nil _ _, below_two B3.out (by omega) _ _⟩
    clear d0 d1 e0 e1 g0 g1
    simp [results, Try.f24, go_sem, z0, z1]

end Go.Proofs.Ytkbeeknnfndjgaa
