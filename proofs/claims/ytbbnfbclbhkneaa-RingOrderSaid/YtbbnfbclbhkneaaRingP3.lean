/- Layer 4, package ring: twins, whether two are the same. -/
import Derived.Test.YtbbnfbclbhkneaaRingP2
namespace Go.Proofs.Ytbbnfbclbhkneaa
open Go.RowKit
set_option linter.unusedVariables false

set_option maxRecDepth 100000 in
set_option maxHeartbeats 1600000 in
theorem ptwin_any (A : Option Addr) (n c : Nat) (h m : Int) (q : List Text) (w : World) (hq : Texts w A n c q) (hs : Small q) :
    Calls Try.prog 23 #[queueV A n c h m] w fun e w' => ∃ A' c', e = .returned (queueV A' n c' h m) ∧ OwnTexts w' w.heap.size A' n c' q ∧ Below w.heap.size w w' := by
  obtain ⟨x1, x2, hbel⟩ := boxes2 w A n c h m none 0 0 0 0
  have hz : ((w.alloc (.cells #[.slice A n c, .int .i64 h, .int .i64 m] 24)).alloc (.cells #[.slice none 0 0, .int .i64 0, .int .i64 0] 24)).heap.size = w.heap.size + 2 := by simp
  have hn := hs.many
  rw [hq.len] at hn
  obtain ⟨s, hsq0, hsa⟩ := hq.vals
  have hsq := (hsq0.below hbel).more hbel.size
  have hnc := hq.cap
  have hcm := hq.max
  have hql := hq.len
  have T := twinT_any A n c _ _ hsq (by simp) (rows_one n s) hn hcm hnc
  rw [hz] at T
  obtain ⟨vs, hvs⟩ : ∃ vs, vs = (List.range n).map fun i => Value.slice (s i).1 (s i).2.1 (s i).2.2 := ⟨_, rfl⟩
  rw [← hvs] at T
  have hvk : ∀ k, k < n → vs[k]? = some (.slice (s k).1 (s k).2.1 (s k).2.2) := fun k hk => by rw [hvs]; simp [hk]
  have hc0 := x1.cell 0
  have f0 := x1.free 0
  simp only [List.getElem?_cons_zero] at hc0
  have X1 := Lib.hid x1
  have X2 := Lib.hid x2
  have B1 := Lib.hid hbel
  have T := Lib.hid T
  have VK := Lib.hid hvk
  have SA := Lib.hid hsa
  have QB := Lib.hid hq.byte
  have QL := Lib.hid hql
  have SM := Lib.hid fun k => hs.at_ k
  have HZ := Lib.hid hz
  clear hq hs hbel hz x1 x2 hsq0 hsq hsa hvs hvk hql hcm hnc
  go_enter Try.func23, Try.ntmps23
  go_wp2_with fail
  refine T.out.mono ?_
  rintro e w2 ⟨A2, c2, rfl, hown, hb2⟩
  have hz := HZ.out
  have x1 := X1.out.below hb2 (by omega)
  have x2 := X2.out.below hb2 (by omega)
  have d0 := x1.cell 0
  have f0 := x1.free 0
  simp only [List.getElem?_cons_zero] at d0
  have B2 := Lib.hid (B1.out.trans (hb2.mono (by omega)))
  have hz2 := hb2.size
  have hzz : w.heap.size + 2 ≤ w2.heap.size := by omega
  have H2 := Lib.hid (HalfTexts.zero (q := q) hown)
  have X1 := Lib.hid x1
  have X2 := Lib.hid x2
  clear hc0 T hown hb2 x1 x2 hz hz2
  go_wp2
  have X3 := Lib.hid (X1.out.set 0 (.slice A2 n c2))
  have X4 := Lib.hid (X2.out.away (g' := w.heap.size) (by omega) 0 (.slice A2 n c2))
  have H3 := Lib.hid (H2.out.box X1.out q_types.1 q_types.2 0 (.slice A2 n c2))
  have B3 := Lib.hid (B2.out.setCell (p := ⟨w.heap.size, 0, none⟩) (Nat.le_refl _) (.slice A2 n c2))
  obtain ⟨w3, hw3⟩ : ∃ w3, w3 = w2.setCell ⟨w.heap.size, 0, none⟩ (.slice A2 n c2) := ⟨_, rfl⟩
  have hz3 : w.heap.size + 2 ≤ w3.heap.size := by rw [hw3]; simp [World.setCell]; omega
  rw [← hw3] at X3 X4 H3 B3 ⊢
  clear hw3 X1 X2 H2 B2 d0 f0 HZ B1
  have d0 := X3.out.cell 0
  simp only [List.getElem?_cons_zero, List.set_cons_zero] at d0
  go_wp2
  go_loopw [12] (fun i wr => ∃ k : Nat, k ≤ n ∧ i = .int .i64 k ∧ HalfTexts wr (w.heap.size + 2) A2 n c2 q vs k ∧ Below w.heap.size w wr ∧ Blk wr w.heap.size 24 [.slice A2 n c2, .int .i64 h, .int .i64 m] ∧ Blk wr (w.heap.size + 1) 24 [.slice none 0 0, .int .i64 0, .int .i64 0]) (fun i _ => n - (intOf i).toNat)
  case atStart => exact ⟨0, Nat.zero_le _, rfl, H3.out, B3.out, X3.out, X4.out⟩
  case round =>
    obtain ⟨k, hk, rfl, hH, hB, hx1, hx2⟩ := hrel
    have HH := Lib.hid hH
    have BB := Lib.hid hB
    have R2 := Lib.hid hx2
    by_cases hkn : k < n
    · obtain ⟨g, rfl, hbg, hgs, hck⟩ := hH.head hkn
      rw [VK.out k hkn] at hck
      have hag := (SA.out k hkn).below hB
      obtain ⟨Ai, hAi⟩ : ∃ x, x = (s k).1 := ⟨_, rfl⟩
      obtain ⟨ni, hni⟩ : ∃ x, x = (s k).2.1 := ⟨_, rfl⟩
      obtain ⟨ci, hci⟩ : ∃ x, x = (s k).2.2 := ⟨_, rfl⟩
      rw [← hAi, ← hni, ← hci] at hck hag
      have hsm : ni ≤ 1000 := by rw [← hag.len]; exact Nat.le_trans (SM.out k) (by omega)
      have e0 := hx1.cell 0
      simp only [List.getElem?_cons_zero] at e0
      have HAG := Lib.hid (show Arg wr.drew .u8 Ai ni ci (q.getD k []) from hag.below (below_drewN (Below.refl _ _) 1))
      have TB := Lib.hid (twinB_any Ai ni ci _ wr.drew HAG.out hsm)
      have HD := Lib.hid (show HalfTexts wr.drew (w.heap.size + 2) (some ⟨g, 0, none⟩) n c2 q vs k from hH.below (below_drewN (Below.refl _ _) 1))
      have BD := Lib.hid (show Below w.heap.size w wr.drew from below_drewN hB 1)
      have XD := Lib.hid (show Blk wr.drew w.heap.size 24 [.slice (some ⟨g, 0, none⟩) n c2, .int .i64 h, .int .i64 m] from hx1)
      have XE := Lib.hid (show Blk wr.drew (w.heap.size + 1) 24 [.slice none 0 0, .int .i64 0, .int .i64 0] from hx2)
      have hzd : w.heap.size + 2 ≤ wr.drew.heap.size := by
        have h1 := hx2.lt
        show w.heap.size + 2 ≤ wr.heap.size
        omega
      have keepX : ∀ wx, Below wr.drew.heap.size wr.drew wx → wx.cell? ⟨w.heap.size, 0, none⟩ = some (.slice (some ⟨g, 0, none⟩) n c2) := fun wx hx => (hx.cell (p := ⟨w.heap.size, 0, none⟩) (by show w.heap.size < _; omega)).trans e0
      have hki : (k : Int) < (n : Int) := by omega
      have hgB : g ≠ w.heap.size := by omega
      clear hH hB hx1 hx2 hag hAi hni hci d0 hgs
      go_wp2_with fail
      go_region_held3 (fun w' => w'.cell? ⟨w.heap.size, 0, none⟩ = some (.slice (some ⟨g, 0, none⟩) n c2))
        (first | exact hkX | go_keep)
        ((go_at_call 30; refine TB.out.mono ?_; rintro e w4 ⟨A4, c4, rfl, hown4, hb4⟩; have hkX := keepX w4 hb4; obtain ⟨g', v4, hg', _, hcg, hfg, hH5⟩ := (HD.out.below hb4).step hkn (owns_base hown4 hzd); cases hg'))
      have H6 := Lib.hid hH5
      have Y1 := Lib.hid ((XD.out.below hb4 (by omega)).away (g' := g) (Ne.symm hgB) k (.slice A4 ni c4))
      have Y2 := Lib.hid ((XE.out.below hb4 (by omega)).away (g' := g) (by omega) k (.slice A4 ni c4))
      have B6 := Lib.hid ((BD.out.trans (hb4.mono BD.out.size)).setCell (p := ⟨g, k, none⟩) (show w.heap.size ≤ g by omega) (.slice A4 ni c4))
      clear hH5 hown4 hb4 hkX hcg hfg keepX
      go_wp2
      go_roundw
      case rel => exact ⟨k + 1, by omega, by go_num, H6.out, B6.out, Y1.out, Y2.out⟩
      case measure => simp [intOf]; omega
    · obtain rfl : k = n := by omega
      have e0 := hx1.cell 0
      have e1 := hx1.cell 1
      have e2 := hx1.cell 2
      have r0 := hx2.cell 0
      have r1 := hx2.cell 1
      have r2 := hx2.cell 2
      have g0 := hx2.free 0
      have g1 := hx2.free 1
      have g2 := hx2.free 2
      simp only [List.getElem?_cons_zero, List.getElem?_cons_succ] at e0 e1 e2 r0 r1 r2
      clear hH hB hx1 hx2 d0
      go_wp2
      have z := R2.out.three (.slice A2 k c2) (.int .i64 h) (.int .i64 m)
      have z0 := z.cell 0
      have z1 := z.cell 1
      have z2 := z.cell 2
      simp only [List.getElem?_cons_zero, List.getElem?_cons_succ] at z0 z1 z2
      have O3 := (HH.out.whole QL.out QB.out).three R2.out q_types.1 q_types.2 (.slice A2 k c2) (.int .i64 h) (.int .i64 m)
      have B3 := below_three BB.out (show w.heap.size ≤ w.heap.size + 1 by omega) (.slice A2 k c2) (.int .i64 h) (.int .i64 m)
      refine bodyPost_ret (v := queueV A2 k c2 h m) ?_ rfl ⟨A2, c2, rfl, O3.lower (by omega), B3⟩
      clear e0 e1 e2 r0 r1 r2 g0 g1 g2
      simp [results, Try.f23, go_sem, z0, z1, z2]

set_option maxRecDepth 100000 in
set_option maxHeartbeats 1600000 in
theorem psame_any (A : Option Addr) (n c : Nat) (h m : Int) (a : List Text) (A' : Option Addr) (n' c' : Nat) (h' m' : Int) (b : List Text) (w : World) (ha : Texts w A n c a) (hb : Texts w A' n' c' b) (hsa : Small a) :
    Calls Try.prog 24 #[queueV A n c h m, queueV A' n' c' h' m'] w fun e w' => e = .returned (.bool (sameB a h m b h' m')) ∧ Below w.heap.size w w' := by
  obtain ⟨x1, x2, hbel⟩ := boxes2 w A n c h m A' n' c' h' m'
  have HA := Lib.hid (ha.below hbel)
  have HB := Lib.hid (hb.below hbel)
  have d0 := x1.cell 0
  have d1 := x1.cell 1
  have d2 := x1.cell 2
  have e0 := x2.cell 0
  have e1 := x2.cell 1
  have e2 := x2.cell 2
  simp only [List.getElem?_cons_zero, List.getElem?_cons_succ] at d0 d1 d2 e0 e1 e2
  have BEL := Lib.hid hbel
  have hE : sameB a h m b h' m' = decide (h = h' ∧ m = m' ∧ a = b) := rfl
  have hna := hsa.many
  rw [ha.len] at hna
  have hla := ha.len
  have hlb := hb.len
  by_cases hh : h = h'
  case neg =>
    rw [show sameB a h m b h' m' = false by rw [hE]; simp [hh]]
    have hh2 : (h != h') = true := bne_iff_ne.2 hh
    clear hE hbel x1 x2 ha hb hla hlb hsa
    go_enter Try.func24, Try.ntmps24
    go_wp2
    go_ret
    exact ⟨rfl, BEL.out⟩
  subst hh
  by_cases hm : m = m'
  case neg =>
    rw [show sameB a h m b h m' = false by rw [hE]; simp [hm]]
    have hm2 : (m != m') = true := bne_iff_ne.2 hm
    have hm3 : (h != h) = false := by simp
    clear hE hbel x1 x2 ha hb hla hlb hsa
    go_enter Try.func24, Try.ntmps24
    go_wp2
    go_ret
    exact ⟨rfl, BEL.out⟩
  subst hm
  by_cases hn : n = n'
  case neg =>
    rw [show sameB a h m b h m = false by rw [hE]; simp; intro e; exact hn (by rw [← hla, ← hlb, e])]
    have hn2 : ((n : Int) != (n' : Int)) = true := bne_iff_ne.2 (by omega)
    clear hE hbel x1 x2 ha hb hla hlb hsa
    go_enter Try.func24, Try.ntmps24
    go_wp2
    go_ret
    exact ⟨rfl, BEL.out⟩
  subst hn
  rw [show sameB a h m b h m = decide (a = b) by rw [hE]; simp]
  have YES := Lib.hid fun h => (show decide (a = b) = true from decide_eq_true (list_same hla hlb h))
  have NO := Lib.hid fun k (h : a.getD k [] ≠ b.getD k []) => (show decide (a = b) = false from decide_eq_false fun e => h (by rw [e]))
  obtain ⟨R, hR⟩ : ∃ R, R = decide (a = b) := ⟨_, rfl⟩
  rw [← hR] at YES NO ⊢
  obtain ⟨w1, hw1⟩ : ∃ w1, w1 = (w.alloc (.cells #[.slice A n c, .int .i64 h, .int .i64 m] 24)).alloc (.cells #[.slice A' n c', .int .i64 h, .int .i64 m] 24) := ⟨_, rfl⟩
  clear hE hbel x1 x2 ha hb hla hlb hsa hR
  go_enter Try.func24, Try.ntmps24
  go_wp2
  rw [← hw1] at HA HB d0 d1 d2 e0 e1 e2 BEL ⊢
  clear hw1
  go_loopw [30] (fun i wr => ∃ k : Nat, k ≤ n ∧ i = .int .i64 k ∧ (∀ y, y < k → a.getD y [] = b.getD y []) ∧ ∃ q, wr = w1.drewN q) (fun i _ => n - (intOf i).toNat)
  case atStart => exact ⟨0, Nat.zero_le _, rfl, fun y hy => by omega, 0, rfl⟩
  case round =>
    obtain ⟨k, hk, rfl, hall, q, rfl⟩ := hrel
    have ALL := Lib.hid hall
    clear hall
    by_cases hkn : k < n
    · obtain ⟨b1, o1, A1, n1, c1, rfl, hlt1, hc1, ha1⟩ := HA.out.at_ k hkn
      obtain ⟨b2, o2, A2, n2, c2, rfl, hlt2, hc2, ha2⟩ := HB.out.at_ k hkn
      have hby1 := HA.out.byte_at k
      have hby2 := HB.out.byte_at k
      have NOK := Lib.hid (NO.out k)
      obtain ⟨x, hx⟩ : ∃ x, x = a.getD k [] := ⟨_, rfl⟩
      obtain ⟨y, hy⟩ : ∃ y, y = b.getD k [] := ⟨_, rfl⟩
      rw [← hx] at ha1 hby1 NOK
      rw [← hy] at ha2 hby2 NOK
      have EQ := Lib.hid fun r => equal_any A1 n1 c1 x A2 n2 c2 y (w1.drewN r) (ha1.below (below_drewN (Below.refl _ _) r)) (ha2.below (below_drewN (Below.refl _ _) r)) hby1 hby2
      have HX := Lib.hid hx
      have HY := Lib.hid hy
      have hki : (k : Int) < (n : Int) := by omega
      clear hx hy ha1 ha2 hby1 hby2
      by_cases hxy : x = y
      · rw [decide_eq_true hxy] at EQ
        have HXY := Lib.hid hxy
        clear hxy
        go_wp2
        go_quiet ((go_at_call 33; refine (EQ.out _).mono ?_; rintro e w2 ⟨rfl, rfl⟩; exact ⟨rfl, _, rfl⟩))
        go_wp2
        go_roundw
        case rel =>
          refine ⟨k + 1, by omega, by go_num, fun y' hy' => ?_, _, rfl⟩
          rcases Nat.lt_or_ge y' k with h' | h'
          · exact ALL.out y' h'
          · obtain rfl : y' = k := by omega
            rw [← HX.out, ← HY.out]
            exact HXY.out
        case measure => simp [intOf]; omega
      · rw [decide_eq_false hxy] at EQ
        have HN := Lib.hid (NOK.out hxy)
        clear hxy
        go_wp2
        go_quiet ((go_at_call 33; refine (EQ.out _).mono ?_; rintro e w2 ⟨rfl, rfl⟩; exact ⟨rfl, _, rfl⟩))
        go_wp2
        go_ret
        rw [HN.out]
        exact ⟨rfl, below_drewN (below_drewN BEL.out _) _⟩
    · obtain rfl : k = n := by omega
      have HY := Lib.hid (YES.out ALL.out)
      go_wp2
      go_ret
      rw [HY.out]
      exact ⟨rfl, below_drewN BEL.out q⟩

end Go.Proofs.Ytbbnfbclbhkneaa
