/- Layer 16: the program's calls do what they must. No statement is proved here. -/
import Derived.Test.YtibegaoegpanpaaNtP4
namespace Go.Proofs.Ytibegaoegpanpaa
open Go.RowKit
set_option linter.unusedVariables false
set_option maxRecDepth 100000

set_option maxHeartbeats 1600000 in
theorem psend16_any (A : Option Addr) (n c : Nat) (q : List Text) (A' : Option Addr) (n' c' : Nat) (b : Text) (w : World) (hq : Texts w A n c q) (hs : Small q) (hb : Arg w .u8 A' n' c' b) (hby : ∀ z ∈ b, isByte z) (hn' : n' ≤ 200) :
    Calls Try.prog 6 #[.slice A n c, .slice A' n' c'] w (TextsOut w (sdL q b) (ntE q)) := by
  have hl := hq.len
  have CK := Lib.hid (pcheck16_any A n c q w hl)
  by_cases h : 64 < n
  · have e : ntE q = 8 := if_pos (by omega)
    have e2 : sdL q b = [] := if_pos (by omega)
    rw [e] at CK
    rw [e, e2]
    clear e e2 hl h hq hs hb hby
    go_enter Try.func6, Try.ntmps6
    go_wp2_with fail
    refine CK.out.mono ?_
    rintro e w1 ⟨rfl, rfl⟩
    go_wp2
    go_ret2
    exact ⟨none, 0, rfl, OwnTexts.nil _ _, Below.refl _ _⟩
  · have e : ntE q = 0 := if_neg (by omega)
    have e2 : sdL q b = sentN q b := if_neg (by omega)
    rw [e] at CK
    have TW := Lib.hid (pTwin16_any A n c q w hq hs)
    have HB := Lib.hid hb
    have WI := Lib.hid (fun (A1 : Option Addr) (c1 : Nat) (w1 : World) (ho : OwnTexts w1 w.heap.size A1 n c1 q) (hx : Below w.heap.size w w1) => with_any w.heap.size A1 n c1 q A' n' c' b w1 ho hx.size (by omega) (HB.out.below hx) hby hn')
    rw [e, e2]
    unfold WithOut at WI
    unfold TextsOut
    obtain ⟨Q, hQ⟩ : ∃ Q, Q = sentN q b := ⟨_, rfl⟩
    rw [← hQ] at WI ⊢
    clear e e2 hl h hq hs hb hby hQ
    go_enter Try.func6, Try.ntmps6
    go_wp2_with fail
    refine CK.out.mono ?_
    rintro e w1 ⟨rfl, rfl⟩
    clear CK
    go_wp2_with fail
    refine TW.out.mono ?_
    rintro e w2 ⟨A1, c1, rfl, hown, hb1⟩
    have B := Lib.hid hb1
    have WI := Lib.hid (WI.out A1 c1 w2 hown hb1)
    clear hown hb1 TW
    go_wp2_with fail
    refine WI.out.mono ?_
    rintro e w3 ⟨A3, c3, rfl, hown, _, hb3⟩
    have O := Lib.hid hown
    have B := Lib.hid (B.out.trans hb3)
    clear hown hb3 WI
    go_wp2
    go_ret2
    exact ⟨A3, c3, rfl, O.out, B.out⟩

set_option maxHeartbeats 1600000 in
theorem ptwice16_any (A : Option Addr) (n c : Nat) (q : List Text) (i : Int) (w : World) (hq : Texts w A n c q) (hs : Small q) :
    Calls Try.prog 7 #[.slice A n c, .int .i64 i] w (TwiceOut w q i) := by
  unfold TwiceOut
  by_cases h : ntE2 q i = 0
  · obtain ⟨h64, k, rfl, hk⟩ := ntE2_zero h
    have e2 : twL q (k : Int) = sentN q (q.getD k []) := if_pos h
    have hl := hq.len
    subst hl
    have FY := Lib.hid (find_yes A q.length c q k w hq hs h64 hk)
    have HSM := Lib.hid (hs.at_ k)
    rw [h, e2]
    unfold FindOut at FY
    have WI := Lib.hid (fun (g c1 : Nat) (Ai : Option Addr) (ni ci : Nat) (w1 : World) (ho : OwnTexts w1 w.heap.size (some ⟨g, 0, none⟩) q.length c1 q) (hb : Arg w1 .u8 Ai ni ci (q.getD k [])) (hx : Below w.heap.size w w1) => with_any w.heap.size (some ⟨g, 0, none⟩) q.length c1 q Ai ni ci (q.getD k []) w1 ho hx.size h64 hb (hq.byte_at k) (by rw [← hb.len]; exact HSM.out))
    have LK := Lib.hid (show ∀ (g c1 : Nat) (Ai : Option Addr) (ni ci : Nat) (w1 : World), OwnTexts w1 w.heap.size (some ⟨g, 0, none⟩) q.length c1 q → w1.cell? ⟨g, k, none⟩ = some (.slice Ai ni ci) → Arg w1 .u8 Ai ni ci (q.getD k []) from fun g c1 Ai ni ci w1 ho hc => by
      obtain ⟨vs, hv, _, _, hin⟩ := ho
      obtain ⟨Aj, nj, cj, e, hj⟩ := hin k hk
      have k1 := (hv.cellAt k (by omega)).symm.trans hc
      have e3 := e.symm.trans k1
      injection e3 with e3
      injection e3 with e4 e5 e6
      subst e4; subst e5; subst e6
      exact Arg.own hj)
    obtain ⟨b, hb⟩ : ∃ b, b = q.getD k [] := ⟨_, rfl⟩
    rw [← hb] at WI LK ⊢
    unfold WithOut at WI
    obtain ⟨Q, hQ⟩ : ∃ Q, Q = sentN q b := ⟨_, rfl⟩
    rw [← hQ] at WI ⊢
    obtain ⟨n, hn⟩ : ∃ n, n = q.length := ⟨_, rfl⟩
    rw [← hn] at FY WI LK ⊢
    clear h h64 hk e2 hq hs hb hQ hn HSM
    go_enter Try.func7, Try.ntmps7
    go_wp2_with fail
    refine FY.out.mono ?_
    rintro e w1 ⟨g, c1, Ai, ni, ci, rfl, hown, hc, hb1⟩
    have hb2 : Below w1.heap.size w1 (w1.alloc (.cells #[.slice (some ⟨g, 0, none⟩) n c1] 47)) := (Below.refl _ _).alloc (Nat.le_refl _) _
    have B := Lib.hid (hb1.trans (hb2.mono hb1.size))
    have WI := Lib.hid (WI.out g c1 Ai ni ci _ (hown.below hb2) ((LK.out _ _ _ _ _ _ hown hc).below hb2) B.out)
    have y0 := (Blk.new w1 47 [.slice (some ⟨g, 0, none⟩) n c1]).cell 0
    simp only [List.getElem?_cons_zero] at y0
    clear hown hb1 hc FY LK hb2
    go_wp2_with fail
    refine WI.out.mono ?_
    rintro e w3 ⟨A3, c3, rfl, hown, hap, hb3⟩
    have O := Lib.hid hown
    have L := Lib.hid hap
    have B := Lib.hid (B.out.trans hb3)
    clear hown hb3 hap WI y0
    go_wp2
    go_ret2
    exact ⟨A3, c3, rfl, O.out, L.out, B.out⟩
  · have e2 : twL q i = [] := if_neg h
    have FN := Lib.hid (find_no A n c q i w hq hs h)
    have hne : ((ntE2 q i) != 0) = true := bne_iff_ne.2 h
    rw [e2]
    obtain ⟨E, hE⟩ : ∃ E, E = ntE2 q i := ⟨_, rfl⟩
    rw [← hE] at FN hne h ⊢
    clear e2 hq hs hE
    go_enter Try.func7, Try.ntmps7
    go_wp2_with fail
    refine FN.out.mono ?_
    rintro e w1 ⟨rfl, hb1⟩
    have hb2 : Below w1.heap.size w1 (w1.alloc (.cells #[.slice none 0 0] 47)) := (Below.refl _ _).alloc (Nat.le_refl _) _
    have B := Lib.hid (hb1.trans (hb2.mono hb1.size))
    clear hb1 hb2 FN
    go_wp2
    go_ret2
    exact ⟨none, 0, rfl, OwnTexts.nil _ _, fun h => by simp at h, B.out⟩

set_option maxHeartbeats 1600000 in
theorem ptake16_any (A : Option Addr) (n c : Nat) (q : List Text) (i : Int) (w : World) (hq : Texts w A n c q) (hs : Small q) :
    Calls Try.prog 8 #[.slice A n c, .int .i64 i] w (TakeOut w (tkL q i) (tkB q i) (ntE2 q i)) := by
  unfold TakeOut
  by_cases h : ntE2 q i = 0
  · obtain ⟨h64, k, rfl, hk⟩ := ntE2_zero h
    have e2 : tkL q (k : Int) = q.eraseIdx k := if_pos h
    have e3 : tkB q (k : Int) = q.getD k [] := if_pos h
    have hl := hq.len
    subst hl
    have FY := Lib.hid (find_yes A q.length c q k w hq hs h64 hk)
    rw [h, e2, e3]
    unfold FindOut at FY
    obtain ⟨m, hm⟩ : ∃ m, q.length = m + 1 := ⟨q.length - 1, by omega⟩
    have e4 : (q.eraseIdx k).length = m := by rw [List.length_eraseIdx, if_pos hk]; omega
    rw [hm] at FY h64 hk ⊢
    rw [e4]
    have LK := Lib.hid (show ∀ (g c1 : Nat) (Ai : Option Addr) (ni ci : Nat) (w1 : World), OwnTexts w1 w.heap.size (some ⟨g, 0, none⟩) (m + 1) c1 q → w1.cell? ⟨g, k, none⟩ = some (.slice Ai ni ci) → ni = (q.getD k []).length ∧ w1.ownsRow w.heap.size 5 1 (.slice Ai ni ci) ni (ints .u8 (q.getD k [])) ∧ ∀ w2, w1.grownBy w2 (some g) → w2.ownsRow w.heap.size 5 1 (.slice Ai ni ci) ni (ints .u8 (q.getD k [])) from fun g c1 Ai ni ci w1 ho hc => by
      obtain ⟨vs, hv, _, _, hin⟩ := ho
      obtain ⟨Aj, nj, cj, e, hj⟩ := hin k hk
      have k1 := (hv.cellAt k (by omega)).symm.trans hc
      have e3 := e.symm.trans k1
      injection e3 with e3
      injection e3 with e4 e5 e6
      subst e4; subst e5; subst e6
      exact ⟨(Arg.own hj).len.symm, hj, fun w2 hg => hj.kept hg (by
        have := owns_other (by decide) hj hv
        simpa [Value.ownBlock] using this)⟩)
    have WO := Lib.hid (fun (g c1 : Nat) (w1 : World) (ho : OwnTexts w1 w.heap.size (some ⟨g, 0, none⟩) (m + 1) c1 q) => without_any w.heap.size g m c1 k q w1 ho (by omega) hk)
    unfold WithoutOut at WO
    obtain ⟨t, ht⟩ : ∃ t, t = q.getD k [] := ⟨_, rfl⟩
    obtain ⟨Q, hQ⟩ : ∃ Q, Q = q.eraseIdx k := ⟨_, rfl⟩
    rw [← ht] at LK ⊢
    rw [← hQ] at WO ⊢
    clear h e2 e3 hq hs ht hQ h64 hk hm e4
    go_enter Try.func8, Try.ntmps8
    go_wp2_with fail
    refine FY.out.mono ?_
    rintro e w1 ⟨g, c1, Ai, ni, ci, rfl, hown, hc, hb1⟩
    have hb2 : Below w1.heap.size w1 (w1.alloc (.cells #[.slice (some ⟨g, 0, none⟩) (m + 1) c1] 47)) := (Below.refl _ _).alloc (Nat.le_refl _) _
    have B := Lib.hid (hb1.trans (hb2.mono hb1.size))
    obtain ⟨g9, e9, hg1, hg2⟩ := hown.block (by omega)
    injection e9 with e9; injection e9 with e9
    rw [← e9] at hg1 hg2
    have hc2 := (hb2.cell (p := ⟨g, k, none⟩) hg2).trans hc
    obtain ⟨hni, _, hkp⟩ := LK.out g c1 Ai ni ci _ (hown.below hb2) hc2
    have KP := Lib.hid hkp
    have NI := Lib.hid hni
    have WO := Lib.hid (WO.out g c1 _ (hown.below hb2))
    have y0 := (Blk.new w1 47 [.slice (some ⟨g, 0, none⟩) (m + 1) c1]).cell 0
    simp only [List.getElem?_cons_zero] at y0
    clear hown hb1 hc FY LK hb2 e9 hg2 hc2 hkp hni
    go_wp2_with fail
    refine WO.out.mono ?_
    rintro e w3 ⟨rfl, hown, hg3⟩
    have O := Lib.hid hown
    have OT := Lib.hid (KP.out _ hg3)
    have B := Lib.hid (B.out.grown hg3 B.out.size (fun g' e => by injection e with e; omega))
    clear hown hg3 KP WO y0
    go_wp2
    go_ret3
    rw [← NI.out]
    exact ⟨_, c1, Ai, ci, rfl, O.out, OT.out, B.out⟩
  · have e2 : tkL q i = [] := if_neg h
    have e3 : tkB q i = [] := if_neg h
    have FN := Lib.hid (find_no A n c q i w hq hs h)
    have hne : ((ntE2 q i) != 0) = true := bne_iff_ne.2 h
    rw [e2, e3]
    obtain ⟨E, hE⟩ : ∃ E, E = ntE2 q i := ⟨_, rfl⟩
    rw [← hE] at FN hne h ⊢
    clear e2 e3 hq hs hE
    go_enter Try.func8, Try.ntmps8
    go_wp2_with fail
    refine FN.out.mono ?_
    rintro e w1 ⟨rfl, hb1⟩
    have hb2 : Below w1.heap.size w1 (w1.alloc (.cells #[.slice none 0 0] 47)) := (Below.refl _ _).alloc (Nat.le_refl _) _
    have B := Lib.hid (hb1.trans (hb2.mono hb1.size))
    clear hb1 hb2 FN
    go_wp2
    go_ret3
    exact ⟨none, 0, none, 0, rfl, OwnTexts.nil _ _, World.ownsRow_nil _ _ _ _, B.out⟩

theorem net_does : NetDoes where
  check A n c q w hq hs := (pcheck16_any A n c q w hq.len).mono (by rintro e w' ⟨rfl, rfl⟩; exact ⟨rfl, Below.refl _ _⟩)
  send := psend16_any
  take := ptake16_any
  twice := ptwice16_any
  same A n c a A' n' c' b w ha hb _ _ := psame16_any A n c a A' n' c' b w ha hb
  twin A n c q w hq hs := (pTwin16_any A n c q w hq hs).mono (by
    rintro e w' ⟨A', c', rfl, h1, h2⟩
    have hl := hq.len
    subst hl
    exact ⟨A', c', rfl, h1, h2⟩)
end Go.Proofs.Ytibegaoegpanpaa
