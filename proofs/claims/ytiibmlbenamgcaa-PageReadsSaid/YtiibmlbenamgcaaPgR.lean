/- Layer 13, the document's: Sector, Text, Plan. -/
import Derived.Test.YtiibmlbenamgcaaPgP4
import Derived.Test.YtiibmlbenamgcaaBitsM3
import Derived.Test.YtiibmlbenamgcaaCellRj
import Derived.Test.YtiibmlbenamgcaaPlRef2
namespace Go.Proofs.Ytiibmlbenamgcaa
open Go.RowKit
set_option linter.unusedVariables false
set_option maxRecDepth 100000

set_option maxHeartbeats 3200000 in
theorem rsector_any (p n b : Int) (w : World) (hp : isByte p) (hn : isByte n) :
    Calls Try.prog 41 #[.int .i64 p, .int .i64 n, .int .u8 b] w (OneRow .u8 5 w (pgSec p n b)) := by
  have e1 := wrap_byte hp
  have e2 := wrap_byte hn
  have hb1 : Below w.heap.size w (w.alloc (.cells #[.int .u8 1, .int .u8 p, .int .u8 n, .int .u8 b] 5)) := (Below.refl _ _).alloc (Nat.le_refl _) _
  have hml : 4 ≤ maxLen := by decide
  have hO := (Blk.new w 5 (ints .u8 [1, p, n, b])).owns (base := w.heap.size) (Nat.le_refl _) rfl hml
  have hsz : w.heap.size ≤ (w.alloc (.cells #[.int .u8 1, .int .u8 p, .int .u8 n, .int .u8 b] 5)).heap.size := hb1.size
  have O := Lib.hid hO
  have B := Lib.hid hb1
  clear hp hn hb1 hO hml
  go_enter Try.func41, Try.ntmps41
  go_wp2_with (at_builtin; (refine wpList_noughts _ rfl (.tmp 12) (.const (.int .i64 28)) rfl w.heap.size _ 4 _ rfl O.out 28 rfl (by decide) (by decide) hsz ?_); intro v5 w5 hown5 hg5 hob5; obtain ⟨A5, c5, rfl⟩ := owns_slice hown5; have HL5 := Lib.hid (O.out.lt); have O5 := Lib.hid hown5; have B5 := Lib.hid (B.out.grown hg5 hsz (fun g e => (HL5.out g e).1)); clear hown5 hg5 hob5)
  go_ret
  exact ⟨A5, c5, rfl, O5.out, B5.out⟩

theorem sub_and {b f : Int} (hb : isByte b) (hf : isByte f) : subP b f ↔ bits .and .u8 b f = b := by
  obtain ⟨hb0, hb1⟩ := hb
  obtain ⟨hf0, hf1⟩ := hf
  rw [u8_and b f hb0 (by omega) hf0 (by omega)]
  unfold subP
  omega
/-- Full, of a config that may be. -/
theorem rfull_any {P T A M W Q : Int} (h : mayC P T A M W Q) (w : World) : Calls Try.prog 40 #[.int .i64 T] w (OneRow .u8 5 w (allB T)) := by
  have := rFull_any T.toNat w (by unfold mayC at h; omega) (by unfold mayC at h; omega)
  rw [all_made h]
  rwa [show ((T.toNat : Nat) : Int) = T by unfold mayC at h; omega] at this
theorem OneRow.len {k : IntKind} {t : TypeId} {w : World} {zs zs' : List Int} {e : Ending} {w' : World} (h : OneRow k t w zs e w') {n : Nat} (hz : zs = zs') (hn : zs'.length = n) :
    ∃ A c, e = .returned (.slice A n c) ∧ w'.ownsRow w.heap.size t 1 (.slice A n c) n (ints k zs') ∧ Below w.heap.size w w' := by
  subst hz; subst hn; exact h

set_option maxHeartbeats 3200000 in
theorem rtext13_yes (P T A M W Q p n b : Int) (w : World) (hb : isByte b) (h0 : pgeE P T A M W Q p n = 0) :
    Calls Try.prog 15 #[cfgV P T A M W Q, .int .i64 p, .int .i64 n, .int .u8 b] w (RowOut .u8 5 w (if subP b (fulP T n.toNat) then pgSec p n b else []) (if subP b (fulP T n.toNat) then 0 else 2)) := by
  obtain ⟨x, hbel⟩ := box_cfg w P T A M W Q
  obtain ⟨w1, hw1⟩ : ∃ x : World, x = w.alloc (.cells #[.int .i64 P, .int .i64 T, .int .i64 A, .int .i64 M, .int .i64 W, .int .i64 Q] 27) := ⟨_, rfl⟩
  rw [← hw1] at x hbel
  have B := Lib.hid hbel
  have X := Lib.hid x
  obtain ⟨c0, c1, c2, c3, c4, c5⟩ := x.cfg
  have PA := Lib.hid (fun w' : World => rpage_any P T A M W Q p n w')
  rw [h0] at PA
  obtain ⟨N, hN⟩ : ∃ N, N = pgeN P T A M W Q p n := ⟨_, rfl⟩
  rw [← hN] at PA
  obtain ⟨hp, hn⟩ := pge_byte h0
  obtain ⟨hc, hp0, hp1, hn0, hn1⟩ := pge_zero h0
  have FU := Lib.hid (fun w' : World => rfull_any hc w')
  obtain ⟨k, rfl⟩ : ∃ k : Nat, n = k := ⟨n.toNat, by omega⟩
  have hl := (many_zero hc).2
  obtain ⟨m, hme⟩ : ∃ m : Nat, m = (pagC T).toNat := ⟨_, rfl⟩
  rw [← hme] at hl
  have hkm : (k : Int) < (m : Int) := by omega
  have hfu : fulP T (k : Int).toNat = (allB T).getD k 0 := by rw [Int.toNat_natCast]; rfl
  have hf : isByte (fulP T (k : Int).toNat) := ful_byte
  obtain ⟨f, hf0⟩ : ∃ f, f = fulP T (k : Int).toNat := ⟨_, rfl⟩
  rw [← hf0] at hfu hf ⊢
  obtain ⟨L, hL⟩ : ∃ L, L = allB T := ⟨_, rfl⟩
  rw [← hL] at FU hl hfu
  have HL := Lib.hid hl
  have HF := Lib.hid hfu
  have hwr : IntKind.i64.wrap (k : Int) = k := Lib.wrap_i64_small k (by have := pag_is hc; omega)
  have SE := Lib.hid (fun w' : World => rsector_any p k b w' hp hn)
  have hiff := sub_and hb hf
  have hkm2 := Lib.hid (show k < m by omega)
  by_cases hs : subP b f
  · have hq := hiff.1 hs
    rw [if_pos hs, if_pos hs]
    have hqq : (b != b) = false := bne_self_eq_false _
    obtain ⟨V, hV⟩ : ∃ V : Txt, V = pgSec p (k : Int) b := ⟨_, rfl⟩
    rw [← hV] at SE ⊢
    have HV := Lib.hid (show V.length = 32 by rw [hV]; exact pgSec_len _ _)
    clear x hbel h0 hb hp hn hc hp0 hp1 hn0 hn1 hme hN hl hfu hf hf0 hL hiff hs hV
    go_enter Try.func15, Try.ntmps15
    go_wp2_with fail
    rw [← hw1]
    clear hw1
    refine (PA.out _).mono ?_
    rintro e w2 ⟨rfl, hb⟩
    have B := Lib.hid (B.out.trans (hb.mono B.out.size))
    have X := Lib.hid (X.out.below hb X.out.lt)
    clear hb c0 c1 c2 c3 c4 c5 PA
    obtain ⟨c0, c1, c2, c3, c4, c5⟩ := X.out.cfg
    go_wp2_with fail
    refine (FU.out _).mono ?_
    intro e w3 hout
    obtain ⟨A3, r3, rfl, hown, hb⟩ := hout.len rfl HL.out
    obtain ⟨g, rfl, _, hc, _, _⟩ := owns_int_at hown hkm2.out
    rw [← HF.out] at hc
    have B := Lib.hid (B.out.trans (hb.mono B.out.size))
    clear hb hown hout c0 c1 c2 c3 c4 c5 FU
    go_wp2_with fail
    refine (SE.out _).mono ?_
    intro e w4 hout
    obtain ⟨A4, r4, rfl, hown, hb⟩ := hout.len rfl HV.out
    have O := Lib.hid (owns_base hown B.out.size)
    have B4 := Lib.hid (B.out.trans (hb.mono B.out.size))
    clear hb hown hout hc SE
    go_wp2
    go_ret2
    exact ⟨A4, r4, by rw [HV.out]; rfl, by rw [HV.out]; exact O.out, B4.out⟩
  · have hq : bits .and .u8 b f ≠ b := fun h => hs (hiff.2 h)
    obtain ⟨y, hy⟩ : ∃ y, y = bits .and .u8 b f := ⟨_, rfl⟩
    rw [← hy] at hq
    have hy2 : bits .and .u8 b f = y := hy.symm
    have hqq : (y != b) = true := bne_iff_ne.2 hq
    rw [if_neg hs, if_neg hs]
    clear x hbel h0 hb hp hn hc hp0 hp1 hn0 hn1 hme hN hl hfu hf hf0 hL hiff hs hy hq SE
    go_enter Try.func15, Try.ntmps15
    go_wp2_with fail
    rw [← hw1]
    clear hw1
    refine (PA.out _).mono ?_
    rintro e w2 ⟨rfl, hb⟩
    have B := Lib.hid (B.out.trans (hb.mono B.out.size))
    have X := Lib.hid (X.out.below hb X.out.lt)
    clear hb c0 c1 c2 c3 c4 c5 PA
    obtain ⟨c0, c1, c2, c3, c4, c5⟩ := X.out.cfg
    go_wp2_with fail
    refine (FU.out _).mono ?_
    intro e w3 hout
    obtain ⟨A3, r3, rfl, hown, hb⟩ := hout.len rfl HL.out
    obtain ⟨g, rfl, _, hc, _, _⟩ := owns_int_at hown hkm2.out
    rw [← HF.out] at hc
    have B := Lib.hid (B.out.trans (hb.mono B.out.size))
    clear hb hown hout c0 c1 c2 c3 c4 c5 FU
    go_wp2
    go_ret2
    exact ⟨none, 0, rfl, World.ownsRow_nil _ _ _ _, B.out⟩

set_option maxHeartbeats 3200000 in
theorem rtext13_no (P T A M W Q p n b : Int) (w : World) (h0 : pgeE P T A M W Q p n ≠ 0) :
    Calls Try.prog 15 #[cfgV P T A M W Q, .int .i64 p, .int .i64 n, .int .u8 b] w (RowOut .u8 5 w [] (pgeE P T A M W Q p n)) := by
  obtain ⟨x, hbel⟩ := box_cfg w P T A M W Q
  obtain ⟨w1, hw1⟩ : ∃ x : World, x = w.alloc (.cells #[.int .i64 P, .int .i64 T, .int .i64 A, .int .i64 M, .int .i64 W, .int .i64 Q] 27) := ⟨_, rfl⟩
  rw [← hw1] at x hbel
  have B := Lib.hid hbel
  obtain ⟨c0, c1, c2, c3, c4, c5⟩ := x.cfg
  have PA := Lib.hid (fun w' : World => rpage_any P T A M W Q p n w')
  obtain ⟨N, hN⟩ : ∃ N, N = pgeN P T A M W Q p n := ⟨_, rfl⟩
  obtain ⟨E, hE⟩ : ∃ E, E = pgeE P T A M W Q p n := ⟨_, rfl⟩
  rw [← hN, ← hE] at PA
  rw [← hE] at h0 ⊢
  have hq : (E != 0) = true := bne_iff_ne.2 h0
  clear x hbel h0 hN hE
  go_enter Try.func15, Try.ntmps15
  go_wp2_with fail
  rw [← hw1]
  clear hw1
  refine (PA.out _).mono ?_
  rintro e w2 ⟨rfl, hb⟩
  have B := Lib.hid (B.out.trans (hb.mono B.out.size))
  clear hb c0 c1 c2 c3 c4 c5 PA
  go_wp2
  go_ret2
  exact ⟨none, 0, rfl, World.ownsRow_nil _ _ _ _, B.out⟩

theorem rtext13_any (P T A M W Q p n b : Int) (w : World) (hb : isByte b) :
    Calls Try.prog 15 #[cfgV P T A M W Q, .int .i64 p, .int .i64 n, .int .u8 b] w (RowOut .u8 5 w (pxT P T A M W Q p n b) (pxE P T A M W Q p n b)) := by
  unfold pxT pxE
  by_cases h0 : pgeE P T A M W Q p n = 0
  · rw [if_pos h0]
    have := rtext13_yes P T A M W Q p n b w hb h0
    by_cases hs : subP b (fulP T n.toNat)
    · rw [if_pos hs, if_pos hs] at this
      rw [if_pos hs, if_pos rfl]
      exact this
    · rw [if_neg hs, if_neg hs] at this
      rw [if_neg hs, if_neg (by decide)]
      exact this
  · rw [if_neg h0, if_neg h0]
    exact rtext13_no P T A M W Q p n b w h0

/-- Where a text is told, its page is there. -/
theorem px_zero {P T A M W Q p n b : Int} (h : pxE P T A M W Q p n b = 0) : pgeE P T A M W Q p n = 0 ∧ subP b (fulP T n.toNat) := by
  unfold pxE at h
  split at h
  · split at h
    · exact ⟨by assumption, by assumption⟩
    · cases h
  · rename_i h2; exact absurd h h2

set_option maxHeartbeats 3200000 in
theorem rplan13_any (P T A M W Q p n b : Int) (w : World) (hb : isByte b) :
    Calls Try.prog 16 #[cfgV P T A M W Q, .int .i64 p, .int .i64 n, .int .u8 b] w (PgnOut w (pxN P T A M W Q p n b) (pxT P T A M W Q p n b) (pxE P T A M W Q p n b)) := by
  obtain ⟨x, hbel⟩ := KBox.new w P T A M W Q
  obtain ⟨w1, hw1⟩ : ∃ x : World, x = (w.alloc (.cells #[.int .i64 P, .int .i64 T, .int .i64 A, .int .i64 M, .int .i64 W, .int .i64 Q] 27)).alloc (.cells #[.int .i64 0, .slice none 0 0] 30) := ⟨_, rfl⟩
  rw [← hw1] at x hbel
  have X := Lib.hid x
  have B := Lib.hid hbel
  obtain ⟨c0, c1, c2, c3, c4, c5⟩ := x.cfg.cfg
  have d0 : w1.cell? ⟨w.heap.size + 1, 0, none⟩ = some (.int .i64 0) := x.res.cell 0
  have d1 : w1.cell? ⟨w.heap.size + 1, 1, none⟩ = some (.slice none 0 0) := x.res.cell 1
  have TX := Lib.hid (fun w' : World => rtext13_any P T A M W Q p n b w' hb)
  unfold pxN
  by_cases h0 : pxE P T A M W Q p n b = 0
  · obtain ⟨h1, h2⟩ := px_zero h0
    obtain ⟨hc, hp0, hp1, hn0, hn1⟩ := pge_zero h1
    have OF := Lib.hid (fun w' : World => rofpage_any P T A M W Q p n w' hc ⟨hp0, by omega, hn0, by omega⟩)
    rw [show fP A + p * pagC T + n = atP T A p n from rfl] at OF
    rw [if_pos h0]
    obtain ⟨a, ha⟩ : ∃ a, a = atP T A p n := ⟨_, rfl⟩
    rw [← ha] at OF ⊢
    rw [h0] at TX ⊢
    obtain ⟨L, hL⟩ : ∃ L, L = pxT P T A M W Q p n b := ⟨_, rfl⟩
    rw [← hL] at TX ⊢
    obtain ⟨m, hm⟩ : ∃ m, m = L.length := ⟨_, rfl⟩
    have HM := Lib.hid hm.symm
    clear x hbel h0 h1 h2 hc hp0 hp1 hn0 hn1 ha hb hL hm
    go_enter Try.func16, Try.ntmps16
    go_wp2_with fail
    rw [← hw1]
    clear hw1
    refine (TX.out _).mono ?_
    intro e w2 hout
    obtain ⟨A2, r2, rfl, hown, hb⟩ := hout.len rfl HM.out
    have O := Lib.hid (owns_base hown B.out.size)
    have B := Lib.hid (B.out.trans (hb.mono B.out.size))
    have X := Lib.hid (X.out.below hb)
    clear hb hown hout c0 c1 c2 c3 c4 c5 d0 d1 TX
    obtain ⟨c0, c1, c2, c3, c4, c5⟩ := X.out.cfg.cfg
    go_wp2_with fail
    refine (OF.out _).mono ?_
    rintro e w3 ⟨rfl, hb⟩
    have O := Lib.hid (owns_below O.out hb)
    have B := Lib.hid (B.out.trans (hb.mono B.out.size))
    have X := Lib.hid (X.out.below hb)
    clear hb c0 c1 c2 c3 c4 c5 OF
    have d0 : w3.cell? ⟨w.heap.size + 1, 0, none⟩ = some (.int .i64 0) := X.out.res.cell 0
    have d1 : w3.cell? ⟨w.heap.size + 1, 1, none⟩ = some (.slice none 0 0) := X.out.res.cell 1
    have f0 := X.out.res.free 0
    have f1 := X.out.res.free 1
    go_wp2
    have z := X.out.res.two (.int .i64 a) (.slice A2 m r2)
    obtain ⟨z0, z1⟩ : _ ∧ _ := ⟨z.cell 0, z.cell 1⟩
    simp only [List.getElem?_cons_zero, List.getElem?_cons_succ] at z0 z1
    refine bodyPost_ret (v := .tuple #[.agg #[.int .i64 a, .slice A2 m r2], .int .i64 0]) ?_ rfl ⟨A2, r2, by rw [HM.out], ?_, below_two B.out (by omega) _ _⟩
    · clear d0 d1 f0 f1
      simp [results, Try.f16, go_sem, z0, z1]
    · rw [HM.out]
      exact owns_other_box (owns_other_box O.out X.out.res (by decide) 0 _) (X.out.res.set 0 _) (by decide) 1 _
  · rw [if_neg h0]
    have hT : pxT P T A M W Q p n b = [] := if_neg h0
    rw [hT] at TX ⊢
    obtain ⟨E, hE⟩ : ∃ E, E = pxE P T A M W Q p n b := ⟨_, rfl⟩
    rw [← hE] at TX h0 ⊢
    have hq : (E != 0) = true := bne_iff_ne.2 h0
    clear x hbel h0 hE hT hb
    go_enter Try.func16, Try.ntmps16
    go_wp2_with fail
    rw [← hw1]
    clear hw1
    refine (TX.out _).mono ?_
    rintro e w2 ⟨A2, r2, rfl, _, hb⟩
    have B := Lib.hid (B.out.trans (hb.mono B.out.size))
    have X := Lib.hid (X.out.below hb)
    clear hb c0 c1 c2 c3 c4 c5 d0 d1 TX
    have d0 : w2.cell? ⟨w.heap.size + 1, 0, none⟩ = some (.int .i64 0) := X.out.res.cell 0
    have d1 : w2.cell? ⟨w.heap.size + 1, 1, none⟩ = some (.slice none 0 0) := X.out.res.cell 1
    have f0 := X.out.res.free 0
    have f1 := X.out.res.free 1
    go_wp2
    have z := X.out.res.two (.int .i64 0) (.slice none 0 0)
    obtain ⟨z0, z1⟩ : _ ∧ _ := ⟨z.cell 0, z.cell 1⟩
    simp only [List.getElem?_cons_zero, List.getElem?_cons_succ] at z0 z1
    refine bodyPost_ret (v := .tuple #[.agg #[.int .i64 0, .slice none 0 0], .int .i64 E]) ?_ rfl ⟨none, 0, rfl, World.ownsRow_nil _ _ _ _, below_two B.out (by omega) _ _⟩
    clear d0 d1 f0 f1
    simp [results, Try.f16, go_sem, z0, z1]

end Go.Proofs.Ytiibmlbenamgcaa
