/- Layer 4: the document's own: how large a queue is, copies, whether two are the same. -/
import Derived.Test.YtbbnfbclbhkneaaQueue
import Derived.Test.YtbbnfbclbhkneaaRingMath
import Derived.Lib.Bytes
import Derived.WalkMore
import Derived.ScopeJumps
import Derived.StillTailTactics
namespace Go.Proofs.Ytbbnfbclbhkneaa
open Go.RowKit
set_option linter.unusedVariables false

/-- A queue's box: its three cells. -/
theorem box_queue (w : World) (A : Option Addr) (n c : Nat) (h m : Int) :
    (w.alloc (.cells #[.slice A n c, .int .i64 h, .int .i64 m] 24)).cell? ⟨w.heap.size, 0, none⟩ = some (.slice A n c) ∧
    (w.alloc (.cells #[.slice A n c, .int .i64 h, .int .i64 m] 24)).cell? ⟨w.heap.size, 1, none⟩ = some (.int .i64 h) ∧
    (w.alloc (.cells #[.slice A n c, .int .i64 h, .int .i64 m] 24)).cell? ⟨w.heap.size, 2, none⟩ = some (.int .i64 m) :=
  ⟨(Blk.new w 24 [.slice A n c, .int .i64 h, .int .i64 m]).cell 0, (Blk.new w 24 [.slice A n c, .int .i64 h, .int .i64 m]).cell 1, (Blk.new w 24 [.slice A n c, .int .i64 h, .int .i64 m]).cell 2⟩

set_option maxHeartbeats 800000 in
theorem great_any (A : Option Addr) (n c : Nat) (h m : Int) (q : List Text) (w : World) (hq : Texts w A n c q) :
    Calls Try.prog 11 #[queueV A n c h m] w fun e w' => e = .returned (.bool (greatB q)) ∧ Below w.heap.size w w' := by
  have hbel : Below w.heap.size w (w.alloc (.cells #[.slice A n c, .int .i64 h, .int .i64 m] 24)) := (Below.refl _ _).alloc (Nat.le_refl _) _
  have HQ := hq.below hbel
  obtain ⟨c0, c1, c2⟩ := box_queue w A n c h m
  have hl := hq.len
  have hcm := Nat.le_trans hq.cap hq.max
  unfold maxLen at hcm
  have HIT := Lib.hid fun k (hk : k < n) => greatB_hit (q := q) (k := k) (by omega)
  have hend := greatB_end (q := q)
  rw [hl] at hend
  have END := Lib.hid hend
  obtain ⟨G, hG⟩ : ∃ G, G = greatB q := ⟨_, rfl⟩
  rw [← hG] at HIT END ⊢
  obtain ⟨w1, hw1⟩ : ∃ w1, w1 = w.alloc (.cells #[.slice A n c, .int .i64 h, .int .i64 m] 24) := ⟨_, rfl⟩
  rw [← hw1] at hbel HQ c0 c1 c2
  have HQ := Lib.hid HQ
  have BEL := Lib.hid hbel
  clear hq hbel hend hG hl c1 c2
  go_enter Try.func11, Try.ntmps11
  go_wp2
  rw [← hw1]
  clear hw1
  go_loop [3] (fun i => ∃ k : Nat, k ≤ n ∧ k ≤ 100 ∧ i = .int .i64 k ∧ ∀ y, y < k → (q.getD y []).length ≤ 200) (fun i => n - (intOf i).toNat)
  case atStart => exact ⟨0, Nat.zero_le _, Nat.zero_le _, rfl, fun y hy => by omega⟩
  case round =>
    obtain ⟨k, hk, hk1, rfl, hall⟩ := hrel
    have ALL := Lib.hid hall
    clear hall
    by_cases hkn : k < n
    · by_cases hk100 : k < 100
      · obtain ⟨b, o, Ai, ni, ci, rfl, hlt, hc, ha⟩ := HQ.out.at_ k hkn
        have hni := ha.len
        obtain ⟨L, hL⟩ : ∃ L, L = (q.getD k []).length := ⟨_, rfl⟩
        have HL := Lib.hid hL
        rw [← hL] at hni
        subst hni
        have hLm := Nat.le_trans ha.cap ha.max
        unfold maxLen at hLm
        clear hL ha
        by_cases h200 : 200 < L
        · have HG := Lib.hid (HIT.out k hkn hk100 (by rw [← HL.out]; exact h200))
          go_wp2
          go_ret
          rw [HG.out]
          exact ⟨rfl, BEL.out⟩
        · go_wp2
          go_round
          case rel =>
            refine ⟨k + 1, by omega, by omega, by go_num, fun y hy => ?_⟩
            rcases Nat.lt_or_ge y k with h | h
            · exact ALL.out y h
            · obtain rfl : y = k := by omega
              rw [← HL.out]; omega
          case measure => simp [intOf]; omega
      · obtain rfl : k = 100 := by omega
        have HE := Lib.hid (END.out fun y h1 h2 => ALL.out y h2)
        go_wp2
        go_ret
        rw [HE.out]
        exact ⟨by simp; omega, BEL.out⟩
    · obtain rfl : k = n := by omega
      have HE := Lib.hid (END.out fun y h1 h2 => ALL.out y h1)
      go_wp2
      go_ret
      rw [HE.out]
      exact ⟨by simp; omega, BEL.out⟩

set_option maxRecDepth 100000 in
set_option maxHeartbeats 1600000 in
theorem twinAll_any (A : Option Addr) (n c : Nat) (q : List Text) (w : World) (hq : Texts w A n c q) (hs : Small q) :
    Calls Try.prog 29 #[.slice A n c] w fun e w' => ∃ A' c', e = .returned (.slice A' n c') ∧ OwnTexts w' w.heap.size A' n c' q ∧ Below w.heap.size w w' := by
  obtain ⟨i0, hi0, hz0, hz1, hz2⟩ := info_parts byte_info
  obtain ⟨i1, hi1, hy0, hy1, hy2⟩ := info_parts texts_info
  have hml : (1000 : Nat) ≤ maxLen := by decide
  have hn := hs.many
  rw [hq.len] at hn
  have HQ := Lib.hid hq
  have HS := Lib.hid hs
  have TF := Lib.hid (show q.take n = q by rw [← hq.len, List.take_length])
  have TS := Lib.hid (fun k (hk : k < n) => show q.take (k + 1) = q.take k ++ [q.getD k []] by
    rw [List.take_succ_eq_append_getElem (by rw [hq.len]; exact hk)]
    simp [List.getD_eq_getElem?_getD, show k < q.length by rw [hq.len]; exact hk])
  clear hq hs
  go_enter Try.func29, Try.ntmps29
  go_wp2
  go_loopw [3, 4] (fun v i wr => ∃ k : Nat, k ≤ n ∧ i = .int .i64 k ∧ (∃ A' c', v = .slice A' k c' ∧ OwnTexts wr w.heap.size A' k c' (q.take k)) ∧ Below w.heap.size w wr) (fun _ i _ => n - (intOf i).toNat)
  case atStart => exact ⟨0, Nat.zero_le _, rfl, ⟨none, 0, rfl, OwnTexts.nil _ _⟩, Below.refl _ _⟩
  case round =>
    obtain ⟨k, hk, rfl, ⟨A1, c1, rfl, hown⟩, hbel⟩ := hrel
    by_cases hkn : k < n
    · obtain ⟨b, o, Ai, ni, ci, rfl, hlt, hc, ha⟩ := (HQ.out.below hbel).at_ k hkn
      have hby := HQ.out.byte_at k
      have hsm := HS.out.at_ k
      have hst := TS.out k hkn
      obtain ⟨t, ht⟩ : ∃ t, t = q.getD k [] := ⟨_, rfl⟩
      rw [← ht] at ha hby hsm hst
      obtain ⟨Q, hQ⟩ : ∃ Q, Q = q.take k := ⟨_, rfl⟩
      rw [← hQ] at hown hst
      have hni : ni ≤ 200 := by rw [← ha.len]; exact hsm
      have hc2 : (wr.alloc (.cells #[] 5)).cell? ⟨b, o + k, none⟩ = some (.slice Ai ni ci) := (World.cell?_alloc_lt wr _ _ hlt).trans hc
      have HST := Lib.hid hst
      have HA := Lib.hid ha
      have HBY := Lib.hid hby
      have O := Lib.hid hown
      have B := Lib.hid hbel
      clear ht hQ hown hbel ha hby hst
      go_wp2_with (first
        | (at_builtin; (refine wpList_dup_g wr rfl (.tmp 12) (.tmp 16) _ rfl 5 i0 _ 1 Try.underlying28 hi0 hz0 hz1 hz2 rfl rfl Ai ni ci (ints .u8 t) rfl (by rw [ints_length, HA.out.len]) HA.out.seq (ints_one _ _) (by omega) (by omega) ?_); intro A2 c2 w2 hown2 hbel2; have O2 := Lib.hid hown2; have B2 := Lib.hid hbel2; clear hown2 hbel2)
        | (at_builtin; go_must (refine wpList_text w w2 rfl (.tmp 11) (.tmp 18) _ rfl i1 _ Try.underlying22 hi1 hy0 hy1 hy2 rfl w.heap.size A1 k c1 Q rfl (O.out.below B2.out) A2 ni c2 t HBY.out (owns_base O2.out B.out.size) rfl (by omega) (by omega) (B.out.trans (B2.out.mono B.out.size)) (Nat.le_refl _) ?_); intro A3 c3 w3 hown3 hbel3; have O3 := Lib.hid hown3; have B3 := Lib.hid hbel3; clear hown3 hbel3))
      go_roundw
      case rel => exact ⟨k + 1, by omega, by go_num, ⟨A3, c3, rfl, by rw [HST.out]; exact O3.out⟩, B3.out⟩
      case measure => simp [intOf]; omega
    · obtain rfl : k = n := by omega
      rw [TF.out] at hown
      have O := Lib.hid hown
      have B := Lib.hid hbel
      clear hown hbel
      go_wp2
      go_ret
      exact ⟨A1, c1, rfl, O.out, B.out⟩

set_option maxRecDepth 100000 in
set_option maxHeartbeats 1600000 in
theorem twin_any (A : Option Addr) (n c : Nat) (h m : Int) (q : List Text) (w : World) (hq : Texts w A n c q) (hs : Small q) :
    Calls Try.prog 12 #[queueV A n c h m] w fun e w' => ∃ A' c', e = .returned (queueV A' n c' h m) ∧ OwnTexts w' w.heap.size A' n c' q ∧ Below w.heap.size w w' := by
  have hb1 : Below w.heap.size w ((w.alloc (.cells #[.slice A n c, .int .i64 h, .int .i64 m] 24)).alloc (.cells #[.slice none 0 0, .int .i64 0, .int .i64 0] 24)) := ((Below.refl _ _).alloc (Nat.le_refl _) _).alloc (by simp) _
  have T := twinAll_any A n c q _ (hq.below hb1) hs
  have hz : ((w.alloc (.cells #[.slice A n c, .int .i64 h, .int .i64 m] 24)).alloc (.cells #[.slice none 0 0, .int .i64 0, .int .i64 0] 24)).heap.size = w.heap.size + 2 := by simp
  rw [hz] at T
  have x1 : Blk ((w.alloc (.cells #[.slice A n c, .int .i64 h, .int .i64 m] 24)).alloc (.cells #[.slice none 0 0, .int .i64 0, .int .i64 0] 24)) w.heap.size 24 [.slice A n c, .int .i64 h, .int .i64 m] :=
    (Blk.new w 24 [.slice A n c, .int .i64 h, .int .i64 m]).grown (World.grownBy_alloc _ _ none) (by simp)
  have x2 : Blk ((w.alloc (.cells #[.slice A n c, .int .i64 h, .int .i64 m] 24)).alloc (.cells #[.slice none 0 0, .int .i64 0, .int .i64 0] 24)) (w.heap.size + 1) 24 [.slice none 0 0, .int .i64 0, .int .i64 0] := by
    have := Blk.new (w.alloc (.cells #[.slice A n c, .int .i64 h, .int .i64 m] 24)) 24 [.slice none 0 0, .int .i64 0, .int .i64 0]
    rwa [World.size_alloc] at this
  have X1 := Lib.hid x1
  have X2 := Lib.hid x2
  have B1 := Lib.hid hb1
  have T := Lib.hid T
  clear hq hs hb1 hz x1 x2
  go_enter Try.func12, Try.ntmps12
  go_wp2_with fail
  refine T.out.mono ?_
  rintro e w2 ⟨A2, c2, rfl, hown, hbel⟩
  have x1 := X1.out.below hbel (by omega)
  have x2 := X2.out.below hbel (by omega)
  have d0 := x1.cell 0
  have d1 := x1.cell 1
  have d2 := x1.cell 2
  have e0 := x2.cell 0
  have e1 := x2.cell 1
  have e2 := x2.cell 2
  have f0 := x1.free 0
  have g0 := x2.free 0
  have g1 := x2.free 1
  have g2 := x2.free 2
  simp only [List.getElem?_cons_zero, List.getElem?_cons_succ] at d0 d1 d2 e0 e1 e2
  have O := Lib.hid hown
  have BEL := Lib.hid (B1.out.trans (hbel.mono (by omega)))
  have XX := Lib.hid x2
  clear hown hbel x1 x2
  go_wp2
  have y := (((XX.out.away (g' := w.heap.size) (by omega) 0 (.slice A2 n c2)).set 0 (.slice A2 n c2)).set 1 (.int .i64 h)).set 2 (.int .i64 m)
  have z0 := y.cell 0
  have z1 := y.cell 1
  have z2 := y.cell 2
  simp only [List.set_cons_zero, List.set_cons_succ, List.getElem?_cons_zero, List.getElem?_cons_succ] at z0 z1 z2
  have O2 := (((O.out.away (g := w.heap.size) (by omega) 0 (.slice A2 n c2)).away (g := w.heap.size + 1) (by omega) 0 (.slice A2 n c2)).away (g := w.heap.size + 1) (by omega) 1 (.int .i64 h)).away (g := w.heap.size + 1) (by omega) 2 (.int .i64 m)
  have B2 := (((BEL.out.setCell (p := ⟨w.heap.size, 0, none⟩) (Nat.le_refl _) (.slice A2 n c2)).setCell (p := ⟨w.heap.size + 1, 0, none⟩) (Nat.le_succ _) (.slice A2 n c2)).setCell (p := ⟨w.heap.size + 1, 1, none⟩) (Nat.le_succ _) (.int .i64 h)).setCell (p := ⟨w.heap.size + 1, 2, none⟩) (Nat.le_succ _) (.int .i64 m)
  refine bodyPost_ret (v := queueV A2 n c2 h m) ?_ rfl ⟨A2, c2, rfl, O2.lower (by omega), B2⟩
  clear d0 d1 d2 e0 e1 e2 f0 g0 g1 g2
  simp [results, Try.f12, go_sem, z0, z1, z2]

end Go.Proofs.Ytbbnfbclbhkneaa
