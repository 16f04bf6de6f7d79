/- Layer 16, the document's: Without, Take, Twice. No statement is proved here. -/
import Derived.Test.YtibegaoegpanpaaNtR
import Derived.Deep.Cut
import Derived.Deep.RegionHeld3
namespace Go.Proofs.Ytibegaoegpanpaa
open Go.RowKit
set_option linter.unusedVariables false
set_option maxRecDepth 100000

set_option maxHeartbeats 1600000 in
theorem rwithout16_any (A : Option Addr) (n c i : Nat) (q : List Text) (w : World) (hq : Texts w A n c q) (hs : Small q) :
    Calls Try.prog 26 #[.slice A n c, .int .i64 (i : Int)] w (OneTexts w (q.eraseIdx i)) := by
  obtain ⟨i0, hi0, hz0, hz1, hz2⟩ := info_parts byte_info
  obtain ⟨i1, hi1, hy0, hy1, hy2⟩ := info_parts texts_info
  have hml : (1000 : Nat) ≤ maxLen := by decide
  have hn := hs.many
  rw [hq.len] at hn
  have HQ := Lib.hid hq
  have HS := Lib.hid hs
  have TF := Lib.hid (show q.take n = q by rw [← hq.len, List.take_length])
  have TS := Lib.hid (fun k (hk : k < n) => erase_step (q := q) (i := i) (k := k) (by rw [hq.len]; exact hk))
  have TL := Lib.hid (fun k => show ((q.take k).eraseIdx i).length ≤ 100 from Nat.le_trans (List.length_eraseIdx_le _ _) (by rw [List.length_take]; have := hs.many; omega))
  unfold OneTexts
  clear hq hs
  go_enter Try.func26, Try.ntmps26
  go_wp2
  go_loopw [5, 6] (fun v i_ wr => ∃ (k m : Nat) (Q : List Text), k ≤ n ∧ i_ = .int .i64 k ∧ Q = (q.take k).eraseIdx i ∧ Q.length = m ∧ m ≤ 100 ∧ (∃ A' c', v = .slice A' m c' ∧ OwnTexts wr w.heap.size A' m c' Q) ∧ Below w.heap.size w wr) (fun _ i_ _ => n - (intOf i_).toNat)
  case atStart => exact ⟨0, 0, [], Nat.zero_le _, rfl, by simp, rfl, Nat.zero_le _, ⟨none, 0, rfl, OwnTexts.nil _ _⟩, Below.refl _ _⟩
  case round =>
    obtain ⟨k, m, Q, hk, rfl, hQ, hm, hm100, ⟨A1, c1, rfl, hown⟩, hbel⟩ := hrel
    by_cases hkn : k < n
    · have hst := TS.out k hkn
      have hlt1 := TL.out (k + 1)
      rw [← hQ] at hst
      have B := Lib.hid hbel
      have O := Lib.hid hown
      have HM := Lib.hid hm
      by_cases hki : k = i
      · rw [if_pos hki] at hst
        have HST := Lib.hid hst
        have hne : ((k : Int) != (i : Int)) = false := by rw [hki]; exact bne_self_eq_false _
        clear hst hQ hown hbel hm hlt1 hki
        go_wp2
        go_roundw
        case rel => exact ⟨k + 1, m, Q, by omega, by go_num, HST.out.symm, HM.out, hm100, ⟨A1, c1, rfl, O.out⟩, B.out⟩
        case measure => simp [intOf]; omega
      · rw [if_neg hki] at hst
        rw [hst] at hlt1
        have hlt2 : m + 1 ≤ 100 := by rw [List.length_append, hm] at hlt1; exact hlt1
        have hne : ((k : Int) != (i : Int)) = true := bne_iff_ne.2 (fun e => hki (by omega))
        obtain ⟨b, o, Ai, ni, ci, rfl, hlt, hc, ha⟩ := (HQ.out.below hbel).at_ k hkn
        have hby := HQ.out.byte_at k
        have hsm := HS.out.at_ k
        obtain ⟨t, ht⟩ : ∃ t, t = q.getD k [] := ⟨_, rfl⟩
        rw [← ht] at ha hby hsm hst
        have hni : ni ≤ 200 := by rw [← ha.len]; exact hsm
        have hc2 : (wr.alloc (.cells #[] 5)).cell? ⟨b, o + k, none⟩ = some (.slice Ai ni ci) := (World.cell?_alloc_lt wr _ _ hlt).trans hc
        have HST := Lib.hid hst
        have HA := Lib.hid ha
        have HBY := Lib.hid hby
        clear ht hQ hown hbel ha hby hst hm hlt1 hki
        go_wp2_with (first
          | (at_builtin; (refine wpList_dup_g wr rfl (.tmp 17) (.tmp 21) _ rfl 5 i0 _ 1 Try.underlying26 hi0 hz0 hz1 hz2 rfl rfl Ai ni ci (ints .u8 t) rfl (by rw [ints_length, HA.out.len]) HA.out.seq (ints_one _ _) (by omega) (by omega) ?_); intro A2 c2 w2 hown2 hbel2; have O2 := Lib.hid hown2; have B2 := Lib.hid hbel2; clear hown2 hbel2)
          | (at_builtin; go_must (refine wpList_text w w2 rfl (.tmp 16) (.tmp 23) _ rfl i1 _ Try.underlying22 hi1 hy0 hy1 hy2 rfl w.heap.size A1 m c1 Q rfl (O.out.below B2.out) A2 ni c2 t HBY.out (owns_base O2.out B.out.size) rfl (by omega) (by omega) (B.out.trans (B2.out.mono B.out.size)) (Nat.le_refl _) ?_); intro A3 c3 w3 hown3 hbel3; have O3 := Lib.hid hown3; have B3 := Lib.hid hbel3; clear hown3 hbel3))
        go_roundw
        case rel => exact ⟨k + 1, m + 1, Q ++ [t], by omega, by go_num, HST.out.symm, by rw [List.length_append, HM.out]; rfl, hlt2, ⟨A3, c3, rfl, O3.out⟩, B3.out⟩
        case measure => simp [intOf]; omega
    · obtain rfl : k = n := by omega
      rw [TF.out] at hQ
      subst hQ
      subst hm
      have O := Lib.hid hown
      have B := Lib.hid hbel
      clear hown hbel
      go_wp2
      go_ret
      exact ⟨A1, c1, rfl, O.out, B.out⟩

/-- A net and a text of the call's own, beside an error. -/
def TakeOut (w : World) (q : List Text) (b : Text) (E : Int) (e : Ending) (w' : World) : Prop :=
  ∃ A c A2 c2, e = .returned (.tuple #[.slice A q.length c, .slice A2 b.length c2, .int .i64 E]) ∧ OwnTexts w' w.heap.size A q.length c q ∧ w'.ownsRow w.heap.size 5 1 (.slice A2 b.length c2) b.length (ints .u8 b) ∧ Below w.heap.size w w'

theorem place_ways (n : Nat) (i : Int) : (i < 0) ∨ ((n : Int) ≤ i ∧ ¬ i < 0) ∨ ∃ k : Nat, i = k ∧ k < n := by
  by_cases h : i < 0
  · exact .inl h
  · by_cases h2 : (n : Int) ≤ i
    · exact .inr (.inl ⟨h2, h⟩)
    · exact .inr (.inr ⟨i.toNat, by omega, by omega⟩)

set_option maxHeartbeats 1600000 in
theorem rtwice16_any (A : Option Addr) (n c : Nat) (q : List Text) (i : Int) (w : World) (hq : Texts w A n c q) (hs : Small q) :
    Calls Try.prog 14 #[.slice A n c, .int .i64 i] w (TextsOut w (twL q i) (ntE2 q i)) := by
  have hl := hq.len
  have hcm := Nat.le_trans hq.cap hq.max
  unfold maxLen at hcm
  by_cases h : 64 < n
  · have e : ntE2 q i = 8 := if_pos (by omega)
    have e2 : twL q i = [] := if_neg (by rw [e]; decide)
    have hi : (64 : Int) < (n : Int) := by omega
    rw [e, e2]
    clear e e2 hl h hq hs
    go_enter Try.func14, Try.ntmps14
    go_wp2
    go_ret2
    exact ⟨none, 0, rfl, OwnTexts.nil _ _, Below.refl _ _⟩
  · have hi : ¬ (64 : Int) < (n : Int) := by omega
    rcases place_ways n i with h0 | ⟨h1, h0⟩ | ⟨k, rfl, hk⟩
    · have e : ntE2 q i = 2 := by unfold ntE2; rw [if_neg (by omega), if_pos (.inl h0)]
      have e2 : twL q i = [] := if_neg (by rw [e]; decide)
      rw [e, e2]
      clear e e2 hl h hq hs
      go_enter Try.func14, Try.ntmps14
      go_wp2
      go_ret2
      exact ⟨none, 0, rfl, OwnTexts.nil _ _, Below.refl _ _⟩
    · have e : ntE2 q i = 2 := by unfold ntE2; rw [if_neg (by omega), if_pos (.inr (by omega))]
      have e2 : twL q i = [] := if_neg (by rw [e]; decide)
      rw [e, e2]
      clear e e2 hl h hq hs
      go_enter Try.func14, Try.ntmps14
      go_wp2
      go_ret2
      exact ⟨none, 0, rfl, OwnTexts.nil _ _, Below.refl _ _⟩
    · have e : ntE2 q (k : Int) = 0 := ntE2_in (by omega) (by omega)
      have e2 : twL q (k : Int) = sentN q (q.getD k []) := if_pos e
      rw [e, e2]
      obtain ⟨b, o, Ai, ni, ci, rfl, hlt, hc, ha⟩ := hq.at_ k hk
      have hsm := hs.at_ k
      have SN := Lib.hid (rsent16_any (some ⟨b, o, none⟩) n c q Ai ni ci (q.getD k []) w hq hs ha (hq.byte_at k) (by rw [← ha.len]; exact hsm))
      have hki : (k : Int) < (n : Int) := by omega
      have hk1 : ¬ (k : Int) < 0 := by omega
      have hk2 : ¬ (n : Int) ≤ (k : Int) := by omega
      obtain ⟨Q, hQ⟩ : ∃ Q, Q = sentN q (q.getD k []) := ⟨_, rfl⟩
      rw [← hQ] at SN ⊢
      clear e e2 hl h hq hs ha hsm hQ
      go_enter Try.func14, Try.ntmps14
      go_wp2_with fail
      refine SN.out.mono ?_
      rintro e w1 ⟨A1, c1, rfl, hown, hb1⟩
      have O := Lib.hid hown
      have B := Lib.hid hb1
      clear hown hb1 SN
      go_wp2
      go_ret2
      exact ⟨A1, c1, rfl, O.out, B.out⟩

set_option maxHeartbeats 3200000 in
theorem rtake16_any (A : Option Addr) (n c : Nat) (q : List Text) (i : Int) (w : World) (hq : Texts w A n c q) (hs : Small q) :
    Calls Try.prog 13 #[.slice A n c, .int .i64 i] w (TakeOut w (tkL q i) (tkB q i) (ntE2 q i)) := by
  obtain ⟨ib, hib, hbz, hb1, hb2⟩ := info_parts byte_info
  have hml : (1000 : Nat) ≤ maxLen := by decide
  have hl := hq.len
  have hcm := Nat.le_trans hq.cap hq.max
  unfold maxLen at hcm
  by_cases h : 64 < n
  · have e : ntE2 q i = 8 := if_pos (by omega)
    have e2 : tkL q i = [] := if_neg (by rw [e]; decide)
    have e3 : tkB q i = [] := if_neg (by rw [e]; decide)
    have hi : (64 : Int) < (n : Int) := by omega
    rw [e, e2, e3]
    clear e e2 e3 hl h hq hs
    go_enter Try.func13, Try.ntmps13
    go_wp2
    go_ret3
    exact ⟨none, 0, none, 0, rfl, OwnTexts.nil _ _, World.ownsRow_nil _ _ _ _, Below.refl _ _⟩
  · have hi : ¬ (64 : Int) < (n : Int) := by omega
    rcases place_ways n i with h0 | ⟨h1, h0⟩ | ⟨k, rfl, hk⟩
    · have e : ntE2 q i = 2 := by unfold ntE2; rw [if_neg (by omega), if_pos (.inl h0)]
      have e2 : tkL q i = [] := if_neg (by rw [e]; decide)
      have e3 : tkB q i = [] := if_neg (by rw [e]; decide)
      rw [e, e2, e3]
      clear e e2 e3 hl h hq hs
      go_enter Try.func13, Try.ntmps13
      go_wp2
      go_ret3
      exact ⟨none, 0, none, 0, rfl, OwnTexts.nil _ _, World.ownsRow_nil _ _ _ _, Below.refl _ _⟩
    · have e : ntE2 q i = 2 := by unfold ntE2; rw [if_neg (by omega), if_pos (.inr (by omega))]
      have e2 : tkL q i = [] := if_neg (by rw [e]; decide)
      have e3 : tkB q i = [] := if_neg (by rw [e]; decide)
      rw [e, e2, e3]
      clear e e2 e3 hl h hq hs
      go_enter Try.func13, Try.ntmps13
      go_wp2
      go_ret3
      exact ⟨none, 0, none, 0, rfl, OwnTexts.nil _ _, World.ownsRow_nil _ _ _ _, Below.refl _ _⟩
    · have e : ntE2 q (k : Int) = 0 := ntE2_in (by omega) (by omega)
      have e2 : tkL q (k : Int) = q.eraseIdx k := if_pos e
      have e3 : tkB q (k : Int) = q.getD k [] := if_pos e
      rw [e, e2, e3]
      obtain ⟨b, o, Ai, ni, ci, rfl, hlt, hc, ha⟩ := hq.at_ k hk
      have hsm := hs.at_ k
      have hni : ni ≤ 200 := by rw [← ha.len]; exact hsm
      have WO := Lib.hid (fun (wx : World) (hx : Below w.heap.size w wx) => rwithout16_any (some ⟨b, o, none⟩) n c k q wx (hq.below hx) hs)
      have hki : (k : Int) < (n : Int) := by omega
      have hk1 : ¬ (k : Int) < 0 := by omega
      have hk2 : ¬ (n : Int) ≤ (k : Int) := by omega
      obtain ⟨Q, hQ⟩ : ∃ Q, Q = q.eraseIdx k := ⟨_, rfl⟩
      obtain ⟨t, ht⟩ : ∃ t, t = q.getD k [] := ⟨_, rfl⟩
      rw [← hQ] at WO ⊢
      rw [← ht] at ha ⊢
      unfold TakeOut
      rw [show t.length = ni from ha.len]
      have HA := Lib.hid ha
      unfold OneTexts at WO
      have LA := Lib.hid (show (ints .u8 t).length = ni by rw [ints_length]; exact ha.len)
      have keepX : ∀ wx, Below w.heap.size w wx → wx.cell? ⟨b, o + k, none⟩ = some (.slice Ai ni ci) := fun wx hx => (hx.cell (p := ⟨b, o + k, none⟩) hlt).trans hc
      have hcur : Below w.heap.size w w.drew := below_drewN (Below.refl _ _) 1
      have hkX := keepX _ hcur
      have hkc : w.cell? ⟨b, o + k, none⟩ = some (.slice Ai ni ci) := hc
      have hba : Below w.heap.size w (w.alloc (.cells #[] 5)).drew := below_drewN ((Below.refl _ _).alloc (Nat.le_refl _) _) 1
      have hka := keepX _ hba
      have HBA := Lib.hid hba
      have hM1 : ni ≤ maxLen := by omega
      have hM2 : ni * 1 ≤ 140737488355328 := by omega
      have OL : ∀ wx : World, (wx.alloc (.cells #[] 5)).ownsRow wx.heap.size 5 1 (.slice (some ⟨wx.heap.size, 0, none⟩) 0 0) 0 [] := fun wx => World.ownsRow_lit wx #[] 0 (Nat.le_refl _) (by decide) rfl
      have OL := Lib.hid OL
      have OL0 := Lib.hid (owns_below (OL.out w) (below_drewN (Below.refl _ _) 1 : Below _ _ (w.alloc (.cells #[] 5)).drew))
      clear e e2 e3 hl h hq hs ha hsm hQ ht hlt hc hba
      go_enter Try.func13, Try.ntmps13
      go_upto_region 5 with fail
      go_region_held3 (fun w' => w'.cell? ⟨b, o + k, none⟩ = some (.slice Ai ni ci))
        (first | (with_reducible exact hkX) | (with_reducible exact hka) | (with_reducible exact hkc) | go_keep)
        ((first
          | (go_at_call 26; (first | ((with_reducible refine (WO.out _ hcur).mono ?_); rintro e wS ⟨A1, c1, rfl, hown, hbS⟩; have hown := hown.lower hcur.size; have B0 := hcur.trans (hbS.mono hcur.size); have hkX := keepX _ B0; have al1 : Below wS.heap.size wS (wS.alloc (.cells #[] 5)) := (Below.refl _ _).alloc (Nat.le_refl _) _; have BFX := B0.trans (al1.mono B0.size); have hka := keepX _ BFX; have OLX := OL.out wS; have OTX := hown.below al1; have HBS := al1.size; have HBW := B0.size) | ((with_reducible refine (WO.out _ HBA.out).mono ?_); rintro e wS ⟨A1, c1, rfl, hown, hbS⟩; have OTX := hown.lower HBA.out.size; have BFX := HBA.out.trans (hbS.mono HBA.out.size); have hkX := keepX _ BFX; have OLX := owns_below OL0.out hbS; have HBS := BFX.size; have HBW := Nat.le_refl w.heap.size)))
          | (refine step_dup_at _ ?_ (.tmp 21) (.tmp 25) _ ?_ _ 5 ib _ 1 Try.underlying26 hib hbz hb1 hb2 rfl _ ?_ OLX _ Ai ni ci (ints .u8 t) ?_ LA.out (HA.out.below BFX).seq (ints_one _ _) hM1 hM2 HBS ?_; rfl; rfl; rfl; rfl; intro A2 c2 w2 hown2 hbel2; have BG := BFX.trans (hbel2.mono BFX.size); have OT := OTX.below hbel2; have hkX := keepX _ BG; have O2 := owns_base hown2 HBW)
          | fail))
      all_goals (
        have B := Lib.hid BG
        have O := Lib.hid OT
        have OO := Lib.hid O2
        clear keepX hkX hkc hcur BG OT O2
        go_wp2
        go_ret3
        exact ⟨A1, c1, A2, c2, rfl, O.out, OO.out, B.out⟩)
end Go.Proofs.Ytibegaoegpanpaa
