/- Layer 16, the document's: Great, Check, Sent, Send, Without. No statement is proved here. -/
import Derived.Test.YtibegaoegpanpaaNtMath
import Derived.Test.YtibegaoegpanpaaRingR3
import Derived.Test.YtibegaoegpanpaaStepDup2
import Derived.Deep.RegionHeld3
namespace Go.Proofs.Ytibegaoegpanpaa
open Go.RowKit
set_option linter.unusedVariables false
set_option maxRecDepth 100000

/-- A net of the call's own. -/
def OneTexts (w : World) (q : List Text) (e : Ending) (w' : World) : Prop :=
  ∃ A c, e = .returned (.slice A q.length c) ∧ OwnTexts w' w.heap.size A q.length c q ∧ Below w.heap.size w w'

set_option maxHeartbeats 800000 in
theorem great16_any (A : Option Addr) (n c : Nat) (q : List Text) (w : World) (hq : Texts w A n c q) :
    Calls Try.prog 10 #[.slice A n c] w fun e w' => e = .returned (.bool (greatB q)) ∧ w' = w := by
  have hl := hq.len
  have hcm := Nat.le_trans hq.cap hq.max
  unfold maxLen at hcm
  have HIT := Lib.hid fun k (hk : k < n) => greatB_hit (q := q) (k := k) (by omega)
  have hend := greatB_end (q := q)
  rw [hl] at hend
  have END := Lib.hid hend
  obtain ⟨G, hG⟩ : ∃ G, G = greatB q := ⟨_, rfl⟩
  rw [← hG] at HIT END ⊢
  have HQ := Lib.hid hq
  clear hq hend hG hl
  go_enter Try.func10, Try.ntmps10
  go_wp2
  go_loop [3] (fun i => ∃ k : Nat, k ≤ n ∧ k ≤ 100 ∧ i = .int .i64 k ∧ ∀ y, y < k → (q.getD y []).length ≤ 200) (fun i => n - (intOf i).toNat)
  case atStart => exact ⟨0, Nat.zero_le _, Nat.zero_le _, rfl, fun y hy => by omega⟩
  case round =>
    obtain ⟨k, hk, hk1, rfl, hall⟩ := hrel
    have ALL := Lib.hid hall
    clear hall
    by_cases hkn : k < n
    · by_cases hk100 : k < 100
      · obtain ⟨b, o, Ai, ni, ci, rfl, hlt, hc, ha⟩ := HQ.out.at_ k hkn
        have hni := ha.len
        obtain ⟨L, hL⟩ : ∃ L, L = (q.getD k []).length := ⟨_, rfl⟩
        have HL := Lib.hid hL
        rw [← hL] at hni
        subst hni
        have hLm := Nat.le_trans ha.cap ha.max
        unfold maxLen at hLm
        clear hL ha
        by_cases h200 : 200 < L
        · have HG := Lib.hid (HIT.out k hkn hk100 (by rw [← HL.out]; exact h200))
          go_wp2
          go_ret
          rw [HG.out]
          exact ⟨rfl, rfl⟩
        · go_wp2
          go_round
          case rel =>
            refine ⟨k + 1, by omega, by omega, by go_num, fun y hy => ?_⟩
            rcases Nat.lt_or_ge y k with h | h
            · exact ALL.out y h
            · obtain rfl : y = k := by omega
              rw [← HL.out]; omega
          case measure => simp [intOf]; omega
      · obtain rfl : k = 100 := by omega
        have HE := Lib.hid (END.out fun y h1 h2 => ALL.out y h2)
        go_wp2
        go_ret
        rw [HE.out]
        exact ⟨by simp; omega, rfl⟩
    · obtain rfl : k = n := by omega
      have HE := Lib.hid (END.out fun y h1 h2 => ALL.out y h1)
      go_wp2
      go_ret
      rw [HE.out]
      exact ⟨by simp; omega, rfl⟩

theorem rcheck16_any (A : Option Addr) (n c : Nat) (q : List Text) (w : World) (hl : q.length = n) :
    Calls Try.prog 19 #[.slice A n c] w fun e w' => e = .returned (.int .i64 (ntE q)) ∧ w' = w := by
  by_cases h : 64 < n
  · have e : ntE q = 8 := if_pos (by omega)
    have hi : (64 : Int) < (n : Int) := by omega
    rw [e]
    clear e hl h
    go_enter Try.func19, Try.ntmps19
    go_wp2
    go_ret
    exact ⟨rfl, rfl⟩
  · have e : ntE q = 0 := if_neg (by omega)
    have hi : ¬ (64 : Int) < (n : Int) := by omega
    rw [e]
    clear e hl h
    go_enter Try.func19, Try.ntmps19
    go_wp2
    go_ret
    exact ⟨rfl, rfl⟩

set_option maxHeartbeats 1600000 in
theorem rsent16_any (A : Option Addr) (n c : Nat) (q : List Text) (A' : Option Addr) (n' c' : Nat) (b : Text) (w : World) (hq : Texts w A n c q) (hs : Small q) (hb : Arg w .u8 A' n' c' b) (hby : ∀ z ∈ b, isByte z) (hn' : n' ≤ 200) :
    Calls Try.prog 25 #[.slice A n c, .slice A' n' c'] w (OneTexts w (sentN q b)) := by
  obtain ⟨i0, hi0, hz0, hz1, hz2⟩ := info_parts byte_info
  obtain ⟨i1, hi1, hy0, hy1, hy2⟩ := info_parts texts_info
  have hml : (1000 : Nat) ≤ maxLen := by decide
  have hl := hq.len
  have hn := hs.many
  rw [hl] at hn
  have TA := Lib.hid (twinAll_any A n c q w hq hs)
  have HB := Lib.hid hb
  have HBY := Lib.hid hby
  unfold OneTexts
  by_cases h : n < 64
  · have hi : (n : Int) < 64 := by omega
    have HE := Lib.hid (show sentN q b = q ++ [b] from if_pos (by omega))
    have HL := Lib.hid (show (q ++ [b]).length = n + 1 by rw [List.length_append, hl]; rfl)
    rw [HE.out, HL.out]
    clear hq hs hb hby hl
    go_enter Try.func25, Try.ntmps25
    go_wp2_with fail
    refine TA.out.mono ?_
    rintro e w1 ⟨A1, c1, rfl, hown, hb1⟩
    have O := Lib.hid hown
    have B := Lib.hid hb1
    have HB1 := Lib.hid (HB.out.below hb1)
    clear hown hb1 TA HB
    go_wp2_with (first
      | (at_builtin; (refine wpList_dup_g w1 rfl (.tmp 12) (.tmp 13) _ rfl 5 i0 _ 1 Try.underlying26 hi0 hz0 hz1 hz2 rfl rfl A' n' c' (ints .u8 b) rfl (by rw [ints_length, HB1.out.len]) HB1.out.seq (ints_one _ _) (by omega) (by omega) ?_); intro A2 c2 w2 hown2 hbel2; have O2 := Lib.hid hown2; have B2 := Lib.hid hbel2; clear hown2 hbel2)
      | (at_builtin; go_must (refine wpList_text w w2 rfl (.tmp 11) (.tmp 15) _ rfl i1 _ Try.underlying22 hi1 hy0 hy1 hy2 rfl w.heap.size A1 n c1 q rfl (O.out.below B2.out) A2 n' c2 b HBY.out (owns_base O2.out B.out.size) rfl (by omega) (by omega) (B.out.trans (B2.out.mono B.out.size)) (Nat.le_refl _) ?_); intro A3 c3 w3 hown3 hbel3; have O3 := Lib.hid hown3; have B3 := Lib.hid hbel3; clear hown3 hbel3))
    go_ret
    exact ⟨A3, c3, rfl, O3.out, B3.out⟩
  · have hi : ¬ (n : Int) < 64 := by omega
    have HE := Lib.hid (show sentN q b = q from if_neg (by omega))
    rw [HE.out, hl]
    clear hq hs hb hby hl
    go_enter Try.func25, Try.ntmps25
    go_wp2_with fail
    refine TA.out.mono ?_
    rintro e w1 ⟨A1, c1, rfl, hown, hb1⟩
    have O := Lib.hid hown
    have B := Lib.hid hb1
    clear hown hb1 TA HB
    go_wp2
    go_ret
    exact ⟨A1, c1, rfl, O.out, B.out⟩

set_option maxHeartbeats 1600000 in
theorem rsend16_any (A : Option Addr) (n c : Nat) (q : List Text) (A' : Option Addr) (n' c' : Nat) (b : Text) (w : World) (hq : Texts w A n c q) (hs : Small q) (hb : Arg w .u8 A' n' c' b) (hby : ∀ z ∈ b, isByte z) (hn' : n' ≤ 200) :
    Calls Try.prog 12 #[.slice A n c, .slice A' n' c'] w (TextsOut w (sdL q b) (ntE q)) := by
  have hl := hq.len
  by_cases h : 64 < n
  · have e : ntE q = 8 := if_pos (by omega)
    have e2 : sdL q b = [] := if_pos (by omega)
    have hi : (64 : Int) < (n : Int) := by omega
    rw [e, e2]
    clear e e2 hl h hq hs hb hby
    go_enter Try.func12, Try.ntmps12
    go_wp2
    go_ret2
    exact ⟨none, 0, rfl, OwnTexts.nil _ _, Below.refl _ _⟩
  · have e : ntE q = 0 := if_neg (by omega)
    have e2 : sdL q b = sentN q b := if_neg (by omega)
    have hi : ¬ (64 : Int) < (n : Int) := by omega
    have SN := Lib.hid (rsent16_any A n c q A' n' c' b w hq hs hb hby hn')
    rw [e, e2]
    obtain ⟨Q, hQ⟩ : ∃ Q, Q = sentN q b := ⟨_, rfl⟩
    rw [← hQ] at SN ⊢
    clear e e2 hl h hq hs hb hby hQ
    go_enter Try.func12, Try.ntmps12
    go_wp2_with fail
    refine SN.out.mono ?_
    rintro e w1 ⟨A1, c1, rfl, hown, hb1⟩
    have O := Lib.hid hown
    have B := Lib.hid hb1
    clear hown hb1 SN
    go_wp2
    go_ret2
    exact ⟨A1, c1, rfl, O.out, B.out⟩
end Go.Proofs.Ytibegaoegpanpaa
