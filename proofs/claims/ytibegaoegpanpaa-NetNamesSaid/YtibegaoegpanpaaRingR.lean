/- Layer 4: the document's own: how large a queue is, copies, whether two are the same. -/
import Derived.Test.YtibegaoegpanpaaQueue
import Derived.Test.YtibegaoegpanpaaRingMath
import Derived.Lib.Bytes
import Derived.WalkMore
import Derived.ScopeJumps
import Derived.StillTailTactics
namespace Go.Proofs.Ytibegaoegpanpaa
open Go.RowKit
set_option linter.unusedVariables false

set_option maxRecDepth 100000 in
set_option maxHeartbeats 1600000 in
theorem twinAll_any (A : Option Addr) (n c : Nat) (q : List Text) (w : World) (hq : Texts w A n c q) (hs : Small q) :
    Calls Try.prog 11 #[.slice A n c] w fun e w' => ∃ A' c', e = .returned (.slice A' n c') ∧ OwnTexts w' w.heap.size A' n c' q ∧ Below w.heap.size w w' := by
  obtain ⟨i0, hi0, hz0, hz1, hz2⟩ := info_parts byte_info
  obtain ⟨i1, hi1, hy0, hy1, hy2⟩ := info_parts texts_info
  have hml : (1000 : Nat) ≤ maxLen := by decide
  have hn := hs.many
  rw [hq.len] at hn
  have HQ := Lib.hid hq
  have HS := Lib.hid hs
  have TF := Lib.hid (show q.take n = q by rw [← hq.len, List.take_length])
  have TS := Lib.hid (fun k (hk : k < n) => show q.take (k + 1) = q.take k ++ [q.getD k []] by
    rw [List.take_succ_eq_append_getElem (by rw [hq.len]; exact hk)]
    simp [List.getD_eq_getElem?_getD, show k < q.length by rw [hq.len]; exact hk])
  clear hq hs
  go_enter Try.func11, Try.ntmps11
  go_wp2
  go_loopw [3, 4] (fun v i wr => ∃ k : Nat, k ≤ n ∧ i = .int .i64 k ∧ (∃ A' c', v = .slice A' k c' ∧ OwnTexts wr w.heap.size A' k c' (q.take k)) ∧ Below w.heap.size w wr) (fun _ i _ => n - (intOf i).toNat)
  case atStart => exact ⟨0, Nat.zero_le _, rfl, ⟨none, 0, rfl, OwnTexts.nil _ _⟩, Below.refl _ _⟩
  case round =>
    obtain ⟨k, hk, rfl, ⟨A1, c1, rfl, hown⟩, hbel⟩ := hrel
    by_cases hkn : k < n
    · obtain ⟨b, o, Ai, ni, ci, rfl, hlt, hc, ha⟩ := (HQ.out.below hbel).at_ k hkn
      have hby := HQ.out.byte_at k
      have hsm := HS.out.at_ k
      have hst := TS.out k hkn
      obtain ⟨t, ht⟩ : ∃ t, t = q.getD k [] := ⟨_, rfl⟩
      rw [← ht] at ha hby hsm hst
      obtain ⟨Q, hQ⟩ : ∃ Q, Q = q.take k := ⟨_, rfl⟩
      rw [← hQ] at hown hst
      have hni : ni ≤ 200 := by rw [← ha.len]; exact hsm
      have hc2 : (wr.alloc (.cells #[] 5)).cell? ⟨b, o + k, none⟩ = some (.slice Ai ni ci) := (World.cell?_alloc_lt wr _ _ hlt).trans hc
      have HST := Lib.hid hst
      have HA := Lib.hid ha
      have HBY := Lib.hid hby
      have O := Lib.hid hown
      have B := Lib.hid hbel
      clear ht hQ hown hbel ha hby hst
      go_wp2_with (first
        | (at_builtin; (refine wpList_dup_g wr rfl (.tmp 12) (.tmp 16) _ rfl 5 i0 _ 1 Try.underlying26 hi0 hz0 hz1 hz2 rfl rfl Ai ni ci (ints .u8 t) rfl (by rw [ints_length, HA.out.len]) HA.out.seq (ints_one _ _) (by omega) (by omega) ?_); intro A2 c2 w2 hown2 hbel2; have O2 := Lib.hid hown2; have B2 := Lib.hid hbel2; clear hown2 hbel2)
        | (at_builtin; go_must (refine wpList_text w w2 rfl (.tmp 11) (.tmp 18) _ rfl i1 _ Try.underlying22 hi1 hy0 hy1 hy2 rfl w.heap.size A1 k c1 Q rfl (O.out.below B2.out) A2 ni c2 t HBY.out (owns_base O2.out B.out.size) rfl (by omega) (by omega) (B.out.trans (B2.out.mono B.out.size)) (Nat.le_refl _) ?_); intro A3 c3 w3 hown3 hbel3; have O3 := Lib.hid hown3; have B3 := Lib.hid hbel3; clear hown3 hbel3))
      go_roundw
      case rel => exact ⟨k + 1, by omega, by go_num, ⟨A3, c3, rfl, by rw [HST.out]; exact O3.out⟩, B3.out⟩
      case measure => simp [intOf]; omega
    · obtain rfl : k = n := by omega
      rw [TF.out] at hown
      have O := Lib.hid hown
      have B := Lib.hid hbel
      clear hown hbel
      go_wp2
      go_ret
      exact ⟨A1, c1, rfl, O.out, B.out⟩

end Go.Proofs.Ytibegaoegpanpaa
