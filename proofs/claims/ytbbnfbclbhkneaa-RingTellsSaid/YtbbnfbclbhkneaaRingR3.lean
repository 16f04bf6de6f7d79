/- Layer 4: the document's own: a queue's list. -/
import Derived.Test.YtbbnfbclbhkneaaRingR2
import Derived.Test.YtbbnfbclbhkneaaSteps
import Derived.Lib.QuoteBits
namespace Go.Proofs.Ytbbnfbclbhkneaa
open Go.RowKit
set_option linter.unusedVariables false

/-- What a call hands back beside an error: texts of its own. -/
def TextsOut (w : World) (q : List Text) (E : Int) (e : Ending) (w' : World) : Prop :=
  ∃ A c, e = .returned (.tuple #[.slice A q.length c, .int .i64 E]) ∧ OwnTexts w' w.heap.size A q.length c q ∧ Below w.heap.size w w'

set_option maxRecDepth 100000 in
set_option maxHeartbeats 3200000 in
theorem rlist_any (A : Option Addr) (n c : Nat) (h m : Int) (q : List Text) (w : World) (hq : Texts w A n c q) (hs : Small q) :
    Calls Try.prog 17 #[queueV A n c h m] w (TextsOut w (listT q h m) (chkQ q h m)) := by
  obtain ⟨i0, hi0, hz0, hz1, hz2⟩ := info_parts byte_info
  obtain ⟨i1, hi1, hy0, hy1, hy2⟩ := info_parts texts_info
  have hml : (1000 : Nat) ≤ maxLen := by decide
  have hbel : Below w.heap.size w (w.alloc (.cells #[.slice A n c, .int .i64 h, .int .i64 m] 24)) := (Below.refl _ _).alloc (Nat.le_refl _) _
  have M := may_any A n c h m q _ (hq.below hbel)
  have HQ := Lib.hid (hq.below hbel)
  obtain ⟨c0, c1, c2⟩ := box_queue w A n c h m
  have hz1' : (w.alloc (.cells #[.slice A n c, .int .i64 h, .int .i64 m] 24)).heap.size = w.heap.size + 1 := World.size_alloc _ _
  unfold chkQ listT
  have HS := Lib.hid hs
  have BEL := Lib.hid hbel
  cases hR : mayB q h m with
  | false =>
    rw [hR] at M
    have M := Lib.hid M
    clear hbel hq hs hR hz1'
    go_enter Try.func17, Try.ntmps17
    go_wp2_with fail
    refine M.out.mono ?_
    rintro e w2 ⟨rfl, hb2⟩
    have B2 := Lib.hid (BEL.out.trans (hb2.mono BEL.out.size))
    clear hb2
    go_wp2
    go_ret2
    exact ⟨none, 0, rfl, OwnTexts.nil _ _, B2.out⟩
  | true =>
    rw [hR] at M
    have M := Lib.hid M
    obtain ⟨H, N, rfl, rfl, h1, h2, h3, h4, h5⟩ := mayB_nat hR
    simp only [if_true, Int.toNat_natCast]
    rw [hq.len] at h1 h2 h3 h4
    have IT := Lib.hid (show ∀ k, itm q H k = q.getD ((H + k) % n) [] from fun k => by unfold itm; rw [hq.len])
    have hn0 : ¬ (n : Int) = 0 := by omega
    have RS := Lib.hid (fun k => show (List.range (k + 1)).map (itm q H) = (List.range k).map (itm q H) ++ [itm q H k] by rw [List.range_succ, List.map_append]; rfl)
    clear hbel hq hs hR h5
    go_enter Try.func17, Try.ntmps17
    go_wp2_with fail
    refine M.out.mono ?_
    rintro e w1 ⟨rfl, hb2⟩
    have B1 := Lib.hid (BEL.out.trans (hb2.mono BEL.out.size))
    have HQ := Lib.hid (HQ.out.below hb2)
    have hzb := hb2.size
    rw [hz1'] at hzb
    have d0 := (hb2.cell (p := ⟨w.heap.size, 0, none⟩) (by rw [hz1']; exact Nat.lt_succ_self _)).trans c0
    have d1 := (hb2.cell (p := ⟨w.heap.size, 1, none⟩) (by rw [hz1']; exact Nat.lt_succ_self _)).trans c1
    have d2 := (hb2.cell (p := ⟨w.heap.size, 2, none⟩) (by rw [hz1']; exact Nat.lt_succ_self _)).trans c2
    have D0 := Lib.hid d0
    have D1 := Lib.hid d1
    have D2 := Lib.hid d2
    clear hb2 hz1' d0 d1 d2 c0 c1 c2 BEL
    go_wp2
    go_loopw [4, 5] (fun v i wr => ∃ k : Nat, k ≤ N ∧ i = .int .i64 k ∧ (∃ A' c', v = .slice A' k c' ∧ OwnTexts wr w1.heap.size A' k c' ((List.range k).map (itm q H))) ∧ Below w1.heap.size w1 wr) (fun _ i _ => N - (intOf i).toNat)
    case atStart => exact ⟨0, Nat.zero_le _, rfl, ⟨none, 0, rfl, OwnTexts.nil _ _⟩, Below.refl _ _⟩
    case round =>
      obtain ⟨k, hk, rfl, ⟨A1, c1, rfl, hown⟩, hbel⟩ := hrel
      have d0 := (hbel.cell (p := ⟨w.heap.size, 0, none⟩) hzb).trans D0.out
      have d1 := (hbel.cell (p := ⟨w.heap.size, 1, none⟩) hzb).trans D1.out
      have d2 := (hbel.cell (p := ⟨w.heap.size, 2, none⟩) hzb).trans D2.out
      by_cases hkn : k < N
      · have hpn : (H + k) % n < n := Nat.mod_lt _ (by omega)
        obtain ⟨b, o, Ai, ni, ci, rfl, hlt, hc0, ha0⟩ := HQ.out.at_ _ hpn
        have hc := (hbel.cell (p := ⟨b, o + (H + k) % n, none⟩) hlt).trans hc0
        have ha := ha0.below hbel
        have hby := HQ.out.byte_at ((H + k) % n)
        have hsm := HS.out.at_ ((H + k) % n)
        have hrs := RS.out k
        rw [IT.out k] at hrs
        obtain ⟨p, hp⟩ : ∃ p, p = (H + k) % n := ⟨_, rfl⟩
        have hpi : ((H : Int) + (k : Int)) % (n : Int) = (p : Int) := by rw [hp]; simp
        have hpi2 : ((H : Int) + (k : Int)).tmod (n : Int) = (p : Int) := by rw [Int.tmod_eq_emod_of_nonneg (by omega)]; exact hpi
        rw [← hp] at hc hc0 hpn hby hsm hrs ha
        have hp0 : (0 : Int) ≤ (p : Int) := by omega
        have hw1 : IntKind.i64.wrap ((H : Int) + (k : Int)) = (H : Int) + (k : Int) := Lib.wrap_i64_small (H + k) (by omega)
        have hw2 : IntKind.i64.wrap (p : Int) = (p : Int) := Lib.wrap_i64_small p (by omega)
        have hn1 : ¬ n = 0 := by omega
        have e0 := D0.out
        have e1 := D1.out
        have hpn2 : (p : Int) < (n : Int) := by omega
        obtain ⟨t, ht⟩ : ∃ t, t = q.getD p [] := ⟨_, rfl⟩
        rw [← ht] at ha hby hsm hrs
        obtain ⟨Q, hQ⟩ : ∃ Q, Q = (List.range k).map (itm q H) := ⟨_, rfl⟩
        rw [← hQ] at hown hrs
        have hni : ni ≤ 200 := by rw [← ha.len]; exact hsm
        have HRS := Lib.hid hrs
        have HA := Lib.hid (show Arg wr.drew .u8 Ai ni ci t from ha.below (below_drewN (Below.refl _ _) 1))
        have HBY := Lib.hid hby
        have O := Lib.hid (show OwnTexts wr.drew w1.heap.size A1 k c1 Q from hown.below (below_drewN (Below.refl _ _) 1))
        have B := Lib.hid (show Below w1.heap.size w1 wr.drew from below_drewN hbel 1)
        have keepX : ∀ wx, Below w1.heap.size w1 wx → wx.cell? ⟨w.heap.size, 0, none⟩ = some (.slice (some ⟨b, o, none⟩) n c) ∧ wx.cell? ⟨w.heap.size, 1, none⟩ = some (.int .i64 (H : Int)) ∧ wx.cell? ⟨b, o + p, none⟩ = some (.slice Ai ni ci) := fun wx hx => ⟨(hx.cell (p := ⟨w.heap.size, 0, none⟩) hzb).trans e0, (hx.cell (p := ⟨w.heap.size, 1, none⟩) hzb).trans e1, (hx.cell (p := ⟨b, o + p, none⟩) hlt).trans hc0⟩
        clear hp ht hQ hown hbel ha hby hrs ha0
        go_wp2_with fail
        go_region_held3 (fun w' => w'.cell? ⟨w.heap.size, 0, none⟩ = some (.slice (some ⟨b, o, none⟩) n c) ∧ w'.cell? ⟨w.heap.size, 1, none⟩ = some (.int .i64 (H : Int)) ∧ w'.cell? ⟨b, o + p, none⟩ = some (.slice Ai ni ci))
          (first | exact hkX | go_keep)
          ((first
            | (refine step_dup_g wr.drew (by rfl) (.tmp 16) (.tmp 28) _ (by rfl) 5 i0 _ 1 Try.underlying28 hi0 hz0 hz1 hz2 rfl (by rfl) Ai ni ci (ints .u8 t) (by rfl) (by rw [ints_length, HA.out.len]) HA.out.seq (ints_one _ _) (by omega) (by omega) ?_; intro A2 c2 w2 hown2 hbX; have hkX : w2.cell? ⟨w.heap.size, 0, none⟩ = some (.slice (some ⟨b, o, none⟩) n c) ∧ w2.cell? ⟨w.heap.size, 1, none⟩ = some (.int .i64 (H : Int)) ∧ w2.cell? ⟨b, o + p, none⟩ = some (.slice Ai ni ci) := keepX w2 (B.out.trans (hbX.mono B.out.size)))
            | (refine step_text w1 w2 (by rfl) (.tmp 15) (.tmp 30) _ (by rfl) i1 _ Try.underlying22 hi1 hy0 hy1 hy2 rfl w1.heap.size A1 k c1 Q (by rfl) (O.out.below hbX) A2 ni c2 t HBY.out (owns_base hown2 B.out.size) (by rfl) (by omega) (by omega) (B.out.trans (hbX.mono B.out.size)) (Nat.le_refl _) ?_; intro A3 c3 w3 hown3 hbY; have hkX : w3.cell? ⟨w.heap.size, 0, none⟩ = some (.slice (some ⟨b, o, none⟩) n c) ∧ w3.cell? ⟨w.heap.size, 1, none⟩ = some (.int .i64 (H : Int)) ∧ w3.cell? ⟨b, o + p, none⟩ = some (.slice Ai ni ci) := keepX w3 hbY)))
        have O3 := Lib.hid hown3
        have B3 := Lib.hid hbY
        clear hown3 hbY hown2 hbX
        go_wp2
        go_roundw
        case rel => exact ⟨k + 1, by omega, by go_num, ⟨A3, c3, rfl, by rw [HRS.out]; exact O3.out⟩, B3.out⟩
        case measure => simp [intOf]; omega
      · obtain rfl : k = N := by omega
        have O := Lib.hid hown
        have B := Lib.hid (B1.out.trans (hbel.mono B1.out.size))
        have hl : ((List.range k).map (itm q H)).length = k := by simp
        have HL := Lib.hid hl
        clear hown hbel hl
        go_wp2
        go_ret2
        refine ⟨A1, c1, by rw [HL.out]; rfl, ?_, B.out⟩
        rw [HL.out]
        exact O.out.lower B1.out.size

end Go.Proofs.Ytbbnfbclbhkneaa
