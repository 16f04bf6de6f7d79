/- Layer 11: the document's Table, at all arguments. -/
import Derived.Test.YthoflogegopikaaRecRows
namespace Go.Proofs.Ythoflogegopikaa
open Go.RowKit
set_option linter.unusedVariables false

theorem tab_step (l : List Txt) {k : Nat} (hk : k < l.length) {x : List Rc} (h : tabTo [] (l.take k) = some x) : tabTo [] (l.take (k + 1)) = putR x (l.getD k []) := by
  rw [List.take_succ_eq_append_getElem hk, tabTo_app, h]
  have e : l.getD k [] = l[k] := by simp [List.getD_eq_getElem?_getD, hk]
  rw [e]
  show (putR x l[k]).bind (fun y => tabTo y []) = _
  cases putR x l[k] <;> rfl
theorem tab_none (l : List Txt) (k : Nat) (h : tabTo [] (l.take k) = none) : tabR l = none := by
  unfold tabR
  rw [← List.take_append_drop k l, tabTo_app, h]
  rfl
set_option maxRecDepth 100000 in
set_option maxHeartbeats 400000 in
theorem rtable11_any (A : Option Addr) (n c : Nat) (l : List Txt) (w : World) (hl : Texts w A n c l) :
    Calls Try.prog 20 #[.slice A n c] w (PutOut w (tabR l)) := by
  have hcm := Nat.le_trans hl.cap hl.max
  unfold maxLen at hcm
  have hlen := hl.len
  have HL := Lib.hid hl
  have ST := Lib.hid (fun k (hk : k < n) x => tab_step l (k := k) (by rw [hlen]; exact hk) (x := x))
  have NO := Lib.hid (tab_none l)
  have ALL := Lib.hid (show tabTo [] (l.take n) = tabR l by rw [← hlen, List.take_length]; rfl)
  have MAY := Lib.hid (fun k x (h : tabTo [] (l.take k) = some x) => tabTo_may (t := []) (by trivial) h)
  clear hl hlen
  unfold PutOut
  obtain ⟨R, hR⟩ : ∃ R, R = tabR l := ⟨_, rfl⟩
  rw [← hR] at NO ALL ⊢
  clear hR
  go_enter Try.func20, Try.ntmps20
  go_wp2
  go_loopw [4, 5] (fun v i wr => ∃ k : Nat, k ≤ n ∧ i = .int .i64 k ∧ (∃ A' c' x, v = .slice A' (List.length x) c' ∧ tabTo [] (l.take k) = some x ∧ OwnRecs wr w.heap.size A' (List.length x) c' x) ∧ Below w.heap.size w wr) (fun _ i _ => n - (intOf i).toNat)
  case atStart => exact ⟨0, Nat.zero_le _, rfl, ⟨none, 0, [], rfl, rfl, OwnRecs.nil _ _⟩, Below.refl _ _⟩
  case round =>
    obtain ⟨k, hk, rfl, ⟨A1, c1, x, rfl, hx, hown⟩, hbel⟩ := hrel
    by_cases hkn : k < n
    · obtain ⟨b, o, Ai, ni, ci, rfl, hlt, hc, ha⟩ := (HL.out.below hbel).at_ k hkn
      have hby := HL.out.byte_at k
      have hst := ST.out k hkn x hx
      have hm3 := tab_three (MAY.out k x hx)
      have PU := rput11_any A1 x.length c1 x Ai ni ci (l.getD k []) wr (Recs.of_own hown) (by omega) ha hby
      have B := Lib.hid hbel
      obtain ⟨m, hm⟩ : ∃ m, m = x.length := ⟨_, rfl⟩
      rw [← hm] at PU ⊢
      rcases hy : putR x (l.getD k []) with _ | z
      · rw [hy] at PU hst
        have PU := Lib.hid (show Calls Try.prog 22 #[.slice A1 m c1, .slice Ai ni ci] wr (fun e w' => ∃ A' c', e = .returned (.tuple #[.slice A' 0 c', .int .i64 110]) ∧ Below wr.heap.size wr w') from PU.mono fun e w' ⟨A', c', h1, _, h3⟩ => ⟨A', c', h1, h3⟩)
        have HNO := Lib.hid (NO.out _ hst)
        clear hy hx hm hown hbel ha hby hst hm3 ST NO ALL MAY HL
        go_wp2_with fail
        refine PU.out.mono ?_
        rintro e w2 ⟨A2, c2, rfl, hb⟩
        have B2 := Lib.hid (B.out.trans (hb.mono B.out.size))
        clear hb
        go_wp2
        go_ret2
        rw [HNO.out]
        exact ⟨none, 0, rfl, OwnRecs.nil _ _, B2.out⟩
      · rw [hy] at PU hst
        have HST := Lib.hid hst
        obtain ⟨mz, hmz⟩ : ∃ m, m = z.length := ⟨_, rfl⟩
        have PU := Lib.hid (show Calls Try.prog 22 #[.slice A1 m c1, .slice Ai ni ci] wr (fun e w' => ∃ A' c', e = .returned (.tuple #[.slice A' mz c', .int .i64 0]) ∧ OwnRecs w' wr.heap.size A' mz c' z ∧ Below wr.heap.size wr w') from PU.mono fun e w' ⟨A', c', h1, h2, h3⟩ => ⟨A', c', by rw [hmz]; exact h1, by rw [hmz]; exact h2, h3⟩)
        have HMZ := Lib.hid hmz
        clear hy hx hm hown hbel ha hby hst hm3 hmz ST NO ALL MAY HL
        go_wp2_with fail
        refine PU.out.mono ?_
        rintro e w2 ⟨A2, c2, rfl, hO, hb⟩
        have O := Lib.hid (hO.lower B.out.size)
        have B2 := Lib.hid (B.out.trans (hb.mono B.out.size))
        clear hO hb
        go_wp2
        go_roundw
        case rel => exact ⟨k + 1, by omega, by go_num, ⟨A2, c2, z, by rw [← HMZ.out], HST.out, by rw [← HMZ.out]; exact O.out⟩, B2.out⟩
        case measure => simp [intOf]; omega
    · obtain rfl : k = n := by omega
      rw [ALL.out] at hx
      have HX := Lib.hid hx
      have O := Lib.hid hown
      have B := Lib.hid hbel
      clear hown hbel hx
      go_wp2
      go_ret2
      rw [HX.out]
      exact ⟨A1, c1, rfl, O.out, B.out⟩
end Go.Proofs.Ythoflogegopikaa
