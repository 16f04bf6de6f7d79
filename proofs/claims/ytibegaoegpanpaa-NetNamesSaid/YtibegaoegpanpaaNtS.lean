/- Layer 16, the law's: spoil, count. No statement is proved here. -/
import Derived.Test.YtibegaoegpanpaaNtR
import Derived.Test.YtibegaoegpanpaaOnly
import Derived.Deep.RegionHeld3
import Derived.Deep.Cut
namespace Go.Proofs.Ytibegaoegpanpaa
open Go.RowKit
set_option linter.unusedVariables false
set_option maxRecDepth 100000

theorem getD_mem16 (l : List Int) (k : Nat) (h : k < l.length) : l.getD k 0 ∈ l := by
  rw [List.getD_eq_getElem?_getD, List.getElem?_eq_getElem h]
  exact List.getElem_mem h

set_option maxHeartbeats 3200000 in
theorem spoil16_any (P : Nat → Prop) (A : Option Addr) (n c : Nat) (w : World) (h : SpT P w A n) (hn : n ≤ 100) :
    Calls Try.prog 20 #[.slice A n c] w fun e w' => e = .returned (.tuple #[]) ∧ Only P w w' := by
  have H := Lib.hid h
  clear h
  go_enter Try.func20, Try.ntmps20
  go_wp2
  go_loopw [2] (fun x wr => ∃ i : Nat, i ≤ n ∧ x = .int .i64 i ∧ Only P w wr) (fun x _ => n - (intOf x).toNat)
  case atStart => exact ⟨0, Nat.zero_le _, rfl, Only.refl _ _⟩
  case round =>
    obtain ⟨i, hi, rfl, hs1⟩ := hrel
    by_cases hin : i < n
    · obtain ⟨b, o, Ai, L, ci, bs, zs0, rfl, hb, _, _, _, hp, hL⟩ := H.out i hin
      have S1 := Lib.hid hs1
      have HB := Lib.hid hb
      have HP := Lib.hid hp
      have CE := Lib.hid (show ∀ wx, Only P w wx → ∃ Ai' L' ci' bs' zs', some (⟨b, o, none⟩ : Addr) = some ⟨b, o, none⟩ ∧ wx.cell? ⟨b, o + i, none⟩ = some (.slice Ai' L' ci') ∧ (∀ z ∈ zs', isByte z) ∧ wx.ownsRow bs' 5 1 (.slice Ai' L' ci') L' (ints .u8 zs') ∧ (∀ g, (Value.slice Ai' L' ci').ownBlock = some g → P g) from fun wx hx => by
        obtain ⟨b', o', Ai', L', ci', bs', zs', e, _, hc, hz, hr, hp', _⟩ := (H.out |>.only hx) i hin
        injection e with e; injection e with e1 e2; subst e1; subst e2
        exact ⟨Ai', L', ci', bs', zs', rfl, hc, hz, hr, hp'⟩)
      obtain ⟨Ai, L, ci, bs, zs, _, hc0, hz0, hr0, hp0⟩ := CE.out w (Only.refl _ _)
      have CL := Lib.hid (show ∀ wx, Only P w wx → wx.cell? ⟨b, o + i, none⟩ = some (.slice Ai L ci) from fun wx hx => (hx.cell (p := ⟨b, o + i, none⟩) HB.out).trans hc0)
      have LL : L ≤ 200 := by
        obtain ⟨b', o', Ai', L', ci', bs', zs', e, _, hc, _, _, _, h2⟩ := H.out i hin
        injection e with e; injection e with e1 e2; subst e1; subst e2
        rw [hc0] at hc
        injection hc with hc
        injection hc with _ hc _
        omega
      have HZ0 := Lib.hid hz0
      have HR0 := Lib.hid hr0
      have HP0 := Lib.hid hp0
      have hc1 := CL.out _ hs1
      clear hb hp hc0 hz0 hr0 hp0 hs1 hL
      go_wp2
      go_loopw [3] (fun x wx => ∃ k : Nat, k ≤ L ∧ x = .int .i64 k ∧ Only P w wx) (fun x _ => L - (intOf x).toNat)
      case atStart => exact ⟨0, Nat.zero_le _, rfl, S1.out⟩
      case round =>
        obtain ⟨k, hk, rfl, hs2⟩ := hrel
        have hc2 := CL.out _ hs2
        by_cases hkL : k < L
        · obtain ⟨zs1, hz1, hl1, hr1⟩ := hs2.bytes bs Ai L ci zs HZ0.out HR0.out
          obtain ⟨g, hA, hbg, hcg, hfg, _⟩ := owns_int_at (j := k) hr1 hkL
          have hPg := HP0.out g (by rw [hA]; rfl)
          have hcap := (Arg.own hr1).cap
          have hcm := (Arg.own hr1).max
          unfold maxLen at hcm
          have hlen : zs1.length = L := by have h1 := hr1.1; rw [ints_length] at h1; omega
          have hbyte : isByte (zs1.getD k 0) := hz1 _ (getD_mem16 _ k (by omega))
          obtain ⟨x, hx⟩ : ∃ x, x = zs1.getD k 0 := ⟨_, rfl⟩
          rw [← hx] at hcg hbyte
          have hx0 : 0 ≤ x := hbyte.1
          have hx1 : x < 256 := hbyte.2
          have SET := Lib.hid (hs2.set hPg k (show isByte ((x + 1) % 256) from ⟨by omega, by omega⟩))
          rw [hA] at hc2
          have hw1 : IntKind.i64.wrap (i : Int) = (i : Int) := Lib.wrap_i64_small i (by omega)
          have hw2 : IntKind.i64.wrap (k : Int) = (k : Int) := Lib.wrap_i64_small k (by omega)
          have hi1 : (i : Int) < (n : Int) := by omega
          have hk1 : (k : Int) < (L : Int) := by omega
          clear hx hbyte hs2 hr1 hlen hl1 hz1 hA hPg hc1
          go_wp2
          refine wp_region_still_tail 14 (by kernel_rfl) (by kernel_rfl) ?_
          simp only [List.take_succ_cons, List.take_zero, List.drop_succ_cons, List.drop_zero]
          repeat still_step
          try refine wpStill_nil ?_
          change wpList _ _ _ _ _ wr.drew
          go_wp2
          go_roundw
          case rel => exact ⟨k + 1, by omega, by go_num, SET.out.drew⟩
          case measure => simp [intOf]; omega
        · obtain rfl : k = L := by omega
          have S2 := Lib.hid hs2
          clear hs2
          go_wp2
          go_roundw
          case rel => exact ⟨i + 1, by omega, by go_num, S2.out⟩
          case measure => simp [intOf]; omega
    · obtain rfl : i = n := by omega
      have S1 := Lib.hid hs1
      clear hs1
      go_wp2
      first | go_end0 | refine bodyPost_ret (results_none rfl _ _ _) rfl ?_
      exact ⟨rfl, S1.out⟩

set_option maxHeartbeats 1600000 in
theorem count16_any (A : Option Addr) (n c : Nat) (q : List Text) (A' : Option Addr) (n' c' : Nat) (b : Text) (w : World) (hq : Texts w A n c q) (hb : Arg w .u8 A' n' c' b) (hby : ∀ z ∈ b, isByte z) (hn : n ≤ 100) :
    Calls Try.prog 21 #[.slice A n c, .slice A' n' c'] w fun e w' => e = .returned (.int .i64 (countN q b n : Int)) ∧ ∃ r, w' = w.drewN r := by
  have HQ := Lib.hid hq
  have ST := Lib.hid (fun q => run_str (P := Try.prog) (w.drewN q) 26 9 5 Try.underlying26 Try.underlying5 Try.underlying9 (c := c') (hb.seq.keep (w' := w.drewN q) fun _ _ => rfl) hb.len)
  have SU := Lib.hid (fun k (hk : k < n) => countN_succ (q := q) (b := b) (k := k) (by rw [hq.len]; exact hk))
  have HBY := Lib.hid hby
  have CL := Lib.hid (countN_le q b)
  clear hq hb hby
  go_enter Try.func21, Try.ntmps21
  go_wp2
  go_loopw [5, 6] (fun m i wr => ∃ k : Nat, k ≤ n ∧ i = .int .i64 k ∧ m = .int .i64 (countN q b k : Int) ∧ ∃ r, wr = w.drewN r) (fun _ i _ => n - (intOf i).toNat)
  case atStart => exact ⟨0, Nat.zero_le _, rfl, rfl, 0, rfl⟩
  case round =>
    obtain ⟨k, hk, rfl, rfl, r, rfl⟩ := hrel
    by_cases hkn : k < n
    · obtain ⟨b1, o1, A1, n1, c1, rfl, hlt1, hc1, ha1⟩ := HQ.out.at_ k hkn
      have hst1 := fun q => run_str (P := Try.prog) (w.drewN q) 26 9 5 Try.underlying26 Try.underlying5 Try.underlying9 (c := c1) (ha1.seq.keep (w' := w.drewN q) fun _ _ => rfl) ha1.len
      have hst2 := ST.out
      have hse := strs_eq (HQ.out.byte_at k) HBY.out
      have hsu := SU.out k hkn
      have hcl := CL.out k
      obtain ⟨x, hx⟩ : ∃ x, x = q.getD k [] := ⟨_, rfl⟩
      rw [← hx] at hst1 hse hsu
      obtain ⟨m, hm⟩ : ∃ m, m = countN q b k := ⟨_, rfl⟩
      rw [← hm] at hsu hcl ⊢
      clear hx ha1
      by_cases hxy : x = b
      · have hse2 : ((strOfNums x).toList == (strOfNums b).toList) = true := hse.trans (decide_eq_true hxy)
        rw [if_pos hxy] at hsu
        have HSU := Lib.hid hsu
        have HM := Lib.hid hm
        have hw : IntKind.i64.wrap ((m : Int) + 1) = (m : Int) + 1 := Lib.wrap_i64_small (m + 1) (by omega)
        clear hxy hse hsu hm
        go_wp2
        go_quiet (fail)
        go_wp2
        go_roundw
        case rel => exact ⟨k + 1, by omega, by go_num, by rw [HSU.out]; rfl, _, rfl⟩
        case measure => simp [intOf]; omega
      · have hse2 : ((strOfNums x).toList == (strOfNums b).toList) = false := hse.trans (decide_eq_false hxy)
        rw [if_neg hxy] at hsu
        have HSU := Lib.hid hsu
        clear hxy hse hsu hm
        go_wp2
        go_quiet (fail)
        go_wp2
        go_roundw
        case rel => exact ⟨k + 1, by omega, by go_num, by rw [HSU.out]; rfl, _, rfl⟩
        case measure => simp [intOf]; omega
    · obtain rfl : k = n := by omega
      go_wp2
      go_ret
      exact ⟨rfl, r, rfl⟩
end Go.Proofs.Ytibegaoegpanpaa
