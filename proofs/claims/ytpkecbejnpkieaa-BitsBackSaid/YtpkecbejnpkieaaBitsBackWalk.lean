/- Layer 3, BitsBack: the walk: a set is its tracks. -/
import Derived.Test.YtpkecbejnpkieaaBitsL
namespace Go.Proofs.Ytpkecbejnpkieaa
open Go.RowKit
set_option linter.unusedVariables false

theorem listL_mem {n : Int} {s : List Int} {m : Nat} (hn : n = m) (hc : chk n s = 0) (z : Int) : z ∈ listL n s ↔ ∃ t : Nat, t < m ∧ hasT s t = true ∧ z = (t : Int) := by
  subst hn
  unfold listL listN
  rw [if_pos hc, Int.toNat_natCast]
  simp only [List.mem_map, List.mem_filter, List.mem_range]
  constructor
  · rintro ⟨t, ⟨h1, h2⟩, rfl⟩; exact ⟨t, h1, h2, rfl⟩
  · rintro ⟨t, h1, h2, rfl⟩; exact ⟨t, ⟨h1, h2⟩, rfl⟩
theorem back_of {n : Int} {s : List Int} (hb : ∀ z ∈ s, isByte z) (hc : chk n s = 0) : ofE n (listL n s) = 0 ∧ ofB n (listL n s) = s := by
  obtain ⟨m, rfl, h1, h2, h3⟩ := chk_zero hb hc
  have e : ofE (m : Int) (listL m s) = 0 := by
    unfold ofE
    rw [if_pos]
    refine ⟨by omega, fun z hz => ?_⟩
    obtain ⟨t, ht, _, rfl⟩ := (listL_mem rfl hc z).1 hz
    omega
  refine ⟨e, ?_⟩
  unfold ofB
  rw [if_pos e, Int.toNat_natCast]
  refine made_eq h3 _ fun t ht => ?_
  rw [Bool.eq_iff_iff, List.contains_iff_mem, listL_mem rfl hc]
  constructor
  · intro h; exact ⟨t, ht, h, rfl⟩
  · rintro ⟨t', _, h, e⟩
    have : t = t' := by omega
    rw [this]; exact h
theorem listL_bad {n : Int} {s : List Int} (hc : chk n s ≠ 0) : listL n s = [] := by unfold listL listN; rw [if_neg hc]; rfl
theorem ofB_bad {n : Int} {l : List Int} (hc : ofE n l ≠ 0) : ofB n l = [] := by unfold ofB; rw [if_neg hc]
theorem of_good {n : Int} {l : List Int} (hc : ofE n l = 0) : ∃ m : Nat, n = m ∧ 1 ≤ m ∧ m ≤ 16 ∧ IsSet m (ofB n l) ∧ (∀ z ∈ l, trkE n (ofB n l) z = 0 ∧ hasV n (ofB n l) z = true) ∧ (∀ z ∈ listL n (ofB n l), z ∈ l) ∧ chk n (ofB n l) = 0 := by
  have h := hc
  unfold ofE at h
  split at h
  · rename_i hh
    obtain ⟨⟨h1, h2⟩, h3⟩ := hh
    obtain ⟨m, rfl⟩ : ∃ m : Nat, n = m := ⟨n.toNat, by omega⟩
    have e : ofB (m : Int) l = made m (fun t => l.contains (t : Int)) := by unfold ofB; rw [if_pos hc, Int.toNat_natCast]
    have hs := made_isSet m (fun t => l.contains (t : Int))
    have hk := chk_set (by omega) (by omega) hs
    rw [e]
    refine ⟨m, rfl, by omega, by omega, hs, fun z hz => ?_, fun z hz => ?_, hk⟩
    · have := h3 z hz
      obtain ⟨t, rfl⟩ : ∃ t : Nat, z = t := ⟨z.toNat, by omega⟩
      have ht := trkE_ok (by omega) (by omega) (show t < m by omega) hs
      refine ⟨ht, ?_⟩
      unfold hasV
      rw [ht, Int.toNat_natCast, hasT_made]
      simp [show t < m by omega, hz]
    · obtain ⟨t, ht, hT, rfl⟩ := (listL_mem rfl hk z).1 hz
      rw [hasT_made] at hT
      simp at hT
      exact hT.2
  · omega
theorem ofB_byte (n : Int) (l : List Int) : ∀ z ∈ ofB n l, isByte z := by
  unfold ofB
  split
  · exact (made_isSet _ _).byte
  · simp
theorem listL_rises (n : Int) (s : List Int) (j : Nat) (h : j + 1 < (listL n s).length) : (listL n s).getD j 0 < (listL n s).getD (j + 1) 0 := by
  have hp : (listL n s).Pairwise (· < ·) := by
    unfold listL listN
    split
    · rw [List.pairwise_map]
      exact (List.pairwise_lt_range.filter _).imp fun h => by simp; exact h
    · exact List.Pairwise.nil
  have := List.pairwise_iff_getElem.1 hp j (j + 1) (by omega) h (by omega)
  simpa [List.getD_eq_getElem?_getD, h, show j < (listL n s).length by omega] using this
theorem take_has (l : List Int) (v : Int) (k : Nat) (hk : k < l.length) : (l.take (k + 1)).contains v = ((l.take k).contains v || (l.getD k 0 == v)) := by
  have hg : l.getD k 0 = l[k] := by simp [List.getD_eq_getElem?_getD, hk]
  rw [List.take_succ_eq_append_getElem hk, hg]
  simp only [List.contains_append, List.contains_cons, List.contains_nil, Bool.or_false]
  congr 1
  rw [Bool.eq_iff_iff, beq_iff_eq, beq_iff_eq]
  exact eq_comm

set_option maxRecDepth 100000 in
set_option maxHeartbeats 3200000 in
theorem walk_BitsBack (a0 : Int) (a1 : Option Addr) (len1 cap1 : Nat) (z1 : List Int) (a2 : Option Addr) (len2 cap2 : Nat) (z2 : List Int) (w : World) (w0 : (Lit.int .i64 a0).wf = true) (w1 : IsRow .i64 w a1 len1 cap1 z1) (w2 : IsRow .u8 w a2 len2 cap2 z2) :
    Calls Try.prog 7 #[.int .i64 a0, .slice a1 len1 cap1, .slice a2 len2 cap2] w fun e w' => e = .returned (.bool true) ∧ Below w.heap.size w w' := by
  obtain ⟨l, hl, _⟩ := w1.arg
  obtain ⟨s, hs, hsw⟩ := w2.arg
  have HSW := Lib.hid (fun z hz => wf_byte (hsw z hz))
  have HL := Lib.hid hl
  have HS := Lib.hid hs
  clear hl hs hsw w1 w2 w0
  have AL := Lib.hid (alive_any w)
  by_cases g0 : 100 < len1
  · go_enter Try.func7, Try.ntmps7
    go_wp2_with fail
    refine AL.out.mono ?_
    rintro e w1 ⟨rfl, hb1⟩
    go_wp2
    go_ret
    exact ⟨rfl, hb1⟩
  by_cases g1 : 100 < len2
  · go_enter Try.func7, Try.ntmps7
    go_wp2_with fail
    refine AL.out.mono ?_
    rintro e w1 ⟨rfl, hb1⟩
    go_wp2
    go_ret
    exact ⟨rfl, hb1⟩
  go_enter Try.func7, Try.ntmps7
  go_wp2_with fail
  refine AL.out.mono ?_
  rintro e w1 ⟨rfl, hb1⟩
  have B1 := Lib.hid hb1
  clear hb1 AL
  go_wp2_with fail
  refine (List_any a0 a2 len2 cap2 s w1 (HS.out.below B1.out) HSW.out).mono ?_
  rintro e w2 ⟨A2, c2, rfl, hown, hbel⟩
  have B2 := Lib.hid (B1.out.trans (hbel.mono B1.out.size))
  have X2 := Lib.hid (Arg.own hown)
  clear hown hbel
  have R3 := fun (w3 : World) (hx : Arg w3 .i64 A2 (listL a0 s).length c2 (listL a0 s)) => Of_any a0 A2 (listL a0 s).length c2 (listL a0 s) w3 hx
  by_cases hc : chk a0 s = 0
  · have hbk := back_of HSW.out hc
    rw [hbk.1, hbk.2] at R3
    rw [hc]
    have R3 := Lib.hid R3
    clear hbk hc
    go_wp2_with fail
    refine (R3.out w2 X2.out).mono ?_
    rintro e w3 ⟨A3, c3, rfl, hown, hbel⟩
    have B3 := Lib.hid (B2.out.trans (hbel.mono B2.out.size))
    have hst1 := run_str (P := Try.prog) w3 25 9 5 Try.underlying25 Try.underlying5 Try.underlying9 (c := c3) (Arg.own hown).seq rfl
    have hst2 := run_str (P := Try.prog) w3 25 9 5 Try.underlying25 Try.underlying5 Try.underlying9 (c := cap2) (HS.out.below B3.out).seq HS.out.len
    clear hown hbel X2 B2 B1 R3
    go_wp2_with fail
    clear hst1 hst2
    refine (Of_any a0 a1 len1 cap1 l w3 (HL.out.below B3.out)).mono ?_
    rintro e w4 ⟨A4, c4, rfl, hown, hbel⟩
    have B4 := Lib.hid (B3.out.trans (hbel.mono B3.out.size))
    have X4 := Lib.hid (Arg.own hown)
    clear hown hbel B3
    go_wp2_with fail
    refine (List_any a0 A4 _ c4 (ofB a0 l) w4 X4.out (ofB_byte a0 l)).mono ?_
    rintro e w5 ⟨A5, c5, rfl, hown, hbel⟩
    have B5 := Lib.hid (B4.out.trans (hbel.mono B4.out.size))
    have X4 := Lib.hid (X4.out.below hbel)
    have X5 := Lib.hid (Arg.own hown)
    clear hown hbel B4
    by_cases hE : ofE a0 l = 0
    · obtain ⟨m, rfl, h1, h2, h3, hhas, hin, hk⟩ := of_good hE
      have hby := ofB_byte (m : Int) l
      have hri := listL_rises (m : Int) (ofB (m : Int) l)
      have hkl : (listL (m : Int) (ofB (m : Int) l)).length ≤ 16 := by unfold listL; rw [List.length_map]; exact listN_length _ _
      rw [hE, hk]
      obtain ⟨U, hU⟩ : ∃ U, U = ofB (m : Int) l := ⟨_, rfl⟩
      rw [← hU] at hhas hin hri hkl X4 X5 hby ⊢
      obtain ⟨K, hK⟩ : ∃ K, K = listL (m : Int) U := ⟨_, rfl⟩
      rw [← hK] at hin hri hkl X5 ⊢
      have HHAS := Lib.hid hhas
      have HIN := Lib.hid hin
      have RISE := Lib.hid hri
      have HBY := Lib.hid hby
      have hll := HL.out.len
      clear hhas hin hri hby hk hK hU h3 hE
      go_wp2
      go_loopw [16] (fun i wr => ∃ k : Nat, k ≤ len1 ∧ i = .int .i64 k ∧ ∃ q, wr = w5.drewN q) (fun i _ => len1 - (intOf i).toNat)
      case atStart => exact ⟨0, Nat.zero_le _, rfl, 0, rfl⟩
      case round =>
        obtain ⟨k, hk, rfl, q, rfl⟩ := hrel
        by_cases hkn : k < len1
        · obtain ⟨ba, oa, rfl, hba, hac⟩ := (HL.out.below B5.out).seq.int (j := k) (by omega)
          have hz : l.getD k 0 ∈ l := by
            rw [List.getD_eq_getElem?_getD, List.getElem?_eq_getElem (by omega)]
            exact List.getElem_mem _
          have hh := HHAS.out _ hz
          have HH := Has_any (m : Int) A4 _ c4 U (l.getD k 0) (w5.drewN q) (X4.out.below (below_drewN (Below.refl _ _) q)) HBY.out
          rw [hh.1, hh.2] at HH
          obtain ⟨v, hv⟩ : ∃ v, v = l.getD k 0 := ⟨_, rfl⟩
          rw [← hv] at HH hac
          have HH := Lib.hid HH
          clear hv hz hh
          go_wp2_with fail
          refine HH.out.mono ?_
          rintro e w' ⟨rfl, q2, rfl⟩
          go_wp2
          go_roundw
          case rel => exact ⟨k + 1, by omega, by go_num, q + q2, by simp⟩
          case measure => simp [intOf]; omega
        · obtain rfl : k = len1 := by omega
          go_wp2
          go_loopw [19] (fun i wr => ∃ k : Nat, k ≤ K.length ∧ i = .int .i64 k ∧ ∃ q, wr = w5.drewN q) (fun i _ => K.length - (intOf i).toNat)
          case atStart => exact ⟨0, Nat.zero_le _, rfl, q, rfl⟩
          case round =>
            obtain ⟨j, hj, rfl, q3, rfl⟩ := hrel
            by_cases hjn : j < K.length
            · obtain ⟨bb, ob, rfl, hbb, hbc⟩ := X5.out.seq.int hjn
              have hz : K.getD j 0 ∈ K := by
                rw [List.getD_eq_getElem?_getD, List.getElem?_eq_getElem hjn]
                exact List.getElem_mem _
              have hm := HIN.out _ hz
              have hlast : l.contains (K.getD j 0) = true := List.contains_iff_mem.2 hm
              have hprev : ∀ j', j = j' + 1 → w5.cell? ⟨bb, ob + j', none⟩ = some (.int .i64 (K.getD j' 0)) ∧ K.getD j' 0 < K.getD j 0 := fun j' e => by
                obtain ⟨b', o', e', _, hc'⟩ := X5.out.seq.int (j := j') (by omega)
                cases e'
                have := RISE.out j' (by omega)
                rw [← e] at this
                exact ⟨hc', this⟩
              obtain ⟨v, hv⟩ : ∃ v, v = K.getD j 0 := ⟨_, rfl⟩
              rw [← hv] at hbc hlast hprev
              have LAST := Lib.hid hlast
              have PREV := Lib.hid hprev
              clear hv hz hm hlast hprev
              go_wp2
              go_loopw [20, 21] (fun n i wr => ∃ y : Nat, y ≤ k ∧ i = .int .i64 y ∧ n = .bool ((l.take y).contains v) ∧ ∃ q, wr = w5.drewN q) (fun _ i _ => k - (intOf i).toNat)
              case atStart => exact ⟨0, Nat.zero_le _, rfl, by simp, q3, rfl⟩
              case round =>
                obtain ⟨y, hy, rfl, rfl, q4, rfl⟩ := hrel
                by_cases hyn : y < k
                · obtain ⟨ba, oa, rfl, hba, hac⟩ := (HL.out.below B5.out).seq.int (j := y) (by omega)
                  have ht := take_has l v y (by omega)
                  obtain ⟨x, hx⟩ : ∃ x, x = l.getD y 0 := ⟨_, rfl⟩
                  rw [← hx] at ht hac
                  obtain ⟨c, hc⟩ : ∃ c, c = (l.take y).contains v := ⟨_, rfl⟩
                  rw [← hc] at ht ⊢
                  have TT := Lib.hid ht
                  clear hx hc ht
                  cases c with
                  | true =>
                    go_wp2
                    go_quiet (fail)
                    go_wp2
                    go_roundw
                    case rel => exact ⟨y + 1, by omega, by go_num, by rw [TT.out]; rfl, _, rfl⟩
                    case measure => simp [intOf]; omega
                  | false =>
                    obtain ⟨r, hr⟩ : ∃ r, r = (x == v) := ⟨_, rfl⟩
                    rw [Bool.false_or, ← hr] at TT
                    have hr2 : (x == v) = r := hr.symm
                    clear hr
                    go_wp2
                    go_quiet (fail)
                    go_wp2
                    go_roundw
                    case rel => exact ⟨y + 1, by omega, by go_num, by rw [TT.out], _, rfl⟩
                    case measure => simp [intOf]; omega
                · obtain rfl : y = k := by omega
                  have hfull : (l.take y).contains v = true := by rw [← hll, List.take_length]; exact LAST.out
                  rw [hfull]
                  clear hfull
                  cases j with
                  | zero =>
                    go_wp2
                    go_quiet (fail)
                    go_wp2
                    go_roundw
                    case rel => exact ⟨0 + 1, by omega, by go_num, _, rfl⟩
                    case measure => simp [intOf]; omega
                  | succ j' =>
                    obtain ⟨hpc, hpl⟩ := PREV.out j' rfl
                    obtain ⟨u, hu⟩ : ∃ u, u = K.getD j' 0 := ⟨_, rfl⟩
                    rw [← hu] at hpc hpl
                    clear hu
                    go_wp2
                    go_quiet (fail)
                    go_wp2
                    go_roundw
                    case rel => exact ⟨j' + 1 + 1, by omega, by go_num, _, rfl⟩
                    case measure => simp [intOf]; omega
            · obtain rfl : j = K.length := by omega
              go_wp2
              go_ret
              exact ⟨rfl, below_drewN B5.out _⟩
    · have hne : (ofE a0 l != 0) = true := by rw [bne_iff_ne]; exact hE
      have hne2 : (ofE a0 l == 0) = false := beq_eq_false_iff_ne.2 hE
      rw [ofB_bad hE]
      obtain ⟨E, hEe⟩ : ∃ E, E = ofE a0 l := ⟨_, rfl⟩
      rw [← hEe] at hne hne2 ⊢
      obtain ⟨C, hC⟩ : ∃ C, C = chk a0 ([] : List Int) := ⟨_, rfl⟩
      rw [← hC]
      obtain ⟨K, hK⟩ : ∃ K, K = (listL a0 ([] : List Int)).length := ⟨_, rfl⟩
      rw [← hK]
      clear X4 X5 hE hEe hC hK
      go_wp2
      go_ret
      exact ⟨rfl, B5.out⟩
  · have hln := listL_bad hc
    have hne : (chk a0 s != 0) = true := by rw [bne_iff_ne]; exact hc
    have hne2 : (chk a0 s == 0) = false := beq_eq_false_iff_ne.2 hc
    rw [hln] at R3 X2 ⊢
    obtain ⟨C0, hC0⟩ : ∃ C0, C0 = chk a0 s := ⟨_, rfl⟩
    rw [← hC0] at hne hne2 ⊢
    have R3 := Lib.hid R3
    clear hln hc hC0
    go_wp2_with fail
    refine (R3.out w2 X2.out).mono ?_
    rintro e w3 ⟨A3, c3, rfl, hown, hbel⟩
    have B3 := Lib.hid (B2.out.trans (hbel.mono B2.out.size))
    clear hown hbel X2 B2 B1 R3
    obtain ⟨T, hT⟩ : ∃ T, T = (ofB a0 ([] : List Int)).length := ⟨_, rfl⟩
    obtain ⟨F, hF⟩ : ∃ F, F = ofE a0 ([] : List Int) := ⟨_, rfl⟩
    rw [← hT, ← hF]
    clear hT hF
    go_wp2_with fail
    refine (Of_any a0 a1 len1 cap1 l w3 (HL.out.below B3.out)).mono ?_
    rintro e w4 ⟨A4, c4, rfl, hown, hbel⟩
    have B4 := Lib.hid (B3.out.trans (hbel.mono B3.out.size))
    have X4 := Lib.hid (Arg.own hown)
    clear hown hbel B3
    go_wp2_with fail
    refine (List_any a0 A4 _ c4 (ofB a0 l) w4 X4.out (ofB_byte a0 l)).mono ?_
    rintro e w5 ⟨A5, c5, rfl, hown, hbel⟩
    have B5 := Lib.hid (B4.out.trans (hbel.mono B4.out.size))
    have X4 := Lib.hid (X4.out.below hbel)
    have X5 := Lib.hid (Arg.own hown)
    clear hown hbel B4
    by_cases hE : ofE a0 l = 0
    · obtain ⟨m, rfl, h1, h2, h3, hhas, hin, hk⟩ := of_good hE
      have hby := ofB_byte (m : Int) l
      have hri := listL_rises (m : Int) (ofB (m : Int) l)
      have hkl : (listL (m : Int) (ofB (m : Int) l)).length ≤ 16 := by unfold listL; rw [List.length_map]; exact listN_length _ _
      rw [hE, hk]
      obtain ⟨U, hU⟩ : ∃ U, U = ofB (m : Int) l := ⟨_, rfl⟩
      rw [← hU] at hhas hin hri hkl X4 X5 hby ⊢
      obtain ⟨K, hK⟩ : ∃ K, K = listL (m : Int) U := ⟨_, rfl⟩
      rw [← hK] at hin hri hkl X5 ⊢
      have HHAS := Lib.hid hhas
      have HIN := Lib.hid hin
      have RISE := Lib.hid hri
      have HBY := Lib.hid hby
      have hll := HL.out.len
      clear hhas hin hri hby hk hK hU h3 hE
      go_wp2
      go_loopw [16] (fun i wr => ∃ k : Nat, k ≤ len1 ∧ i = .int .i64 k ∧ ∃ q, wr = w5.drewN q) (fun i _ => len1 - (intOf i).toNat)
      case atStart => exact ⟨0, Nat.zero_le _, rfl, 0, rfl⟩
      case round =>
        obtain ⟨k, hk, rfl, q, rfl⟩ := hrel
        by_cases hkn : k < len1
        · obtain ⟨ba, oa, rfl, hba, hac⟩ := (HL.out.below B5.out).seq.int (j := k) (by omega)
          have hz : l.getD k 0 ∈ l := by
            rw [List.getD_eq_getElem?_getD, List.getElem?_eq_getElem (by omega)]
            exact List.getElem_mem _
          have hh := HHAS.out _ hz
          have HH := Has_any (m : Int) A4 _ c4 U (l.getD k 0) (w5.drewN q) (X4.out.below (below_drewN (Below.refl _ _) q)) HBY.out
          rw [hh.1, hh.2] at HH
          obtain ⟨v, hv⟩ : ∃ v, v = l.getD k 0 := ⟨_, rfl⟩
          rw [← hv] at HH hac
          have HH := Lib.hid HH
          clear hv hz hh
          go_wp2_with fail
          refine HH.out.mono ?_
          rintro e w' ⟨rfl, q2, rfl⟩
          go_wp2
          go_roundw
          case rel => exact ⟨k + 1, by omega, by go_num, q + q2, by simp⟩
          case measure => simp [intOf]; omega
        · obtain rfl : k = len1 := by omega
          go_wp2
          go_loopw [19] (fun i wr => ∃ k : Nat, k ≤ K.length ∧ i = .int .i64 k ∧ ∃ q, wr = w5.drewN q) (fun i _ => K.length - (intOf i).toNat)
          case atStart => exact ⟨0, Nat.zero_le _, rfl, q, rfl⟩
          case round =>
            obtain ⟨j, hj, rfl, q3, rfl⟩ := hrel
            by_cases hjn : j < K.length
            · obtain ⟨bb, ob, rfl, hbb, hbc⟩ := X5.out.seq.int hjn
              have hz : K.getD j 0 ∈ K := by
                rw [List.getD_eq_getElem?_getD, List.getElem?_eq_getElem hjn]
                exact List.getElem_mem _
              have hm := HIN.out _ hz
              have hlast : l.contains (K.getD j 0) = true := List.contains_iff_mem.2 hm
              have hprev : ∀ j', j = j' + 1 → w5.cell? ⟨bb, ob + j', none⟩ = some (.int .i64 (K.getD j' 0)) ∧ K.getD j' 0 < K.getD j 0 := fun j' e => by
                obtain ⟨b', o', e', _, hc'⟩ := X5.out.seq.int (j := j') (by omega)
                cases e'
                have := RISE.out j' (by omega)
                rw [← e] at this
                exact ⟨hc', this⟩
              obtain ⟨v, hv⟩ : ∃ v, v = K.getD j 0 := ⟨_, rfl⟩
              rw [← hv] at hbc hlast hprev
              have LAST := Lib.hid hlast
              have PREV := Lib.hid hprev
              clear hv hz hm hlast hprev
              go_wp2
              go_loopw [20, 21] (fun n i wr => ∃ y : Nat, y ≤ k ∧ i = .int .i64 y ∧ n = .bool ((l.take y).contains v) ∧ ∃ q, wr = w5.drewN q) (fun _ i _ => k - (intOf i).toNat)
              case atStart => exact ⟨0, Nat.zero_le _, rfl, by simp, q3, rfl⟩
              case round =>
                obtain ⟨y, hy, rfl, rfl, q4, rfl⟩ := hrel
                by_cases hyn : y < k
                · obtain ⟨ba, oa, rfl, hba, hac⟩ := (HL.out.below B5.out).seq.int (j := y) (by omega)
                  have ht := take_has l v y (by omega)
                  obtain ⟨x, hx⟩ : ∃ x, x = l.getD y 0 := ⟨_, rfl⟩
                  rw [← hx] at ht hac
                  obtain ⟨c, hc⟩ : ∃ c, c = (l.take y).contains v := ⟨_, rfl⟩
                  rw [← hc] at ht ⊢
                  have TT := Lib.hid ht
                  clear hx hc ht
                  cases c with
                  | true =>
                    go_wp2
                    go_quiet (fail)
                    go_wp2
                    go_roundw
                    case rel => exact ⟨y + 1, by omega, by go_num, by rw [TT.out]; rfl, _, rfl⟩
                    case measure => simp [intOf]; omega
                  | false =>
                    obtain ⟨r, hr⟩ : ∃ r, r = (x == v) := ⟨_, rfl⟩
                    rw [Bool.false_or, ← hr] at TT
                    have hr2 : (x == v) = r := hr.symm
                    clear hr
                    go_wp2
                    go_quiet (fail)
                    go_wp2
                    go_roundw
                    case rel => exact ⟨y + 1, by omega, by go_num, by rw [TT.out], _, rfl⟩
                    case measure => simp [intOf]; omega
                · obtain rfl : y = k := by omega
                  have hfull : (l.take y).contains v = true := by rw [← hll, List.take_length]; exact LAST.out
                  rw [hfull]
                  clear hfull
                  cases j with
                  | zero =>
                    go_wp2
                    go_quiet (fail)
                    go_wp2
                    go_roundw
                    case rel => exact ⟨0 + 1, by omega, by go_num, _, rfl⟩
                    case measure => simp [intOf]; omega
                  | succ j' =>
                    obtain ⟨hpc, hpl⟩ := PREV.out j' rfl
                    obtain ⟨u, hu⟩ : ∃ u, u = K.getD j' 0 := ⟨_, rfl⟩
                    rw [← hu] at hpc hpl
                    clear hu
                    go_wp2
                    go_quiet (fail)
                    go_wp2
                    go_roundw
                    case rel => exact ⟨j' + 1 + 1, by omega, by go_num, _, rfl⟩
                    case measure => simp [intOf]; omega
            · obtain rfl : j = K.length := by omega
              go_wp2
              go_ret
              exact ⟨rfl, below_drewN B5.out _⟩
    · have hne : (ofE a0 l != 0) = true := by rw [bne_iff_ne]; exact hE
      have hne2 : (ofE a0 l == 0) = false := beq_eq_false_iff_ne.2 hE
      rw [ofB_bad hE]
      obtain ⟨E, hEe⟩ : ∃ E, E = ofE a0 l := ⟨_, rfl⟩
      rw [← hEe] at hne hne2 ⊢
      obtain ⟨C, hC⟩ : ∃ C, C = chk a0 ([] : List Int) := ⟨_, rfl⟩
      rw [← hC]
      obtain ⟨K, hK⟩ : ∃ K, K = (listL a0 ([] : List Int)).length := ⟨_, rfl⟩
      rw [← hK]
      clear X4 X5 hE hEe hC hK
      go_wp2
      go_ret
      exact ⟨rfl, B5.out⟩

end Go.Proofs.Ytpkecbejnpkieaa
