/- Layer 11: the document's Without, With. -/
import Derived.Test.YthoflogegopikaaRecR2
namespace Go.Proofs.Ythoflogegopikaa
open Go.RowKit
set_option linter.unusedVariables false

theorem filter_take (t : List Rc) (q : Rc → Bool) {k : Nat} (hk : k < t.length) : (t.take (k + 1)).filter q = (t.take k).filter q ++ (if q (t.getD k zR) then [t.getD k zR] else []) := by
  have e : t.getD k zR = t[k] := by rw [List.getD_eq_getElem?_getD, List.getElem?_eq_getElem hk]; rfl
  rw [e, List.take_add_one, List.getElem?_eq_getElem hk, Option.toList_some, List.filter_append]
  congr 1
  by_cases h : q t[k] = true <;> simp [h]

set_option maxRecDepth 100000 in
set_option maxHeartbeats 1600000 in
theorem rout_any (A : Option Addr) (n c : Nat) (t : List Rc) (p : Int) (w : World) (ht : Recs w A n c t) (hn : n ≤ 1000) :
    Calls Try.prog 40 #[.slice A n c, .int .i64 p] w fun e w' => ∃ A' c', e = .returned (.slice A' (outR t p).length c') ∧ OwnRecs w' w.heap.size A' (outR t p).length c' (outR t p) ∧ Below w.heap.size w w' := by
  have HT := Lib.hid ht
  have hlen := ht.len
  have hall := ht.is
  have hfin : outR t p = (t.take n).filter (fun r => r.p != p) := by unfold outR; rw [List.take_of_length_le (by omega)]
  have hle : ∀ k, ((t.take k).filter fun r => r.p != p).length ≤ n := fun k => by
    have h1 := List.length_filter_le (fun r : Rc => r.p != p) (t.take k)
    rw [List.length_take] at h1
    omega
  have HLE := Lib.hid hle
  have STEP := Lib.hid (fun k (hk : k < n) => filter_take t (fun r => r.p != p) (k := k) (by omega))
  have HF := Lib.hid hfin
  have HA := Lib.hid hall
  clear ht hle hfin hall
  go_enter Try.func40, Try.ntmps40
  go_wp2
  go_loopw [5, 6] (fun x i wr => ∃ (k : Nat) (A' : Option Addr) (c' : Nat), k ≤ n ∧ i = .int .i64 k ∧ x = .slice A' ((t.take k).filter fun r => r.p != p).length c' ∧ OwnRecs wr w.heap.size A' ((t.take k).filter fun r => r.p != p).length c' ((t.take k).filter fun r => r.p != p) ∧ Below w.heap.size w wr) (fun _ i _ => n - (intOf i).toNat)
  case atStart => exact ⟨0, none, 0, Nat.zero_le _, rfl, rfl, OwnRecs.nil _ _, Below.refl _ _⟩
  case round =>
    obtain ⟨k, A', c', hk, rfl, rfl, hown, hbw⟩ := hrel
    have OW := Lib.hid hown
    have BW := Lib.hid hbw
    clear hown hbw
    by_cases hkn : k < n
    · have hT := HT.out.below BW.out
      obtain ⟨b, o, rfl, hlt, c0, c1, c2, c3, c4, c5, c6, c7⟩ := hT.row hkn
      have HR := Lib.hid (hT.is_at hkn)
      have ST := Lib.hid (STEP.out k hkn)
      have hlm := HLE.out k
      clear hT
      obtain ⟨r, hr⟩ : ∃ r, r = t.getD k zR := ⟨_, rfl⟩
      rw [← hr] at c0 c1 c2 c3 c4 c5 c6 c7 HR ST
      obtain ⟨M, hM⟩ : ∃ M, M = (t.take k).filter fun r => r.p != p := ⟨_, rfl⟩
      rw [← hM] at OW ST hlm ⊢
      obtain ⟨m, hm⟩ : ∃ m, m = M.length := ⟨_, rfl⟩
      rw [← hm] at OW hlm ⊢
      have HM := Lib.hid hm
      clear hr hM hm
      by_cases hp : r.p = p
      · have hb : (r.p != p) = false := by simpa using hp
        rw [hb] at ST
        clear hp
        go_wp2
        go_roundw
        case rel =>
          have hst := ST.out
          rw [if_neg (by decide), List.append_nil] at hst
          refine ⟨k + 1, A', c', by omega, by go_num, ?_, ?_, BW.out⟩
          · rw [hst, ← HM.out]
          · rw [hst, ← HM.out]; exact OW.out
        case measure => simp [intOf]; omega
      · have hb : (r.p != p) = true := by simpa using hp
        rw [hb] at ST
        clear hp
        go_wp2_with (at_builtin; refine wpList_recs w wr rfl (.tmp 20) (.tmp 25) rfl w.heap.size A' m c' M rfl OW.out r HR.out rfl (by omega) BW.out (Nat.le_refl _) ?_; intro A2 c2 w2 hO2 hB2; have O2 := Lib.hid hO2; have B2 := Lib.hid hB2; clear hO2 hB2)
        go_roundw
        case rel =>
          have hst := ST.out
          rw [if_pos rfl] at hst
          have hml : (M ++ [r]).length = m + 1 := by rw [List.length_append, ← HM.out]; rfl
          refine ⟨k + 1, A2, c2, by omega, by go_num, ?_, ?_, B2.out⟩
          · rw [hst, hml]
          · rw [hst, hml]; exact O2.out
        case measure => simp [intOf]; omega
    · obtain rfl : k = n := by omega
      have hf := HF.out
      go_wp2
      go_ret
      rw [hf]
      exact ⟨A', c', rfl, OW.out, BW.out⟩

/-- A table with a record, of the first pairs. -/
def wTo (t : List Rc) (r : Rc) : Nat → List Rc
  | 0 => []
  | k + 1 => wTo t r k ++ atR t r k
theorem wTo_all (t : List Rc) (r : Rc) : wTo t r 3 = withR t r := by
  show (([] ++ atR t r 0) ++ atR t r 1) ++ atR t r 2 = _
  unfold withR
  simp
theorem atR_le (t : List Rc) (r : Rc) (p : Int) : (atR t r p).length ≤ 1 := by
  unfold atR
  split
  · exact Nat.le_refl _
  · cases t.find? fun s => s.p == p <;> simp
theorem wTo_le (t : List Rc) (r : Rc) (k : Nat) : (wTo t r k).length ≤ k := by
  induction k with
  | zero => exact Nat.le_refl _
  | succ k ih =>
    have := atR_le t r k
    unfold wTo
    rw [List.length_append]
    omega
set_option maxRecDepth 100000 in
set_option maxHeartbeats 3200000 in
theorem rwith11_any (A : Option Addr) (n c : Nat) (t : List Rc) (r : Rc) (w : World) (ht : Recs w A n c t) (hr : isR r) (hn : n ≤ 1000) :
    Calls Try.prog 42 #[.slice A n c, recV r] w fun e w' => ∃ A' c', e = .returned (.slice A' (withR t r).length c') ∧ OwnRecs w' w.heap.size A' (withR t r).length c' (withR t r) ∧ Below w.heap.size w w' := by
  obtain ⟨x, hbel⟩ := rec_box w r
  obtain ⟨w0, hw0⟩ : ∃ x, x = w.alloc (.cells #[.int .i64 r.p, .int .u32 r.b, .int .u32 r.e, .int .i64 r.l, .int .u8 r.h, .int .i64 r.f, .bool r.q, .bool r.a] 24) := ⟨_, rfl⟩
  rw [← hw0] at x hbel
  have hlt := x.lt
  have X := Lib.hid x
  have BEL := Lib.hid hbel
  have HT := Lib.hid (ht.below hbel)
  have HR := Lib.hid hr
  rw [← wTo_all]
  have STEP := Lib.hid (fun k => (show wTo t r (k + 1) = wTo t r k ++ atR t r (k : Int) from rfl))
  have LE := Lib.hid (wTo_le t r)
  have hsz := hbel.size
  clear x hbel ht hr
  go_enter Try.func42, Try.ntmps42
  go_wp2
  rw [← hw0]
  clear hw0
  go_loopw [5, 6] (fun x i wr => ∃ (k : Nat) (A' : Option Addr) (c' : Nat), k ≤ 3 ∧ i = .int .i64 k ∧ x = .slice A' (wTo t r k).length c' ∧ OwnRecs wr w0.heap.size A' (wTo t r k).length c' (wTo t r k) ∧ Below w0.heap.size w0 wr) (fun _ i _ => 3 - (intOf i).toNat)
  case atStart => exact ⟨0, none, 0, Nat.zero_le _, rfl, rfl, OwnRecs.nil _ _, Below.refl _ _⟩
  case round =>
    obtain ⟨k, A', c', hk, rfl, rfl, hown, hbw⟩ := hrel
    have OW := Lib.hid hown
    have BW := Lib.hid hbw
    clear hown hbw
    by_cases hkn : k < 3
    · have hkn' : (k : Int) < 3 := by omega
      have X2 := X.out.below BW.out hlt
      obtain ⟨c0, c1, c2, c3, c4, c5, c6, c7⟩ := X2.rec
      have ST := Lib.hid (STEP.out k)
      have hlm := LE.out k
      have hT := Lib.hid (HT.out.below BW.out)
      obtain ⟨M, hM⟩ : ∃ M, M = wTo t r k := ⟨_, rfl⟩
      rw [← hM] at OW ST hlm ⊢
      obtain ⟨m, hm⟩ : ∃ m, m = M.length := ⟨_, rfl⟩
      rw [← hm] at OW hlm ⊢
      have HM := Lib.hid hm
      clear hM hm X2
      by_cases hp : (k : Int) = r.p
      · have hb : ((k : Int) == r.p) = true := by simpa using hp
        have hat := ST.out
        rw [show atR t r (k : Int) = [r] from if_pos hp] at hat
        have ST := Lib.hid hat
        clear hp hat
        go_wp2_with (at_builtin; refine wpList_recs w0 wr rfl (.tmp 15) (.tmp 17) rfl w0.heap.size A' m c' M rfl OW.out r HR.out rfl (by omega) BW.out (Nat.le_refl _) ?_; intro A2 c2' w2 hO2 hB2; have O2 := Lib.hid hO2; have B2 := Lib.hid hB2; clear hO2 hB2)
        go_roundw
        case rel =>
          have hst := ST.out
          have hml : (M ++ [r]).length = m + 1 := by rw [List.length_append, ← HM.out]; rfl
          refine ⟨k + 1, A2, c2', by omega, by go_num, ?_, ?_, B2.out⟩
          · rw [hst, hml]
          · rw [hst, hml]; exact O2.out
        case measure => simp [intOf]; omega
      · have hb : ((k : Int) == r.p) = false := by simpa using hp
        have hat := ST.out
        rw [show atR t r (k : Int) = (fR t (k : Int)).toList from if_neg hp] at hat
        have ST := Lib.hid hat
        have AT := Lib.hid (at_any A n c t (k : Int) wr hT.out)
        clear hp hat
        cases hf : fR t (k : Int) with
        | none =>
          rw [hf] at ST
          have HF := Lib.hid hf
          clear hf
          go_wp2_with fail
          refine AT.out.mono ?_
          rintro e w2 ⟨⟨i, _, hfi, _⟩ | ⟨_, rfl⟩, rfl⟩
          · rw [HF.out] at hfi; cases hfi
          · go_wp2
            go_roundw
            case rel =>
              have hst := ST.out
              rw [show (none : Option Rc).toList = [] from rfl, List.append_nil] at hst
              refine ⟨k + 1, A', c', by omega, by go_num, ?_, ?_, BW.out⟩
              · rw [hst, ← HM.out]
              · rw [hst, ← HM.out]; exact OW.out
            case measure => simp [intOf]; omega
        | some s =>
          rw [hf] at ST
          have HF := Lib.hid hf
          clear hf
          go_wp2_with fail
          refine AT.out.mono ?_
          rintro e w2 ⟨⟨i, hi, _, rfl⟩ | ⟨hfi, _⟩, rfl⟩
          · have hi0 : ¬ (i : Int) < 0 := by omega
            go_wp2_with fail
            refine AT.out.mono ?_
            rintro e w2 ⟨⟨i2, hi2, hf2, rfl⟩ | ⟨hfi, _⟩, rfl⟩
            · obtain ⟨b, o, rfl, hlt2, d0, d1, d2, d3, d4, d5, d6, d7⟩ := hT.out.row hi2
              have HS := Lib.hid (hT.out.is_at hi2)
              have hs : t.getD i2 zR = s := by rw [HF.out] at hf2; injection hf2 with hf2; exact hf2.symm
              rw [hs] at d0 d1 d2 d3 d4 d5 d6 d7 HS
              clear hf2 hs c0 c1 c2 c3 c4 c5 c6 c7
              go_wp2_with (at_builtin; refine wpList_recs w0 w2 rfl (.tmp 23) (.tmp 30) rfl w0.heap.size A' m c' M rfl OW.out s HS.out rfl (by omega) BW.out (Nat.le_refl _) ?_; intro A2 c2' w3 hO2 hB2; have O2 := Lib.hid hO2; have B2 := Lib.hid hB2; clear hO2 hB2)
              go_roundw
              case rel =>
                have hst := ST.out
                rw [show (some s).toList = [s] from rfl] at hst
                have hml : (M ++ [s]).length = m + 1 := by rw [List.length_append, ← HM.out]; rfl
                refine ⟨k + 1, A2, c2', by omega, by go_num, ?_, ?_, B2.out⟩
                · rw [hst, hml]
                · rw [hst, hml]; exact O2.out
              case measure => simp [intOf]; omega
            · rw [HF.out] at hfi; cases hfi
          · rw [HF.out] at hfi; cases hfi
    · obtain rfl : k = 3 := by omega
      go_wp2
      go_ret
      exact ⟨A', c', rfl, OW.out.lower hsz, BEL.out.trans (BW.out.mono hsz)⟩
end Go.Proofs.Ythoflogegopikaa
