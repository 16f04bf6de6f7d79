/- Layer 11: the program's tableOf, Table, Put, Notes, Find; and so RecDoes. -/
import Derived.Test.YthoflogegopikaaRecT
import Derived.Test.YthoflogegopikaaRecW
namespace Go.Proofs.Ythoflogegopikaa
open Go.RowKit Go.Maps
set_option linter.unusedVariables false

theorem texts_lit1 {w : World} {A : Option Addr} {k c : Nat} {z : Txt} (h : Arg w .u8 A k c z) (hz : ∀ y ∈ z, isByte y) : Texts (w.alloc (.cells #[.slice A k c] 26)) (some ⟨w.heap.size, 0, none⟩) 1 1 [z] :=
  ⟨rfl, Nat.le_refl _, by decide, by simpa using hz, fun i hi => by
    obtain rfl : i = 0 := by omega
    have y := Blk.new w 26 [.slice A k c]
    exact ⟨_, 0, A, k, c, rfl, y.lt, (y.cell 0).trans rfl, h.below ((Below.refl _ _).alloc (Nat.le_refl _) _)⟩⟩
theorem take_getD {t : List Rc} {k i : Nat} (hi : i < k) : (t.take k).getD i zR = t.getD i zR := by
  rw [List.getD_eq_getElem?_getD, List.getElem?_take_of_lt hi, List.getD_eq_getElem?_getD]
/-- One record more. -/
theorem may_more {t : List Rc} {k : Nat} (hk : k < t.length) (h : mayTab (t.take k)) (hr : mayR (t.getD k zR)) (hp : 0 < k → (t.getD (k - 1) zR).p < (t.getD k zR).p) : mayTab (t.take (k + 1)) := by
  rw [mayTab_idx] at h ⊢
  intro y hy
  rw [List.length_take] at hy
  rcases Nat.lt_or_ge y k with hyk | hyk
  · have h1 := h y (by rw [List.length_take]; omega)
    rw [take_getD hyk] at h1
    rw [take_getD (by omega)]
    refine ⟨h1.1, fun h0 => ?_⟩
    have h2 := h1.2 h0
    rw [take_getD (by omega)] at h2
    rw [take_getD (by omega)]
    exact h2
  · obtain rfl : y = k := by omega
    rw [take_getD (by omega)]
    refine ⟨hr, fun h0 => ?_⟩
    rw [take_getD (by omega)]
    exact hp h0
theorem take_more {t : List Rc} {k : Nat} (hk : k < t.length) : t.take (k + 1) = t.take k ++ [t.getD k zR] := by
  rw [List.take_succ_eq_append_getElem hk]
  simp [List.getD_eq_getElem?_getD, hk]
theorem find_more {M : List Rc} {r : Rc} (h : mayTab (M ++ [r])) (p : Int) : fR (M ++ [r]) p = if p = r.p then some r else fR M p := by
  have h' := (mayTab_iff _).1 h
  have hM : mayTab M := (mayTab_iff _).2 ⟨fun x hx => h'.1 x (List.mem_append_left _ hx), (List.pairwise_append.1 h'.2).1⟩
  rw [← with_snoc h]
  exact with_find hM (h'.1 r (List.mem_append_right _ (List.mem_singleton.2 rfl))) p
/-- What tableOf answers. -/
def OfTab (w : World) (n : Nat) (t : List Rc) (e : Ending) (w' : World) : Prop := ((mayTab t ∧ ∃ B, e = .returned (.tuple #[.map (some B), .int .i64 0]) ∧ TabAt w' B n t ∧ w.heap.size ≤ B) ∨ (¬ mayTab t ∧ e = .returned (.tuple #[.map none, .int .i64 110]))) ∧ Below w.heap.size w w'

set_option maxRecDepth 100000 in
set_option maxHeartbeats 3200000 in
theorem ptableof_any (A : Option Addr) (n c : Nat) (t : List Rc) (w : World) (ht : Recs w A n c t) (hn : n ≤ 1000) :
    Calls Try.prog 38 #[.slice A n c] w (OfTab w n t) := by
  have hmm := @run_makeMap Try.prog
  have hlen := ht.len
  have HT := Lib.hid ht
  have IDX := Lib.hid (fun (h : mayTab t) k (hk : k < n) => (mayTab_idx t).1 h k (by rw [hlen]; exact hk))
  have HLN := Lib.hid hlen
  have ALL := Lib.hid (show t.take n = t by rw [← hlen, List.take_length])
  clear ht hlen
  unfold OfTab
  go_enter Try.func38, Try.ntmps38
  go_wp2
  go_loopw [11] (fun i wr => ∃ k : Nat, k ≤ n ∧ i = .int .i64 k ∧ mayTab (t.take k) ∧ TabAt wr w.heap.size k (t.take k) ∧ Below w.heap.size w wr) (fun i _ => n - (intOf i).toNat)
  case atStart => exact ⟨0, Nat.zero_le _, rfl, trivial, TabAt.made w, (Below.refl _ _).alloc (Nat.le_refl _) _⟩
  case round =>
    clear hmm
    obtain ⟨k, hk, rfl, hmy, hT, hbw⟩ := hrel
    have hmax : k < maxLen := by unfold maxLen; omega
    have TT := Lib.hid hT
    have BW := Lib.hid hbw
    have MY := Lib.hid hmy
    clear hT hbw hmy
    by_cases hkn : k < n
    · have hki : (k : Int) < (n : Int) := by omega
      have HTR := HT.out.below BW.out
      obtain ⟨b, o, rfl, hlt, d0, d1, d2, d3, d4, d5, d6, d7⟩ := HTR.row hkn
      have his := HTR.is_at hkn
      have TM := Lib.hid (take_more (t := t) (k := k) (by rw [HLN.out]; exact hkn))
      have MM := Lib.hid (may_more (t := t) (k := k) (by rw [HLN.out]; exact hkn) MY.out)
      have IX := Lib.hid (fun h => IDX.out h k hkn)
      obtain ⟨r, hr⟩ : ∃ r, r = t.getD k zR := ⟨_, rfl⟩
      rw [← hr] at d0 d1 d2 d3 d4 d5 d6 d7 his TM MM IX
      obtain ⟨x, hbx⟩ := rec_box wr r
      have x := Lib.hid x
      have BX := Lib.hid hbx
      have CK := Lib.hid (fun wx => pcheck11_any r wx his)
      have HIS := Lib.hid his
      clear his hr
      obtain ⟨w1, hw1⟩ : ∃ y, y = wr.alloc (.cells #[.int .i64 r.p, .int .u32 r.b, .int .u32 r.e, .int .i64 r.l, .int .u8 r.h, .int .i64 r.f, .bool r.q, .bool r.a] 24) := ⟨_, rfl⟩
      have hx := x.out
      rw [← hw1] at hx hbx
      have X1 := Lib.hid hx
      have T1 := Lib.hid (TT.out.below hbx)
      have B1 := Lib.hid (BW.out.trans (hbx.mono BW.out.size))
      have hltx : wr.heap.size < w1.heap.size := hx.lt
      have R1 := HTR.below hbx
      obtain ⟨c0, c1, c2, c3, c4, c5, c6, c7⟩ := hx.rec
      clear x BX hx hbx HTR
      by_cases hk0 : k = 0
      · have hd : decide (0 < k) = false := decide_eq_false (by omega)
        have HK0 := Lib.hid hk0
        clear hk0
        go_upto_region 5 with fail
        rw [← hw1]
        clear hw1 d0 d1 d2 d3 d4 d5 d6 d7
        go_quiet (fail)
        have hbq : Below w1.heap.size w1 (w1.drewN nq) := below_drewN (Below.refl _ _) nq
        obtain ⟨w2, hw2⟩ : ∃ y, y = w1.drewN nq := ⟨_, rfl⟩
        rw [← hw2] at hbq ⊢
        have X2 := Lib.hid (X1.out.below hbq hltx)
        have T2 := Lib.hid (T1.out.below hbq)
        have B2 := Lib.hid (B1.out.trans (hbq.mono B1.out.size))
        clear hw2 hbq c0 c1 c2 c3 c4 c5 c6 c7 X1 T1 B1 R1
        have hx2 := X2.out
        obtain ⟨c0, c1, c2, c3, c4, c5, c6, c7⟩ := hx2.rec
        clear hx2
        by_cases hm : mayR r
        · have CK := Lib.hid (show ∀ wx, Calls Try.prog 13 #[recV r] wx fun e w' => e = .returned (.int .i64 0) ∧ Below wx.heap.size wx w' from by have h := CK.out; rw [show rcE r = 0 from if_pos hm] at h; exact h)
          have MK := Lib.hid (MM.out hm (fun h => absurd h (by have := HK0.out; omega)))
          have HMR := Lib.hid hm
          clear hm
          go_wp2_with fail
          refine (CK.out _).mono ?_
          rintro e w3 ⟨rfl, hb3⟩
          have X3 := X2.out.below hb3 X2.out.lt
          have T3 := Lib.hid (T2.out.below hb3)
          have B3 := Lib.hid (B2.out.trans (hb3.mono B2.out.size))
          clear c0 c1 c2 c3 c4 c5 c6 c7 hb3
          obtain ⟨c0, c1, c2, c3, c4, c5, c6, c7⟩ := X3.rec
          clear X3
          have HF := Lib.hid (show ∀ p, fR (t.take (k + 1)) p = if p = r.p then some r else fR (t.take k) p from fun p => by have h := MK.out; rw [TM.out] at h ⊢; exact find_more h p)
          go_wp2_with (first
            | (at_mapUpdate; refine wpList_tab_put _ rfl _ _ _ rfl w.heap.size k (t.take k) (t.take (k + 1)) rfl T3.out hmax r HIS.out (wf_pair HMR.out.1.1 HMR.out.1.2.1) rfl rfl HF.out ?_; intro w5 hT5 hG5; have T5 := Lib.hid hT5; have G5 := Lib.hid hG5; clear hT5 hG5)
            | go_in)
          go_roundw
          case rel => exact ⟨k + 1, by omega, by go_num, MK.out, T5.out, B3.out.grown G5.out B3.out.size (fun j hj => by injection hj with hj; omega)⟩
          case measure => simp [intOf]; omega
        · have CK := Lib.hid (show ∀ wx, Calls Try.prog 13 #[recV r] wx fun e w' => e = .returned (.int .i64 110) ∧ Below wx.heap.size wx w' from by have h := CK.out; rw [show rcE r = 110 from if_neg hm] at h; exact h)
          have NM := Lib.hid (show ¬ mayTab t from fun h => hm (IX.out h).1)
          clear hm
          go_wp2_with fail
          refine (CK.out _).mono ?_
          rintro e w3 ⟨rfl, hb3⟩
          have B3 := Lib.hid (B2.out.trans (hb3.mono B2.out.size))
          clear c0 c1 c2 c3 c4 c5 c6 c7 hb3
          go_wp2
          go_ret2
          exact ⟨.inr ⟨NM.out, rfl⟩, B3.out⟩
      · obtain ⟨J, hJ⟩ : ∃ J, J = k - 1 := ⟨_, rfl⟩
        have hd : decide (0 < k) = true := decide_eq_true (by omega)
        have hJn : (J : Int) < (n : Int) := by omega
        have hJk : IntKind.i64.wrap ((k : Int) - 1) = (J : Int) := by rw [IntKind.wrap_i64]; omega
        obtain ⟨b', o', e', _, g0, _⟩ := R1.row (i := J) (by omega)
        injection e' with e'; injection e' with e1' e2' _; subst e1'; subst e2'
        rw [← hJ] at MM IX
        obtain ⟨s, hs⟩ : ∃ s, s = t.getD J zR := ⟨_, rfl⟩
        rw [← hs] at MM IX g0
        have HK0 := Lib.hid (show 0 < k by omega)
        clear hs hJ hk0
        by_cases hle : r.p ≤ s.p
        · have NM := Lib.hid (show ¬ mayTab t from fun h => by have := (IX.out h).2 HK0.out; omega)
          have hle2 : decide (r.p ≤ s.p) = true := decide_eq_true hle
          clear hle
          go_upto_region 5 with fail
          rw [← hw1]
          clear hw1 d0 d1 d2 d3 d4 d5 d6 d7
          go_quiet (fail)
          have hbq : Below w1.heap.size w1 (w1.drewN nq) := below_drewN (Below.refl _ _) nq
          obtain ⟨w2, hw2⟩ : ∃ y, y = w1.drewN nq := ⟨_, rfl⟩
          rw [← hw2] at hbq ⊢
          have X2 := Lib.hid (X1.out.below hbq hltx)
          have T2 := Lib.hid (T1.out.below hbq)
          have B2 := Lib.hid (B1.out.trans (hbq.mono B1.out.size))
          clear hw2 hbq c0 c1 c2 c3 c4 c5 c6 c7 X1 T1 B1 R1 g0
          go_wp2
          go_ret2
          exact ⟨.inr ⟨NM.out, rfl⟩, B2.out⟩
        · have LT := Lib.hid (show s.p < r.p by omega)
          have hle2 : decide (r.p ≤ s.p) = false := decide_eq_false hle
          clear hle
          go_upto_region 5 with fail
          rw [← hw1]
          clear hw1 d0 d1 d2 d3 d4 d5 d6 d7
          go_quiet (fail)
          have hbq : Below w1.heap.size w1 (w1.drewN nq) := below_drewN (Below.refl _ _) nq
          obtain ⟨w2, hw2⟩ : ∃ y, y = w1.drewN nq := ⟨_, rfl⟩
          rw [← hw2] at hbq ⊢
          have X2 := Lib.hid (X1.out.below hbq hltx)
          have T2 := Lib.hid (T1.out.below hbq)
          have B2 := Lib.hid (B1.out.trans (hbq.mono B1.out.size))
          clear hw2 hbq c0 c1 c2 c3 c4 c5 c6 c7 X1 T1 B1 R1 g0
          have hx2 := X2.out
          obtain ⟨c0, c1, c2, c3, c4, c5, c6, c7⟩ := hx2.rec
          clear hx2
          by_cases hm : mayR r
          · have CK := Lib.hid (show ∀ wx, Calls Try.prog 13 #[recV r] wx fun e w' => e = .returned (.int .i64 0) ∧ Below wx.heap.size wx w' from by have h := CK.out; rw [show rcE r = 0 from if_pos hm] at h; exact h)
            have MK := Lib.hid (MM.out hm (fun _ => LT.out))
            have HMR := Lib.hid hm
            clear hm
            go_wp2_with fail
            refine (CK.out _).mono ?_
            rintro e w3 ⟨rfl, hb3⟩
            have X3 := X2.out.below hb3 X2.out.lt
            have T3 := Lib.hid (T2.out.below hb3)
            have B3 := Lib.hid (B2.out.trans (hb3.mono B2.out.size))
            clear c0 c1 c2 c3 c4 c5 c6 c7 hb3
            obtain ⟨c0, c1, c2, c3, c4, c5, c6, c7⟩ := X3.rec
            clear X3
            have HF := Lib.hid (show ∀ p, fR (t.take (k + 1)) p = if p = r.p then some r else fR (t.take k) p from fun p => by have h := MK.out; rw [TM.out] at h ⊢; exact find_more h p)
            go_wp2_with (first
              | (at_mapUpdate; refine wpList_tab_put _ rfl _ _ _ rfl w.heap.size k (t.take k) (t.take (k + 1)) rfl T3.out hmax r HIS.out (wf_pair HMR.out.1.1 HMR.out.1.2.1) rfl rfl HF.out ?_; intro w5 hT5 hG5; have T5 := Lib.hid hT5; have G5 := Lib.hid hG5; clear hT5 hG5)
              | go_in)
            go_roundw
            case rel => exact ⟨k + 1, by omega, by go_num, MK.out, T5.out, B3.out.grown G5.out B3.out.size (fun j hj => by injection hj with hj; omega)⟩
            case measure => simp [intOf]; omega
          · have CK := Lib.hid (show ∀ wx, Calls Try.prog 13 #[recV r] wx fun e w' => e = .returned (.int .i64 110) ∧ Below wx.heap.size wx w' from by have h := CK.out; rw [show rcE r = 110 from if_neg hm] at h; exact h)
            have NM := Lib.hid (show ¬ mayTab t from fun h => hm (IX.out h).1)
            clear hm
            go_wp2_with fail
            refine (CK.out _).mono ?_
            rintro e w3 ⟨rfl, hb3⟩
            have B3 := Lib.hid (B2.out.trans (hb3.mono B2.out.size))
            clear c0 c1 c2 c3 c4 c5 c6 c7 hb3
            go_wp2
            go_ret2
            exact ⟨.inr ⟨NM.out, rfl⟩, B3.out⟩
    · obtain rfl : k = n := by omega
      rw [ALL.out] at MY TT
      go_wp2
      go_ret2
      exact ⟨.inl ⟨MY.out, _, rfl, TT.out, Nat.le_refl _⟩, BW.out⟩
end Go.Proofs.Ythoflogegopikaa
