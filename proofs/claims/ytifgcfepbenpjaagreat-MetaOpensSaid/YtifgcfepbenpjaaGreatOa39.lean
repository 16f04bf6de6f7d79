/- Texts of layers 1 to 12, joined. -/
import Derived.Test.YtifgcfepbenpjaaGreatOa24
import Derived.Test.YtifgcfepbenpjaaGreatOa38
set_option maxRecDepth 100000
set_option maxHeartbeats 12800000
set_option linter.unusedVariables false
namespace Go.Proofs.YtifgcfepbenpjaaGreat
open Go.RowKit
theorem nums_jrn (w : World) (g n m : Int) (b B : Nat) (hb : b = w.heap.size) (hB : w.heap.size < B) : Seq (w.alloc (.cells #[.int .u64 g, .int .u64 1, .int .u64 n, .int .u64 m, .int .u64 0] 27)) B (some ⟨b, 0, none⟩) (ints .u64 [g, 1, n, m, 0]) := lit_row w 27 .u64 [g, 1, n, m, 0] _ _ _ rfl hb hB
theorem lit_sz5 (w : World) (b B : Nat) (hb : b = w.heap.size) (hB : w.heap.size < B) : Seq (w.alloc (.cells #[.int .i64 8, .int .i64 1, .int .i64 1, .int .i64 1, .int .i64 1] 3)) B (some ⟨b, 0, none⟩) (ints .i64 sz5) := lit_row w 3 .i64 sz5 _ b B rfl hb hB
theorem rsector_any (g n : Int) (hg : isG g) (hn : 0 ≤ n ∧ n ≤ 255) (A : Option Addr) (k c : Nat) (b : Txt) (w : World) (h : Arg w .u8 A k c b) (hk : k ≤ 20) :
  Calls Tryz.prog 102 #[.int .u64 g, .int .i64 n, .slice A k c] w fun e w' => ∃ A' c', e = .returned (.slice A' 32 c') ∧ w'.ownsRow w.heap.size 5 1 (.slice A' 32 c') 32 (ints .u8 (jT g n b)) ∧ Below w.heap.size w w' := by
 obtain ⟨i0, hi0, hz0, hz1, hz2⟩ := info_parts byte_info
 have hml : (1000 : Nat) ≤ maxLen := by decide
 have e1 : IntKind.u64.wrap n = n := wraps_u64 n hn.1 (by omega)
 have e2 : IntKind.u64.wrap (k : Int) = k := wraps_u64 k (by omega) (by omega)
 have hb1 : Below w.heap.size w (w.alloc (.cells #[.int .u64 g, .int .u64 1, .int .u64 n, .int .u64 (k : Int), .int .u64 0] 27)) := (Below.refl _ _).alloc (Nat.le_refl _) _
 obtain ⟨w1, hw1⟩ : ∃ x, x = w.alloc (.cells #[.int .u64 g, .int .u64 1, .int .u64 n, .int .u64 (k : Int), .int .u64 0] 27) := ⟨_, rfl⟩
 have hL := nums_jrn w g n k w.heap.size w1.heap.size rfl (by rw [hw1]; simp)
 rw [← hw1] at hb1 hL
 have hb2 : Below w1.heap.size w1 (w1.alloc (.cells #[.int .i64 8, .int .i64 1, .int .i64 1, .int .i64 1, .int .i64 1] 3)) := (Below.refl _ _).alloc (Nat.le_refl _) _
 have hZ := lit_sz5 w1 w1.heap.size (w1.alloc (.cells #[.int .i64 8, .int .i64 1, .int .i64 1, .int .i64 1, .int .i64 1] 3)).heap.size rfl (by simp)
 obtain ⟨w2, hw2⟩ : ∃ x, x = w1.alloc (.cells #[.int .i64 8, .int .i64 1, .int .i64 1, .int .i64 1, .int .i64 1] 3) := ⟨_, rfl⟩
 rw [← hw2] at hb2 hZ
 have hL2 := (hL.below hb2).more hb2.size
 have hB := hb1.trans (hb2.mono hb1.size)
 have RW := Lh (row_any (some ⟨w.heap.size, 0, none⟩) (some ⟨w1.heap.size, 0, none⟩) 5 5 5 [g, 1, n, k, 0] sz5 w2 hZ okB_sz5 hL2 rfl rfl (by
  intro z hz
  simp only [List.mem_cons, List.not_mem_nil, or_false] at hz
  obtain ⟨hg0, hg1⟩ := hg
  unfold isWord
  rcases hz with rfl | rfl | rfl | rfl | rfl <;> omega))
 have hrl := jrow_length g n k
 have hs1 : w1.heap.size = w.heap.size + 1 := by rw [hw1]; simp
 have HA := Lh h
 have HB := Lh hB
 have hbl := h.len
 have HBL := Lh hbl
 have hge : w.heap.size ≤ w2.heap.size := hB.size
 rw [hs1] at RW
 clear h hL hL2 hZ hb1 hb2 hB hbl hg hn
 go_enter Tryz.func102, Tryz.ntmps102
 go_wp2_with fail
 rw [← hw1, ← hw2]
 clear hw1 hw2 hs1
 refine RW.out.mono ?_
 rintro e w3 ⟨A3, c3, rfl, hown, hb3⟩
 rw [show rowTo [g, 1, n, (k : Int), 0] sz5 5 = jrow g n k from rfl] at hown ⊢
 rw [hrl] at hown ⊢
 have B3 := Lh (HB.out.trans (hb3.mono HB.out.size))
 have O3 := Lh (owns_base hown hge)
 have HA3 := Lh (HA.out.below B3.out)
 have hg3 : w.heap.size ≤ w3.heap.size := B3.out.size
 clear hown hb3 RW hrl hge
 obtain ⟨m, hm⟩ : ∃ m : Nat, 20 - (k : Int) = (m : Int) := ⟨20 - k, by omega⟩
 have hnm : k + m = 20 := by omega
 have hsz3 : w.heap.size ≤ w3.heap.size := hg3
 have hM1 : 12 + k ≤ maxLen := by omega
 go_wp2_with (first
  | (at_builtin; (refine wpList_app _ rfl (.tmp 17) (.tmp 18) _ rfl w.heap.size 5 i0 _ 1 Tryz.underlying42 hi0 hz0 hz1 hz2 rfl _ 12 _ rfl O3.out w3.heap.size A k c (ints .u8 b) rfl (by rw [ints_length, HBL.out]) HA3.out.seq (ints_one _ _) hM1 (by omega) hg3 ?_); intro v4 w4 hown4 hg4 hob4; obtain ⟨A4, c4, rfl⟩ := owns_slice hown4; have hsz4 : w.heap.size ≤ w4.heap.size := Nat.le_trans hsz3 hg4.size; have HL4 := Lh (O3.out.lt); have O4 := Lh hown4; have B4 := Lh (B3.out.grown hg4 hg3 (fun g e => (HL4.out g e).1)); clear hown4 hg4 hob4)
  | (at_builtin; (refine wpList_noughts _ rfl (.tmp 19) (.tmp 22) rfl w.heap.size _ (12 + k) _ rfl O4.out m rfl (by omega) (by omega) hsz4 ?_); intro v5 w5 hown5 hg5 hob5; obtain ⟨A5, c5, rfl⟩ := owns_slice hown5; have HL5 := Lh (O4.out.lt); have O5 := Lh hown5; have B5 := Lh (B4.out.grown hg5 hsz4 (fun g e => (HL5.out g e).1)); clear hown5 hg5 hob5))
 go_ret
 have e32 : 12 + k + m = 32 := by omega
 have hO := O5.out
 rw [e32] at hO ⊢
 refine ⟨A5, c5, rfl, ?_, B5.out⟩
 have : ints .u8 (jT g n b) = ints .u8 (jrow g n k) ++ ints .u8 b ++ List.replicate m (.int .u8 0) := by
  unfold jT
  rw [ints_app, ints_app, HBL.out, show 20 - k = m by omega]
  simp [ints]
 rw [this]
 exact hO
end Go.Proofs.YtifgcfepbenpjaaGreat
namespace Go.Proofs.YtifgcfepbenpjaaGreat
open Go.RowKit Go.Maps
theorem take_getD {t : List Rc} {k i : Nat} (hi : i < k) : (t.take k).getD i zR = t.getD i zR := by
 rw [gtD, List.getElem?_take_of_lt hi, gtD]
theorem mayr_more {t : List Rc} {k : Nat} (hk : k < t.length) (h : mayTab (t.take k)) (hr : mayR (t.getD k zR)) (hp : 0 < k → (t.getD (k - 1) zR).p < (t.getD k zR).p) : mayTab (t.take (k + 1)) := by
 rw [mayTab_idx] at h ⊢
 intro y hy
 rw [List.length_take] at hy
 rcases Nat.lt_or_ge y k with hyk | hyk
 ·have h1 := h y (by rw [List.length_take]; omega)
  rw [take_getD hyk] at h1
  rw [take_getD (by omega)]
  refine ⟨h1.1, fun h0 => ?_⟩
  have h2 := h1.2 h0
  rw [take_getD (by omega)] at h2
  rw [take_getD (by omega)]
  exact h2
 ·obtain rfl : y = k := by omega
  rw [take_getD (by omega)]
  refine ⟨hr, fun h0 => ?_⟩
  rw [take_getD (by omega)]
  exact hp h0
theorem take_more {t : List Rc} {k : Nat} (hk : k < t.length) : t.take (k + 1) = t.take k ++ [t.getD k zR] := by
 rw [List.take_succ_eq_append_getElem hk]
 simp [List.getD_eq_getElem?_getD, hk]
theorem find_more {M : List Rc} {r : Rc} (h : mayTab (M ++ [r])) (p : Int) : fR (M ++ [r]) p = if p = r.p then some r else fR M p := by
 have h' := (mayTab_iff _).1 h
 have hM : mayTab M := (mayTab_iff _).2 ⟨fun x hx => h'.1 x (List.mem_append_left _ hx), (List.pairwise_append.1 h'.2).1⟩
 rw [← with_snoc h]
 exact with_find hM (h'.1 r (List.mem_append_right _ (List.mem_singleton.2 rfl))) p
def OfTab (w : World) (n : Nat) (t : List Rc) (e : Ending) (w' : World) : Prop := ((mayTab t ∧ ∃ B, e = .returned (.tuple #[.map (some B), .int .i64 0]) ∧ TabAt w' B n t ∧ w.heap.size ≤ B) ∨ (¬ mayTab t ∧ e = .returned (.tuple #[.map none, .int .i64 110]))) ∧ Below w.heap.size w w'
theorem ptableof_any (A : Option Addr) (n c : Nat) (t : List Rc) (w : World) (ht : Recs w A n c t) (hn : n ≤ 1000) :
  Calls Tryz.prog 67 #[.slice A n c] w (OfTab w n t) := by
 have hmm := @run_makeMap Tryz.prog
 have hlen := ht.len
 have HT := Lh ht
 have IDX := Lh (fun (h : mayTab t) k (hk : k < n) => (mayTab_idx t).1 h k (by rw [hlen]; exact hk))
 have HLN := Lh hlen
 have ALL := Lh (show t.take n = t by rw [← hlen, List.take_length])
 clear ht hlen
 unfold OfTab
 go_enter Tryz.func67, Tryz.ntmps67
 go_wp2
 go_loopw [11] (fun i wr => ∃ k : Nat, k ≤ n ∧ i = .int .i64 k ∧ mayTab (t.take k) ∧ TabAt wr w.heap.size k (t.take k) ∧ Below w.heap.size w wr) (fun i _ => n - (intOf i).toNat)
 case atStart => exact ⟨0, Nat.zero_le _, rfl, trivial, TabAt.made w, (Below.refl _ _).alloc (Nat.le_refl _) _⟩
 case round =>
  clear hmm
  obtain ⟨k, hk, rfl, hmy, hT, hbw⟩ := hrel
  have hmax : k < maxLen := by unfold maxLen; omega
  have TT := Lh hT
  have BW := Lh hbw
  have MY := Lh hmy
  clear hT hbw hmy
  by_cases hkn : k < n
  ·have hki : (k : Int) < (n : Int) := by omega
   have HTR := HT.out.below BW.out
   obtain ⟨b, o, rfl, hlt, d0, d1, d2, d3, d4, d5, d6, d7⟩ := HTR.row hkn
   have his := HTR.is_at hkn
   have TM := Lh (take_more (t := t) (k := k) (by rw [HLN.out]; exact hkn))
   have MM := Lh (mayr_more (t := t) (k := k) (by rw [HLN.out]; exact hkn) MY.out)
   have IX := Lh (fun h => IDX.out h k hkn)
   obtain ⟨r, hr⟩ : ∃ r, r = t.getD k zR := ⟨_, rfl⟩
   rw [← hr] at d0 d1 d2 d3 d4 d5 d6 d7 his TM MM IX
   obtain ⟨x, hbx⟩ := rec_box wr r
   have x := Lh x
   have BX := Lh hbx
   have CK := Lh (fun wx => pcheck11_any r wx his)
   have HIS := Lh his
   clear his hr
   obtain ⟨w1, hw1⟩ : ∃ y, y = wr.alloc (.cells #[.int .i64 r.p, .int .u32 r.b, .int .u32 r.e, .int .i64 r.l, .int .u8 r.h, .int .i64 r.f, .bool r.q, .bool r.a] 64) := ⟨_, rfl⟩
   have hx := x.out
   rw [← hw1] at hx hbx
   have X1 := Lh hx
   have T1 := Lh (TT.out.below hbx)
   have B1 := Lh (BW.out.trans (hbx.mono BW.out.size))
   have hltx : wr.heap.size < w1.heap.size := hx.lt
   have R1 := HTR.below hbx
   obtain ⟨c0, c1, c2, c3, c4, c5, c6, c7⟩ := hx.rec
   clear x BX hx hbx HTR
   by_cases hk0 : k = 0
   ·have hd : decide (0 < k) = false := decide_eq_false (by omega)
    have HK0 := Lh hk0
    clear hk0
    go_upto_region 5 with fail
    rw [← hw1]
    clear hw1 d0 d1 d2 d3 d4 d5 d6 d7
    go_quiet (fail)
    have hbq : Below w1.heap.size w1 (w1.drewN nq) := below_drewN (Below.refl _ _) nq
    obtain ⟨w2, hw2⟩ : ∃ y, y = w1.drewN nq := ⟨_, rfl⟩
    rw [← hw2] at hbq ⊢
    have X2 := Lh (X1.out.below hbq hltx)
    have T2 := Lh (T1.out.below hbq)
    have B2 := Lh (B1.out.trans (hbq.mono B1.out.size))
    clear hw2 hbq c0 c1 c2 c3 c4 c5 c6 c7 X1 T1 B1 R1
    have hx2 := X2.out
    obtain ⟨c0, c1, c2, c3, c4, c5, c6, c7⟩ := hx2.rec
    clear hx2
    by_cases hm : mayR r
    ·have CK := Lh (show ∀ wx, Calls Tryz.prog 73 #[recV r] wx fun e w' => e = .returned (.int .i64 0) ∧ Below wx.heap.size wx w' from by have h := CK.out; rw [show rcE r = 0 from if_pos hm] at h; exact h)
     have MK := Lh (MM.out hm (fun h => absurd h (by have := HK0.out; omega)))
     have HMR := Lh hm
     clear hm
     go_wp2_with fail
     refine (CK.out _).mono ?_
     rintro e w3 ⟨rfl, hb3⟩
     have X3 := X2.out.below hb3 X2.out.lt
     have T3 := Lh (T2.out.below hb3)
     have B3 := Lh (B2.out.trans (hb3.mono B2.out.size))
     clear c0 c1 c2 c3 c4 c5 c6 c7 hb3
     obtain ⟨c0, c1, c2, c3, c4, c5, c6, c7⟩ := X3.rec
     clear X3
     have HF := Lh (show ∀ p, fR (t.take (k + 1)) p = if p = r.p then some r else fR (t.take k) p from fun p => by have h := MK.out; rw [TM.out] at h ⊢; exact find_more h p)
     go_wp2_with (first
      | (at_mapUpdate; refine wpList_tab_put _ rfl _ _ _ rfl w.heap.size k (t.take k) (t.take (k + 1)) rfl T3.out hmax r HIS.out (wf_pair HMR.out.1.1 HMR.out.1.2.1) rfl rfl HF.out ?_; intro w5 hT5 hG5; have T5 := Lh hT5; have G5 := Lh hG5; clear hT5 hG5)
      | go_in)
     go_roundw
     case rel => exact ⟨k + 1, by omega, by go_num, MK.out, T5.out, B3.out.grown G5.out B3.out.size (fun j hj => by injection hj with hj; omega)⟩
     case measure => simp [intOf]; omega
    ·have CK := Lh (show ∀ wx, Calls Tryz.prog 73 #[recV r] wx fun e w' => e = .returned (.int .i64 110) ∧ Below wx.heap.size wx w' from by have h := CK.out; rw [show rcE r = 110 from if_neg hm] at h; exact h)
     have NM := Lh (show ¬ mayTab t from fun h => hm (IX.out h).1)
     clear hm
     go_wp2_with fail
     refine (CK.out _).mono ?_
     rintro e w3 ⟨rfl, hb3⟩
     have B3 := Lh (B2.out.trans (hb3.mono B2.out.size))
     clear c0 c1 c2 c3 c4 c5 c6 c7 hb3
     go_wp2
     go_ret2
     exact ⟨.inr ⟨NM.out, rfl⟩, B3.out⟩
   ·obtain ⟨J, hJ⟩ : ∃ J, J = k - 1 := ⟨_, rfl⟩
    have hd : decide (0 < k) = true := decide_eq_true (by omega)
    have hJn : (J : Int) < (n : Int) := by omega
    have hJk : IntKind.i64.wrap ((k : Int) - 1) = (J : Int) := by rw [IntKind.wrap_i64]; omega
    obtain ⟨b', o', e', _, g0, _⟩ := R1.row (i := J) (by omega)
    injection e' with e'; injection e' with e1' e2' _; subst e1'; subst e2'
    rw [← hJ] at MM IX
    obtain ⟨s, hs⟩ : ∃ s, s = t.getD J zR := ⟨_, rfl⟩
    rw [← hs] at MM IX g0
    have HK0 := Lh (show 0 < k by omega)
    clear hs hJ hk0
    by_cases hle : r.p ≤ s.p
    ·have NM := Lh (show ¬ mayTab t from fun h => by have := (IX.out h).2 HK0.out; omega)
     have hle2 : decide (r.p ≤ s.p) = true := decide_eq_true hle
     clear hle
     go_upto_region 5 with fail
     rw [← hw1]
     clear hw1 d0 d1 d2 d3 d4 d5 d6 d7
     go_quiet (fail)
     have hbq : Below w1.heap.size w1 (w1.drewN nq) := below_drewN (Below.refl _ _) nq
     obtain ⟨w2, hw2⟩ : ∃ y, y = w1.drewN nq := ⟨_, rfl⟩
     rw [← hw2] at hbq ⊢
     have X2 := Lh (X1.out.below hbq hltx)
     have T2 := Lh (T1.out.below hbq)
     have B2 := Lh (B1.out.trans (hbq.mono B1.out.size))
     clear hw2 hbq c0 c1 c2 c3 c4 c5 c6 c7 X1 T1 B1 R1 g0
     go_wp2
     go_ret2
     exact ⟨.inr ⟨NM.out, rfl⟩, B2.out⟩
    ·have LT := Lh (show s.p < r.p by omega)
     have hle2 : decide (r.p ≤ s.p) = false := decide_eq_false hle
     clear hle
     go_upto_region 5 with fail
     rw [← hw1]
     clear hw1 d0 d1 d2 d3 d4 d5 d6 d7
     go_quiet (fail)
     have hbq : Below w1.heap.size w1 (w1.drewN nq) := below_drewN (Below.refl _ _) nq
     obtain ⟨w2, hw2⟩ : ∃ y, y = w1.drewN nq := ⟨_, rfl⟩
     rw [← hw2] at hbq ⊢
     have X2 := Lh (X1.out.below hbq hltx)
     have T2 := Lh (T1.out.below hbq)
     have B2 := Lh (B1.out.trans (hbq.mono B1.out.size))
     clear hw2 hbq c0 c1 c2 c3 c4 c5 c6 c7 X1 T1 B1 R1 g0
     have hx2 := X2.out
     obtain ⟨c0, c1, c2, c3, c4, c5, c6, c7⟩ := hx2.rec
     clear hx2
     by_cases hm : mayR r
     ·have CK := Lh (show ∀ wx, Calls Tryz.prog 73 #[recV r] wx fun e w' => e = .returned (.int .i64 0) ∧ Below wx.heap.size wx w' from by have h := CK.out; rw [show rcE r = 0 from if_pos hm] at h; exact h)
      have MK := Lh (MM.out hm (fun _ => LT.out))
      have HMR := Lh hm
      clear hm
      go_wp2_with fail
      refine (CK.out _).mono ?_
      rintro e w3 ⟨rfl, hb3⟩
      have X3 := X2.out.below hb3 X2.out.lt
      have T3 := Lh (T2.out.below hb3)
      have B3 := Lh (B2.out.trans (hb3.mono B2.out.size))
      clear c0 c1 c2 c3 c4 c5 c6 c7 hb3
      obtain ⟨c0, c1, c2, c3, c4, c5, c6, c7⟩ := X3.rec
      clear X3
      have HF := Lh (show ∀ p, fR (t.take (k + 1)) p = if p = r.p then some r else fR (t.take k) p from fun p => by have h := MK.out; rw [TM.out] at h ⊢; exact find_more h p)
      go_wp2_with (first
       | (at_mapUpdate; refine wpList_tab_put _ rfl _ _ _ rfl w.heap.size k (t.take k) (t.take (k + 1)) rfl T3.out hmax r HIS.out (wf_pair HMR.out.1.1 HMR.out.1.2.1) rfl rfl HF.out ?_; intro w5 hT5 hG5; have T5 := Lh hT5; have G5 := Lh hG5; clear hT5 hG5)
       | go_in)
      go_roundw
      case rel => exact ⟨k + 1, by omega, by go_num, MK.out, T5.out, B3.out.grown G5.out B3.out.size (fun j hj => by injection hj with hj; omega)⟩
      case measure => simp [intOf]; omega
     ·have CK := Lh (show ∀ wx, Calls Tryz.prog 73 #[recV r] wx fun e w' => e = .returned (.int .i64 110) ∧ Below wx.heap.size wx w' from by have h := CK.out; rw [show rcE r = 110 from if_neg hm] at h; exact h)
      have NM := Lh (show ¬ mayTab t from fun h => hm (IX.out h).1)
      clear hm
      go_wp2_with fail
      refine (CK.out _).mono ?_
      rintro e w3 ⟨rfl, hb3⟩
      have B3 := Lh (B2.out.trans (hb3.mono B2.out.size))
      clear c0 c1 c2 c3 c4 c5 c6 c7 hb3
      go_wp2
      go_ret2
      exact ⟨.inr ⟨NM.out, rfl⟩, B3.out⟩
  ·obtain rfl : k = n := by omega
   rw [ALL.out] at MY TT
   go_wp2
   go_ret2
   exact ⟨.inl ⟨MY.out, _, rfl, TT.out, Nat.le_refl _⟩, BW.out⟩
end Go.Proofs.YtifgcfepbenpjaaGreat
namespace Go.Proofs.YtifgcfepbenpjaaGreat
open Go.RowKit Go.Maps
theorem ptable11_any (A : Option Addr) (n c : Nat) (l : List Txt) (w : World) (hl : Texts w A n c l) (hn : n ≤ 1000) (hs : ShortT l n) :
  Calls Tryz.prog 42 #[.slice A n c] w (PutOut w (tabR l)) := by
 have hmm := @run_makeMap Tryz.prog
 have hb : Below w.heap.size w (w.alloc (.map #[] 0)) := (Below.refl _ _).alloc (Nat.le_refl _) _
 have W := Lh (pwith_any w.heap.size 0 [] A n c l (w.alloc (.map #[] 0)) (by trivial) (TabAt.made w) (by omega) (hl.below hb) hn hs)
 have B := Lh hb
 unfold PutOut
 unfold WithOut at W
 rw [show tabTo [] l = tabR l from rfl] at W
 clear hl hs hb
 go_enter Tryz.func42, Tryz.ntmps42
 go_wp2_with fail
 refine W.out.mono ?_
 rintro e w1 ⟨A1, c1, rfl, hO, hg⟩
 have O := Lh (hO.lower B.out.size)
 have B1 := Lh (B.out.grown hg B.out.size (fun k hk => by injection hk with hk; omega))
 clear hO hg hmm
 go_wp2
 go_ret2
 exact ⟨A1, c1, rfl, O.out, B1.out⟩
theorem pnotes11_any (A : Option Addr) (n c : Nat) (t : List Rc) (w : World) (ht : Recs w A n c t) (hn : n ≤ 1000) :
  Calls Tryz.prog 47 #[.slice A n c] w (NotesOut w (rnL t) (rnE t)) := by
 obtain ⟨i1, hi1, hy0, hy1, hy2⟩ := info_parts texts_info
 have hml : (1000 : Nat) ≤ maxLen := by decide
 have T := Lh (ptableof_any A n c t w ht hn)
 have HT := Lh ht
 have hlen := ht.len
 unfold OfTab at T
 unfold NotesOut
 by_cases hm : mayTab t
 ·rw [show rnL t = t.map recT from if_pos hm, show rnE t = 0 from if_pos hm, List.length_map, hlen]
  have MAY := Lh (fun k (hk : k < n) => ((mayTab_idx t).1 hm k (by rw [hlen]; exact hk)).1)
  have TF := Lh (show (t.map recT).take n = t.map recT by rw [← hlen, ← List.length_map (f := recT), List.take_length])
  have TS := Lh (fun k (hk : k < n) => show (t.map recT).take (k + 1) = (t.map recT).take k ++ [recT (t.getD k zR)] by
   rw [List.take_succ_eq_append_getElem (by rw [List.length_map, hlen]; exact hk)]
   simp [List.getD_eq_getElem?_getD, show k < t.length by rw [hlen]; exact hk])
  obtain ⟨Z, hZ⟩ : ∃ Z, Z = t.map recT := ⟨_, rfl⟩
  rw [← hZ] at TF TS ⊢
  have HM := Lh hm
  clear ht hm hlen hZ
  go_enter Tryz.func47, Tryz.ntmps47
  go_wp2_with fail
  refine T.out.mono ?_
  rintro e w1 ⟨⟨hm, B, rfl, hT, hB⟩ | ⟨hm, rfl⟩, hb1⟩
  ·have B1 := Lh hb1
   clear hm hT hB hb1 T
   go_wp2
   go_loopw [6, 21] (fun v i wr => ∃ k : Nat, k ≤ n ∧ i = .int .i64 k ∧ (∃ A' c', v = .slice A' k c' ∧ OwnTexts wr w.heap.size A' k c' (Z.take k)) ∧ Below w.heap.size w wr) (fun _ i _ => n - (intOf i).toNat)
   case atStart => exact ⟨0, Nat.zero_le _, rfl, ⟨none, 0, rfl, OwnTexts.nil _ _⟩, B1.out⟩
   case round =>
    clear B1
    obtain ⟨k, hk, rfl, ⟨A1, c1, rfl, hown⟩, hbel⟩ := hrel
    by_cases hkn : k < n
    ·have hki : (k : Int) < (n : Int) := by omega
     have HW := HT.out.below hbel
     obtain ⟨b, o, rfl, hlt, d0, d1, d2, d3, d4, d5, d6, d7⟩ := HW.row hkn
     have his := HW.is_at hkn
     have hmy := MAY.out k hkn
     have hst := TS.out k hkn
     obtain ⟨r, hr⟩ : ∃ r, r = t.getD k zR := ⟨_, rfl⟩
     rw [← hr] at d0 d1 d2 d3 d4 d5 d6 d7 his hmy hst
     obtain ⟨Q, hQ⟩ : ∃ Q, Q = Z.take k := ⟨_, rfl⟩
     rw [← hQ] at hown hst
     have HST := Lh hst
     have NT := Lh (show ∀ wx, Calls Tryz.prog 38 #[recV r] wx fun e w' => ∃ A c, e = .returned (.tuple #[.slice A 14 c, .int .i64 0]) ∧ w'.ownsRow wx.heap.size 5 1 (.slice A 14 c) 14 (ints .u8 (recT r)) ∧ Below wx.heap.size wx w' from fun wx => by
      have h := pnote11_any r wx his
      unfold RowOut at h
      rw [show ntB r = recT r from if_pos hmy, show rcE r = 0 from if_pos hmy, recT_length] at h
      exact h)
     obtain ⟨x, hbx⟩ := rec_box wr r
     obtain ⟨c0, c1', c2', c3, c4, c5, c6, c7⟩ := x.rec
     have O := Lh (hown.below hbx)
     have B := Lh (hbel.trans (hbx.mono hbel.size))
     clear hr hQ hown hbel his hmy hst HW x hbx
     go_wp2_with fail
     refine (NT.out _).mono ?_
     rintro e w2 ⟨A2, c2, rfl, hown2, hb2⟩
     have O2 := Lh (owns_base hown2 B.out.size)
     have O1 := Lh (O.out.below hb2)
     have B2 := Lh (B.out.trans (hb2.mono B.out.size))
     clear hown2 hb2 d0 d1 d2 d3 d4 d5 d6 d7 c0 c1' c2' c3 c4 c5 c6 c7
     go_wp2_with (at_builtin; (refine wpList_text w w2 rfl (.tmp 30) (.tmp 32) _ rfl i1 _ Tryz.underlying103 hi1 hy0 hy1 hy2 rfl w.heap.size A1 k c1 Q rfl O1.out A2 14 c2 (recT r) (recT_byte r) O2.out rfl (by omega) (by omega) B2.out (Nat.le_refl _) ?_); intro A3 c3 w3 hown3 hbel3; have O3 := Lh hown3; have B3 := Lh hbel3; clear hown3 hbel3)
     go_roundw
     case rel => exact ⟨k + 1, by omega, by go_num, ⟨A3, c3, rfl, by rw [HST.out]; exact O3.out⟩, B3.out⟩
     case measure => simp [intOf]; omega
    ·obtain rfl : k = n := by omega
     rw [TF.out] at hown
     have O := Lh hown
     have B := Lh hbel
     clear hown hbel
     go_wp2
     go_ret2
     exact ⟨A1, c1, rfl, O.out, B.out⟩
  ·exact absurd HM.out hm
 ·rw [show rnL t = [] from if_neg hm, show rnE t = 110 from if_neg hm]
  have HM := Lh hm
  clear ht hm hlen
  go_enter Tryz.func47, Tryz.ntmps47
  go_wp2_with fail
  refine T.out.mono ?_
  rintro e w1 ⟨⟨hm, B, rfl, hT, hB⟩ | ⟨hm, rfl⟩, hb1⟩
  ·exact absurd hm HM.out
  ·have B1 := Lh hb1
   clear hm hb1
   go_wp2
   go_ret2
   exact ⟨none, 0, rfl, OwnTexts.nil _ _, B1.out⟩
end Go.Proofs.YtifgcfepbenpjaaGreat
