/- Texts of layers 1 to 12, joined (RecR5 JrnR RecS RecO MetO). -/
import Derived.Test.YtifgcfepbenpjaaGreatOa36
import Derived.BigQuiet
import Derived.Lib.SmallJoins
set_option maxRecDepth 100000
set_option maxHeartbeats 12800000
namespace Go.Proofs.YtifgcfepbenpjaaGreat
open Go.RowKit
set_option linter.unusedVariables false
theorem rec_same {a b : List Rc} {n : Nat} (ha : a.length = n) (hb : b.length = n) (h : ∀ y, y < n → a.getD y zR = b.getD y zR) : a = b := by
 refine List.ext_getElem (ha.trans hb.symm) fun i h1 h2 => ?_
 have := h i (by omega)
 simpa [List.getD_eq_getElem?_getD, h1, h2] using this
theorem same_len (A : Option Addr) (n c : Nat) (A' : Option Addr) (n' c' : Nat) (w : World) (hne : n ≠ n') :
  Calls Tryz.prog 30 #[.slice A n c, .slice A' n' c'] w fun e w' => e = .returned (.bool false) ∧ ∃ q, w' = w.drewN q := by
 have h2 : ¬ (n : Int) = (n' : Int) := by omega
 go_enter Tryz.func30, Tryz.ntmps30
 go_wp2
 go_ret
 exact ⟨rfl, 0, rfl⟩
theorem same11_any (A : Option Addr) (n c : Nat) (a : List Rc) (A' : Option Addr) (n' c' : Nat) (b : List Rc) (w : World) (ha : Recs w A n c a) (hb : Recs w A' n' c' b) :
  Calls Tryz.prog 30 #[.slice A n c, .slice A' n' c'] w fun e w' => e = .returned (.bool (decide (a = b))) ∧ ∃ q, w' = w.drewN q := by
 by_cases hn : n = n'
 ·subst hn
  have HA := Lh ha
  have HB := Lh hb
  have hcm := Nat.le_trans ha.cap ha.max
  unfold maxLen at hcm
  have YES := Lh fun h => (show decide (a = b) = true from decide_eq_true (rec_same ha.len hb.len h))
  have NO := Lh fun k (h : a.getD k zR ≠ b.getD k zR) => (show decide (a = b) = false from decide_eq_false fun e => h (by rw [e]))
  obtain ⟨R, hR⟩ : ∃ R, R = decide (a = b) := ⟨_, rfl⟩
  rw [← hR] at YES NO ⊢
  clear ha hb hR
  go_enter Tryz.func30, Tryz.ntmps30
  go_wp2
  go_loopw [5] (fun i wr => ∃ k : Nat, k ≤ n ∧ i = .int .i64 k ∧ (∀ y, y < k → a.getD y zR = b.getD y zR) ∧ ∃ q, wr = w.drewN q) (fun i _ => n - (intOf i).toNat)
  case atStart => exact ⟨0, Nat.zero_le _, rfl, fun y hy => by omega, 0, rfl⟩
  case round =>
   obtain ⟨k, hk, rfl, hall, q, rfl⟩ := hrel
   have ALL := Lh hall
   clear hall
   by_cases hkn : k < n
   ·obtain ⟨b1, o1, rfl, hlt1, c0, c1, c2, c3, c4, c5, c6, c7⟩ := HA.out.row hkn
    obtain ⟨b2, o2, rfl, hlt2, d0, d1, d2, d3, d4, d5, d6, d7⟩ := HB.out.row hkn
    have NOK := Lh (NO.out k)
    obtain ⟨r, hr⟩ : ∃ x, x = a.getD k zR := ⟨_, rfl⟩
    obtain ⟨s, hs⟩ : ∃ x, x = b.getD k zR := ⟨_, rfl⟩
    rw [← hr] at c0 c1 c2 c3 c4 c5 c6 c7 NOK
    rw [← hs] at d0 d1 d2 d3 d4 d5 d6 d7 NOK
    have HX := Lh hr
    have HY := Lh hs
    have eqr := eq_rec r s
    clear hr hs
    by_cases hxy : r = s
    ·rw [decide_eq_true hxy] at eqr
     have HXY := Lh hxy
     clear hxy
     go_wp2
     go_quiet (fail)
     go_wp2
     go_roundw
     case rel =>
      refine ⟨k + 1, by omega, by go_num, fun y' hy' => ?_, _, rfl⟩
      rcases Nat.lt_or_ge y' k with h' | h'
      ·exact ALL.out y' h'
      ·obtain rfl : y' = k := by omega
       rw [← HX.out, ← HY.out]
       exact HXY.out
     case measure => simp [intOf]; omega
    ·rw [decide_eq_false hxy] at eqr
     have HN := Lh (NOK.out hxy)
     clear hxy
     go_wp2
     go_quiet (fail)
     go_wp2
     go_ret
     rw [HN.out]
     exact ⟨rfl, _, by rw [World.drewN_drewN]⟩
   ·obtain rfl : k = n := by omega
    have HY := Lh (YES.out ALL.out)
    go_wp2
    go_ret
    rw [HY.out]
    exact ⟨rfl, q, rfl⟩
 ·rw [show decide (a = b) = false from decide_eq_false fun e => hn (by rw [← ha.len, ← hb.len, e])]
  exact same_len A n c A' n' c' w hn
theorem nums_jrn (w : World) (g n m : Int) (b B : Nat) (hb : b = w.heap.size) (hB : w.heap.size < B) : Seq (w.alloc (.cells #[.int .u64 g, .int .u64 1, .int .u64 n, .int .u64 m, .int .u64 0] 27)) B (some ⟨b, 0, none⟩) (ints .u64 [g, 1, n, m, 0]) := lit_row w 27 .u64 [g, 1, n, m, 0] _ _ _ rfl hb hB
theorem lit_sz5 (w : World) (b B : Nat) (hb : b = w.heap.size) (hB : w.heap.size < B) : Seq (w.alloc (.cells #[.int .i64 8, .int .i64 1, .int .i64 1, .int .i64 1, .int .i64 1] 3)) B (some ⟨b, 0, none⟩) (ints .i64 sz5) := lit_row w 3 .i64 sz5 _ b B rfl hb hB
theorem rsector_any (g n : Int) (hg : isG g) (hn : 0 ≤ n ∧ n ≤ 255) (A : Option Addr) (k c : Nat) (b : Txt) (w : World) (h : Arg w .u8 A k c b) (hk : k ≤ 20) :
  Calls Tryz.prog 102 #[.int .u64 g, .int .i64 n, .slice A k c] w fun e w' => ∃ A' c', e = .returned (.slice A' 32 c') ∧ w'.ownsRow w.heap.size 5 1 (.slice A' 32 c') 32 (ints .u8 (jT g n b)) ∧ Below w.heap.size w w' := by
 obtain ⟨i0, hi0, hz0, hz1, hz2⟩ := info_parts byte_info
 have hml : (1000 : Nat) ≤ maxLen := by decide
 have e1 : IntKind.u64.wrap n = n := wraps_u64 n hn.1 (by omega)
 have e2 : IntKind.u64.wrap (k : Int) = k := wraps_u64 k (by omega) (by omega)
 have hb1 : Below w.heap.size w (w.alloc (.cells #[.int .u64 g, .int .u64 1, .int .u64 n, .int .u64 (k : Int), .int .u64 0] 27)) := (Below.refl _ _).alloc (Nat.le_refl _) _
 obtain ⟨w1, hw1⟩ : ∃ x, x = w.alloc (.cells #[.int .u64 g, .int .u64 1, .int .u64 n, .int .u64 (k : Int), .int .u64 0] 27) := ⟨_, rfl⟩
 have hL := nums_jrn w g n k w.heap.size w1.heap.size rfl (by rw [hw1]; simp)
 rw [← hw1] at hb1 hL
 have hb2 : Below w1.heap.size w1 (w1.alloc (.cells #[.int .i64 8, .int .i64 1, .int .i64 1, .int .i64 1, .int .i64 1] 3)) := (Below.refl _ _).alloc (Nat.le_refl _) _
 have hZ := lit_sz5 w1 w1.heap.size (w1.alloc (.cells #[.int .i64 8, .int .i64 1, .int .i64 1, .int .i64 1, .int .i64 1] 3)).heap.size rfl (by simp)
 obtain ⟨w2, hw2⟩ : ∃ x, x = w1.alloc (.cells #[.int .i64 8, .int .i64 1, .int .i64 1, .int .i64 1, .int .i64 1] 3) := ⟨_, rfl⟩
 rw [← hw2] at hb2 hZ
 have hL2 := (hL.below hb2).more hb2.size
 have hB := hb1.trans (hb2.mono hb1.size)
 have RW := Lh (row_any (some ⟨w.heap.size, 0, none⟩) (some ⟨w1.heap.size, 0, none⟩) 5 5 5 [g, 1, n, k, 0] sz5 w2 hZ okB_sz5 hL2 rfl rfl (by
  intro z hz
  simp only [List.mem_cons, List.not_mem_nil, or_false] at hz
  obtain ⟨hg0, hg1⟩ := hg
  unfold isWord
  rcases hz with rfl | rfl | rfl | rfl | rfl <;> omega))
 have hrl := jrow_length g n k
 have hs1 : w1.heap.size = w.heap.size + 1 := by rw [hw1]; simp
 have HA := Lh h
 have HB := Lh hB
 have hbl := h.len
 have HBL := Lh hbl
 have hge : w.heap.size ≤ w2.heap.size := hB.size
 rw [hs1] at RW
 clear h hL hL2 hZ hb1 hb2 hB hbl hg hn
 go_enter Tryz.func102, Tryz.ntmps102
 go_wp2_with fail
 rw [← hw1, ← hw2]
 clear hw1 hw2 hs1
 refine RW.out.mono ?_
 rintro e w3 ⟨A3, c3, rfl, hown, hb3⟩
 rw [show rowTo [g, 1, n, (k : Int), 0] sz5 5 = jrow g n k from rfl] at hown ⊢
 rw [hrl] at hown ⊢
 have B3 := Lh (HB.out.trans (hb3.mono HB.out.size))
 have O3 := Lh (owns_base hown hge)
 have HA3 := Lh (HA.out.below B3.out)
 have hg3 : w.heap.size ≤ w3.heap.size := B3.out.size
 clear hown hb3 RW hrl hge
 obtain ⟨m, hm⟩ : ∃ m : Nat, 20 - (k : Int) = (m : Int) := ⟨20 - k, by omega⟩
 have hnm : k + m = 20 := by omega
 have hsz3 : w.heap.size ≤ w3.heap.size := hg3
 have hM1 : 12 + k ≤ maxLen := by omega
 go_wp2_with (first
  | (at_builtin; (refine wpList_app _ rfl (.tmp 17) (.tmp 18) _ rfl w.heap.size 5 i0 _ 1 Tryz.underlying42 hi0 hz0 hz1 hz2 rfl _ 12 _ rfl O3.out w3.heap.size A k c (ints .u8 b) rfl (by rw [ints_length, HBL.out]) HA3.out.seq (ints_one _ _) hM1 (by omega) hg3 ?_); intro v4 w4 hown4 hg4 hob4; obtain ⟨A4, c4, rfl⟩ := owns_slice hown4; have hsz4 : w.heap.size ≤ w4.heap.size := Nat.le_trans hsz3 hg4.size; have HL4 := Lh (O3.out.lt); have O4 := Lh hown4; have B4 := Lh (B3.out.grown hg4 hg3 (fun g e => (HL4.out g e).1)); clear hown4 hg4 hob4)
  | (at_builtin; (refine wpList_noughts _ rfl (.tmp 19) (.tmp 22) rfl w.heap.size _ (12 + k) _ rfl O4.out m rfl (by omega) (by omega) hsz4 ?_); intro v5 w5 hown5 hg5 hob5; obtain ⟨A5, c5, rfl⟩ := owns_slice hown5; have HL5 := Lh (O4.out.lt); have O5 := Lh hown5; have B5 := Lh (B4.out.grown hg5 hsz4 (fun g e => (HL5.out g e).1)); clear hown5 hg5 hob5))
 go_ret
 have e32 : 12 + k + m = 32 := by omega
 have hO := O5.out
 rw [e32] at hO ⊢
 refine ⟨A5, c5, rfl, ?_, B5.out⟩
 have : ints .u8 (jT g n b) = ints .u8 (jrow g n k) ++ ints .u8 b ++ List.replicate m (.int .u8 0) := by
  unfold jT
  rw [ints_app, ints_app, HBL.out, show 20 - k = m by omega]
  simp [ints]
 rw [this]
 exact hO
def cmpI (a b : Int) : Int := if a < b then -1 else if b < a then 1 else 0
theorem cmpI_neg (a b : Int) : decide (cmpI a b < 0) = decide (a < b) := by
 unfold cmpI
 by_cases h : a < b
 ·simp [h]
 ·by_cases k : b < a <;> simp [h, k]
theorem pnan_any (n : Int) (w : World) : Calls Tryz.prog 178 #[.int .i64 n] w fun e w' => e = .returned (.bool false) ∧ w' = w := by
 have hb : (n != n) = false := by simp
 go_enter Tryz.func178, Tryz.ntmps178
 go_wp2
 go_ret
 exact ⟨rfl, rfl⟩
theorem pcompare_any (a b : Int) (w : World) : Calls Tryz.prog 153 #[.int .i64 a, .int .i64 b] w fun e w' => e = .returned (.int .i64 (cmpI a b)) ∧ w' = w := by
 have N := Lh (fun n wx => pnan_any n wx)
 by_cases h : a < b
 ·rw [show cmpI a b = -1 from if_pos h]
  go_enter Tryz.func153, Tryz.ntmps153
  go_wp2_with fail
  refine (N.out _ _).mono ?_
  rintro e w1 ⟨rfl, rfl⟩
  go_wp2_with fail
  refine (N.out _ _).mono ?_
  rintro e w2 ⟨rfl, rfl⟩
  go_wp2
  go_ret
  exact ⟨rfl, rfl⟩
 ·by_cases k : b < a
  ·rw [show cmpI a b = 1 from (if_neg h).trans (if_pos k)]
   go_enter Tryz.func153, Tryz.ntmps153
   go_wp2_with fail
   refine (N.out _ _).mono ?_
   rintro e w1 ⟨rfl, rfl⟩
   go_wp2_with fail
   refine (N.out _ _).mono ?_
   rintro e w2 ⟨rfl, rfl⟩
   go_wp2
   go_ret
   exact ⟨rfl, rfl⟩
  ·rw [show cmpI a b = 0 from (if_neg h).trans (if_neg k)]
   go_enter Tryz.func153, Tryz.ntmps153
   go_wp2_with fail
   refine (N.out _ _).mono ?_
   rintro e w1 ⟨rfl, rfl⟩
   go_wp2_with fail
   refine (N.out _ _).mono ?_
   rintro e w2 ⟨rfl, rfl⟩
   go_wp2
   go_ret
   exact ⟨rfl, rfl⟩
theorem pclos_any (r s : Rc) (w : World) : Calls Tryz.prog 152 #[recV r, recV s] w fun e w' => e = .returned (.int .i64 (cmpI r.p s.p)) ∧ Below w.heap.size w w' := by
 obtain ⟨x, hbx⟩ := rec_box w r
 obtain ⟨y, hby⟩ := rec_box (w.alloc (.cells (recL r).toArray 64)) s
 have x2 := x.below hby x.lt
 have B := Lh (hbx.trans (hby.mono hbx.size))
 have C := Lh (fun wx => pcompare_any r.p s.p wx)
 obtain ⟨c0, c1, c2, c3, c4, c5, c6, c7⟩ := x2.rec
 obtain ⟨d0, d1, d2, d3, d4, d5, d6, d7⟩ := y.rec
 clear x y hbx hby x2 c1 c2 c3 c4 c5 c6 c7 d1 d2 d3 d4 d5 d6 d7
 go_enter Tryz.func152, Tryz.ntmps152
 go_wp2_with fail
 refine (C.out _).mono ?_
 rintro e w1 ⟨rfl, rfl⟩
 go_wp2
 go_ret
 exact ⟨rfl, B.out⟩
theorem plen64_0 (w : World) : Calls Tryz.prog 201 #[.int .u64 0] w fun e w' => (∃ k, e = .returned (.int .i64 k)) ∧ w' = w := by
 go_enter Tryz.func201, Tryz.ntmps201
 go_wp2
 go_ret
 exact ⟨⟨_, rfl⟩, rfl⟩
theorem plen64_1 (w : World) : Calls Tryz.prog 201 #[.int .u64 1] w fun e w' => (∃ k, e = .returned (.int .i64 k)) ∧ w' = w := by
 go_enter Tryz.func201, Tryz.ntmps201
 go_wp2
 go_ret
 exact ⟨⟨_, rfl⟩, rfl⟩
theorem plen64_2 (w : World) : Calls Tryz.prog 201 #[.int .u64 2] w fun e w' => (∃ k, e = .returned (.int .i64 k)) ∧ w' = w := by
 go_enter Tryz.func201, Tryz.ntmps201
 go_wp2
 go_ret
 exact ⟨⟨_, rfl⟩, rfl⟩
theorem plen64_3 (w : World) : Calls Tryz.prog 201 #[.int .u64 3] w fun e w' => (∃ k, e = .returned (.int .i64 k)) ∧ w' = w := by
 go_enter Tryz.func201, Tryz.ntmps201
 go_wp2
 go_ret
 exact ⟨⟨_, rfl⟩, rfl⟩
end Go.Proofs.YtifgcfepbenpjaaGreat
namespace Go.Proofs.YtifgcfepbenpjaaGreat
open Go.RowKit Go.OpenShut Go.ChangeShapes Go.WideShapes Go.Deep Go.Joins
set_option linter.unusedVariables false
section
variable {P : Program} {w : World} {base : Nat} {H : Type} {enc : TypeId × Value → H}
end
end Go.Proofs.YtifgcfepbenpjaaGreat
namespace Go.Proofs.YtifgcfepbenpjaaGreat
open Go.RowKit Go.OpenShut Go.ChangeShapes Go.WideShapes Go.Deep Go.Joins
set_option linter.unusedVariables false
end Go.Proofs.YtifgcfepbenpjaaGreat
