/- Texts of layers 1 to 12, joined (PlP2 Recs RecDup). -/
import Derived.Test.YtifgcfepbenpjaaGreatOa18
import Derived.Deep.RegionHeld3
import Derived.Deep.Cut
import Derived.Laws.StructEq
import Derived.Maps.AppendAt
import Derived.Deep.Slices
set_option maxRecDepth 100000
set_option maxHeartbeats 12800000
namespace Go.Proofs.YtifgcfepbenpjaaGreat
open Go.RowKit
set_option linter.unusedVariables false
abbrev Bnd := Int × Int × Int
def okBnd (b : Bnd) : Prop := b.2.1 ≤ b.1 ∧ b.1 ≤ b.2.2
def Bnds (w : World) (g n : Nat) (bs : List Bnd) : Prop := bs.length = n ∧ g < w.heap.size ∧ ∀ j, j < n → w.cell? ⟨g, j * 3, none⟩ = some (.int .i64 (bs.getD j (0, 0, 0)).1) ∧ w.cell? ⟨g, j * 3 + 1, none⟩ = some (.int .i64 (bs.getD j (0, 0, 0)).2.1) ∧ w.cell? ⟨g, j * 3 + 2, none⟩ = some (.int .i64 (bs.getD j (0, 0, 0)).2.2)
theorem Bnds.below {w w' : World} {g n : Nat} {bs : List Bnd} (h : Bnds w g n bs) (hb : Below w.heap.size w w') : Bnds w' g n bs :=
 ⟨h.1, Nat.lt_of_lt_of_le h.2.1 hb.size, fun j hj => by obtain ⟨a, b, c⟩ := h.2.2 j hj; exact ⟨(hb.cell h.2.1).trans a, (hb.cell h.2.1).trans b, (hb.cell h.2.1).trans c⟩⟩
theorem within_any (g n : Nat) (bs : List Bnd) (w : World) (h : Bnds w g n bs) (hn : n ≤ 100) (r : Bool) (hy : (∀ j, j < n → okBnd (bs.getD j (0, 0, 0))) → r = true) (hno : ∀ j, j < n → ¬ okBnd (bs.getD j (0, 0, 0)) → r = false) :
  Calls Tryz.prog 61 #[.slice (some ⟨g, 0, none⟩) n n] w fun e w' => e = .returned (.bool r) ∧ Below w.heap.size w w' := by
 have H := Lh h
 have HY := Lh hy
 have HN := Lh hno
 clear h hy hno
 go_enter Tryz.func61, Tryz.ntmps61
 go_wp2
 go_loopw [7] (fun i wr => ∃ k : Nat, k ≤ n ∧ i = .int .i64 k ∧ (∀ y, y < k → okBnd (bs.getD y (0, 0, 0))) ∧ Below w.heap.size w wr) (fun i _ => n - (intOf i).toNat)
 case atStart => exact ⟨0, Nat.zero_le _, rfl, fun y hy => by omega, Below.refl _ _⟩
 case round =>
  obtain ⟨k, hk, rfl, hall, hbel⟩ := hrel
  have ALL := Lh hall
  have BEL := Lh hbel
  by_cases hkn : k < n
  ·obtain ⟨c0, c1, c2⟩ := (H.out.below hbel).2.2 k hkn
   clear hall hbel
   obtain ⟨b, hb⟩ : ∃ b, b = bs.getD k (0, 0, 0) := ⟨_, rfl⟩
   rw [← hb] at c0 c1 c2
   obtain ⟨x, l, m⟩ := b
   simp only at c0 c1 c2
   have HB := Lh hb
   clear hb
   have y := Blk.new wr 133 [.int .i64 x, .int .i64 l, .int .i64 m]
   have d0 := y.cell 0
   have d1 := y.cell 1
   have d2 := y.cell 2
   simp only [List.getElem?_cons_zero, List.getElem?_cons_succ] at d0 d1 d2
   have B2 := Lh (BEL.out.alloc BEL.out.size (.cells #[.int .i64 x, .int .i64 l, .int .i64 m] 133))
   clear y
   by_cases h1 : x < l
   ·have HR := Lh (HN.out k hkn (by rw [← HB.out]; unfold okBnd; simp only; omega))
    go_wp2
    go_ret
    rw [HR.out]
    exact ⟨rfl, B2.out⟩
   ·by_cases h2 : m < x
    ·have HR := Lh (HN.out k hkn (by rw [← HB.out]; unfold okBnd; simp only; omega))
     go_wp2
     go_ret
     rw [HR.out]
     exact ⟨rfl, B2.out⟩
    ·have HO := Lh (show okBnd (bs.getD k (0, 0, 0)) by rw [← HB.out]; unfold okBnd; simp only; omega)
     go_wp2
     go_roundw
     case rel =>
      refine ⟨k + 1, by omega, by go_num, fun y hy => ?_, B2.out⟩
      rcases Nat.lt_or_ge y k with h | h
      ·exact ALL.out y h
      ·obtain rfl : y = k := by omega
       exact HO.out
     case measure => simp [intOf]; omega
  ·obtain rfl : k = n := by omega
   have HR := Lh (HY.out fun y hy => ALL.out y hy)
   clear hall hbel
   go_wp2
   go_ret
   rw [HR.out]
   exact ⟨rfl, BEL.out⟩
theorem bnds6 (w : World) (g : Nat) (t : TypeId) (a0 a1 a2 b0 b1 b2 c0 c1 c2 d0 d1 d2 e0 e1 e2 f0 f1 f2 : Int) (hg : g = w.heap.size) :
  Bnds (w.alloc (.cells #[.int .i64 a0, .int .i64 a1, .int .i64 a2, .int .i64 b0, .int .i64 b1, .int .i64 b2, .int .i64 c0, .int .i64 c1, .int .i64 c2, .int .i64 d0, .int .i64 d1, .int .i64 d2, .int .i64 e0, .int .i64 e1, .int .i64 e2, .int .i64 f0, .int .i64 f1, .int .i64 f2] t)) g 6 [(a0, a1, a2), (b0, b1, b2), (c0, c1, c2), (d0, d1, d2), (e0, e1, e2), (f0, f1, f2)] := by
 subst hg
 have y := Blk.new w t [.int .i64 a0, .int .i64 a1, .int .i64 a2, .int .i64 b0, .int .i64 b1, .int .i64 b2, .int .i64 c0, .int .i64 c1, .int .i64 c2, .int .i64 d0, .int .i64 d1, .int .i64 d2, .int .i64 e0, .int .i64 e1, .int .i64 e2, .int .i64 f0, .int .i64 f1, .int .i64 f2]
 refine ⟨rfl, y.lt, fun j hj => ?_⟩
 match j, hj with
 | 0, _ => exact ⟨y.cell 0, y.cell 1, y.cell 2⟩
 | 1, _ => exact ⟨y.cell 3, y.cell 4, y.cell 5⟩
 | 2, _ => exact ⟨y.cell 6, y.cell 7, y.cell 8⟩
 | 3, _ => exact ⟨y.cell 9, y.cell 10, y.cell 11⟩
 | 4, _ => exact ⟨y.cell 12, y.cell 13, y.cell 14⟩
 | 5, _ => exact ⟨y.cell 15, y.cell 16, y.cell 17⟩
theorem bnds2 (w : World) (g : Nat) (t : TypeId) (a0 a1 a2 b0 b1 b2 : Int) (hg : g = w.heap.size) :
  Bnds (w.alloc (.cells #[.int .i64 a0, .int .i64 a1, .int .i64 a2, .int .i64 b0, .int .i64 b1, .int .i64 b2] t)) g 2 [(a0, a1, a2), (b0, b1, b2)] := by
 subst hg
 have y := Blk.new w t [.int .i64 a0, .int .i64 a1, .int .i64 a2, .int .i64 b0, .int .i64 b1, .int .i64 b2]
 refine ⟨rfl, y.lt, fun j hj => ?_⟩
 match j, hj with
 | 0, _ => exact ⟨y.cell 0, y.cell 1, y.cell 2⟩
 | 1, _ => exact ⟨y.cell 3, y.cell 4, y.cell 5⟩
theorem may_bnds (P T A M W Q L : Int) (hL : 1 ≤ P → P ≤ 3 → L = P + 2) :
  ((∀ j, j < 6 → okBnd (([(P, 1, 3), (T, 1, 16), (A, L, 32), (M, 1, P), (W, 1, 4), (Q, 4, 64)] : List Bnd).getD j (0, 0, 0))) → decide (mayC P T A M W Q) = true) ∧
  (∀ j, j < 6 → ¬ okBnd (([(P, 1, 3), (T, 1, 16), (A, L, 32), (M, 1, P), (W, 1, 4), (Q, 4, 64)] : List Bnd).getD j (0, 0, 0)) → decide (mayC P T A M W Q) = false) := by
 constructor
 ·intro h
  have h0 := h 0 (by omega)
  have h1 := h 1 (by omega)
  have h2 := h 2 (by omega)
  have h3 := h 3 (by omega)
  have h4 := h 4 (by omega)
  have h5 := h 5 (by omega)
  simp [okBnd] at h0 h1 h2 h3 h4 h5
  have := hL h0.1 h0.2
  rw [decide_eq_true_eq]
  unfold mayC
  omega
 ·intro j hj h
  rw [decide_eq_false_iff_not]
  intro hm
  unfold mayC at hm
  have := hL hm.1 hm.2.1
  match j, hj with
  | 0, _ => simp [okBnd] at h; omega
  | 1, _ => simp [okBnd] at h; omega
  | 2, _ => simp [okBnd] at h; omega
  | 3, _ => simp [okBnd] at h; omega
  | 4, _ => simp [okBnd] at h; omega
  | 5, _ => simp [okBnd] at h; omega
theorem pcheck_any (P T A M W Q : Int) (w : World) : Calls Tryz.prog 31 #[cfgV P T A M W Q] w fun e w' => e = .returned (.int .i64 (chkC P T A M W Q)) ∧ Below w.heap.size w w' := by
 obtain ⟨x, hbel⟩ := box_cfg w P T A M W Q
 obtain ⟨c0, c1, c2, c3, c4, c5⟩ := x.cfg
 have BEL := Lh hbel
 clear x hbel
 obtain ⟨L, hL⟩ : ∃ L, IntKind.i64.wrap (P + 2) = L := ⟨_, rfl⟩
 have hmb := may_bnds P T A M W Q L (fun h1 h2 => by rw [← hL]; exact wrap_sm (by omega) (by omega))
 have HY := Lh hmb.1
 have HN := Lh hmb.2
 have hck : chkC P T A M W Q = if decide (mayC P T A M W Q) then 0 else 8 := by unfold chkC; by_cases h : mayC P T A M W Q <;> simp [h]
 rw [hck]
 obtain ⟨r, hr⟩ : ∃ r, r = decide (mayC P T A M W Q) := ⟨_, rfl⟩
 rw [← hr] at HY HN ⊢
 clear hck hmb hr
 obtain ⟨w1, hw1⟩ : ∃ x, x = w.alloc (.cells #[.int .i64 P, .int .i64 T, .int .i64 A, .int .i64 M, .int .i64 W, .int .i64 Q] 36) := ⟨_, rfl⟩
 rw [← hw1] at BEL c0 c1 c2 c3 c4 c5
 go_enter Tryz.func31, Tryz.ntmps31
 go_upto_region 1 with fail
 rw [← hw1]
 clear hw1
 go_wp2_with fail
 refine (within_any _ 6 _ _ (bnds6 w1 _ _ P 1 3 T 1 16 A L 32 M 1 P W 1 4 Q 4 64 rfl) (by omega) r HY.out HN.out).mono ?_
 rintro e w2 ⟨rfl, hb⟩
 have B2 := Lh ((BEL.out.alloc BEL.out.size _).trans (hb.mono (by have := BEL.out.size; simp; omega)))
 clear hb
 cases r with
 | true =>
  go_wp2
  go_ret
  exact ⟨rfl, B2.out⟩
 | false =>
  go_wp2
  go_ret
  exact ⟨rfl, B2.out⟩
theorem ppages_any (P T A M W Q : Int) (w : World) (h : 1 ≤ T) (h2 : T ≤ 16) : Calls Tryz.prog 108 #[cfgV P T A M W Q] w fun e w' => e = .returned (.int .i64 (pagC T)) ∧ Below w.heap.size w w' := by
 obtain ⟨x, hbel⟩ := box_cfg w P T A M W Q
 obtain ⟨c0, c1, c2, c3, c4, c5⟩ := x.cfg
 have BEL := Lh hbel
 clear x hbel
 have hq : (T + 8 - 1).tdiv 8 = pagC T := by
  rw [Int.tdiv_eq_ediv_of_nonneg (by omega)]; unfold pagC; split <;> omega
 have hq2 : (T + 8 - 1) / 8 = pagC T := by unfold pagC; split <;> omega
 have hq3 : (T + 7) / 8 = pagC T := by unfold pagC; split <;> omega
 obtain ⟨g, hg⟩ : ∃ g, g = pagC T := ⟨_, rfl⟩
 have hg2 : 1 ≤ g ∧ g ≤ 2 := by rcases pagC_or T with p | p <;> omega
 rw [← hg] at hq hq2 hq3 ⊢
 clear hg
 go_enter Tryz.func108, Tryz.ntmps108
 go_wp2
 go_ret
 exact ⟨rfl, BEL.out⟩
abbrev partV (k f o t s : Int) : Value := .agg #[.int .u8 k, .int .i64 f, .int .i64 o, .int .i64 t, .int .i64 s]
theorem box_part (w : World) (k f o t s : Int) :
  Blk (w.alloc (.cells #[.int .u8 k, .int .i64 f, .int .i64 o, .int .i64 t, .int .i64 s] 135)) w.heap.size 135 [.int .u8 k, .int .i64 f, .int .i64 o, .int .i64 t, .int .i64 s] ∧
  Below w.heap.size w (w.alloc (.cells #[.int .u8 k, .int .i64 f, .int .i64 o, .int .i64 t, .int .i64 s] 135)) :=
 ⟨Blk.new w 135 [.int .u8 k, .int .i64 f, .int .i64 o, .int .i64 t, .int .i64 s], (Below.refl _ _).alloc (Nat.le_refl _) _⟩
theorem Blk.part {w : World} {g : Nat} {t : TypeId} {k f o th s : Int} (h : Blk w g t [.int .u8 k, .int .i64 f, .int .i64 o, .int .i64 th, .int .i64 s]) :
  w.cell? ⟨g, 0, none⟩ = some (.int .u8 k) ∧ w.cell? ⟨g, 1, none⟩ = some (.int .i64 f) ∧ w.cell? ⟨g, 2, none⟩ = some (.int .i64 o) ∧ w.cell? ⟨g, 3, none⟩ = some (.int .i64 th) ∧ w.cell? ⟨g, 4, none⟩ = some (.int .i64 s) :=
 ⟨h.cell 0, h.cell 1, h.cell 2, h.cell 3, h.cell 4⟩
def secP (f t s o n : Int) : Int := f + (o * t + n) * s
theorem sector_any (k f o t s a n : Int) (w : World) (h1 : -10000 ≤ a * t ∧ a * t ≤ 10000) (h2 : -10000 ≤ n ∧ n ≤ 10000) (h3 : -50000 ≤ (a * t + n) * s ∧ (a * t + n) * s ≤ 50000) (h4 : 0 ≤ f ∧ f ≤ 1000) : Calls Tryz.prog 109 #[partV k f o t s, .int .i64 a, .int .i64 n] w fun e w' => e = .returned (.int .i64 (secP f t s a n)) ∧ Below w.heap.size w w' := by
 obtain ⟨x, hbel⟩ := box_part w k f o t s
 obtain ⟨c0, c1, c2, c3, c4⟩ := x.part
 have BEL := Lh hbel
 unfold secP
 have m1 : IntKind.i64.wrap (a * t) = a * t := wrap_sm (by omega) (by omega)
 have m2 : IntKind.i64.wrap (a * t + n) = a * t + n := wrap_sm (by omega) (by omega)
 have m3 : IntKind.i64.wrap ((a * t + n) * s) = (a * t + n) * s := wrap_sm (by omega) (by omega)
 have m4 : IntKind.i64.wrap (f + (a * t + n) * s) = f + (a * t + n) * s := wrap_sm (by omega) (by omega)
 clear x hbel h1 h2 h3 h4
 go_enter Tryz.func109, Tryz.ntmps109
 go_wp2
 go_ret
 exact ⟨rfl, BEL.out⟩
theorem end_any (k f o t s : Int) (w : World) (h1 : -10000 ≤ o * t ∧ o * t ≤ 10000) (h3 : -50000 ≤ (o * t + 0) * s ∧ (o * t + 0) * s ≤ 50000) (h4 : 0 ≤ f ∧ f ≤ 1000) : Calls Tryz.prog 63 #[partV k f o t s] w fun e w' => e = .returned (.int .i64 (secP f t s o 0)) ∧ Below w.heap.size w w' := by
 obtain ⟨x, hbel⟩ := box_part w k f o t s
 obtain ⟨c0, c1, c2, c3, c4⟩ := x.part
 have BEL := Lh hbel
 have SE := Lh (fun w' : World => sector_any k f o t s o 0 w' h1 (by omega) h3 h4)
 obtain ⟨v, hv⟩ : ∃ v, v = secP f t s o 0 := ⟨_, rfl⟩
 rw [← hv] at SE ⊢
 clear x hbel h1 h3 h4 hv
 go_enter Tryz.func63, Tryz.ntmps63
 go_wp2_with fail
 refine (SE.out _).mono ?_
 rintro e w2 ⟨rfl, hb⟩
 have B2 := Lh (BEL.out.trans (hb.mono BEL.out.size))
 clear hb c0 c1 c2 c3 c4
 go_wp2
 go_ret
 exact ⟨rfl, B2.out⟩
end Go.Proofs.YtifgcfepbenpjaaGreat
namespace Go.Proofs.YtifgcfepbenpjaaGreat
open Go.RowKit Go.OpenShut Go.ChangeShapes Go.WideShapes Go.Deep Go.Joins
set_option linter.unusedVariables false
abbrev recV (r : Rc) : Value := .agg #[.int .i64 r.p, .int .u32 r.b, .int .u32 r.e, .int .i64 r.l, .int .u8 r.h, .int .i64 r.f, .bool r.q, .bool r.a]
abbrev recL (r : Rc) : List Value := [.int .i64 r.p, .int .u32 r.b, .int .u32 r.e, .int .i64 r.l, .int .u8 r.h, .int .i64 r.f, .bool r.q, .bool r.a]
theorem eq_rec (r s : Rc) (w : World) : (Op.equalIn 10000 64 (recV r) (recV s)).run Tryz.prog w = .ok (decide (r = s)) w := by
 have u1 := Tryz.underlying26
 have u2 := Tryz.underlying3
 have u3 := Tryz.underlying5
 have u4 := Tryz.underlying4
 have hS : Tryz.prog.underlying 64 = some (.struct (Tryz.prog.fieldsOf 64)) := by kernel_rfl
 have hp : Tryz.prog.stoodInHeld 64 = false := by kernel_rfl
 have e : decide (r = s) = (r.p == s.p && r.b == s.b && r.e == s.e && r.l == s.l && r.h == s.h && r.f == s.f && r.q == s.q && r.a == s.a) := by
  rw [Bool.eq_iff_iff]
  simp [Rc.eq_iff, and_assoc]
 rw [e, show (10000 : Nat) = 9999 + 1 from rfl, run_equalIn_agg w 9999 64 _ _ hS hp]
 simp only [Program.fieldsOf, Tryz.underlying64]
 go_simp
 by_cases h1 : r.p = s.p <;> by_cases h2 : r.b = s.b <;> by_cases h3 : r.e = s.e <;> by_cases h4 : r.l = s.l <;> by_cases h5 : r.h = s.h <;> by_cases h6 : r.f = s.f <;> by_cases h7 : r.q = s.q <;> by_cases h8 : r.a = s.a <;> simp [h1, h2, h3, h4, h5, h6, h7, h8]
theorem rec_info : (Tryz.prog.info? 64).map (fun i => (i.zero, i.size, i.bytes)) = some (some (recV zR), 8, 48) := by kernel_rfl
def recsV (L : List Rc) : List Value := L.flatMap recL
theorem recsV_length (L : List Rc) : (recsV L).length = L.length * 8 := by
 induction L with
 | nil => rfl
 | cons r L ih => unfold recsV at ih ⊢; rw [List.flatMap_cons, List.length_append, ih]; simp; omega
theorem recsV_at {L : List Rc} {i j : Nat} (hi : i < L.length) (hj : j < 8) : (recsV L)[i * 8 + j]? = (recL (L.getD i zR))[j]? := by
 induction L generalizing i with
 | nil => exact absurd hi (Nat.not_lt_zero _)
 | cons r L ih =>
  have e : recsV (r :: L) = recL r ++ recsV L := rfl
  rw [e]
  cases i with
  | zero =>
   rw [Nat.zero_mul, Nat.zero_add, List.getElem?_append_left (by simpa using hj)]
   rfl
  | succ i =>
   rw [List.getElem?_append_right (by simp; omega), show (i + 1) * 8 + j - (recL r).length = i * 8 + j by simp; omega, ih (by simpa using hi)]
   rfl
theorem recsV_app (L M : List Rc) : recsV (L ++ M) = recsV L ++ recsV M := List.flatMap_append
theorem recsV_one (r : Rc) : recsV [r] = recL r := by simp [recsV]
theorem one_rec (r : Rc) : ∀ v ∈ recL r, v.oneCell' = true := by intro v hv; simp at hv; rcases hv with rfl | rfl | rfl | rfl | rfl | rfl | rfl | rfl <;> rfl
theorem one_recs (L : List Rc) : ∀ v ∈ recsV L, v.oneCell' = true := fun v hv => by
 obtain ⟨r, _, h⟩ := List.mem_flatMap.1 hv
 exact one_rec r v h
structure Recs (w : World) (A : Option Addr) (n c : Nat) (L : List Rc) : Prop where
 len : L.length = n
 cap : n ≤ c
 max : c ≤ maxLen
 is : allR L
 at_ : ∀ i, i < n → ∃ b o, A = some ⟨b, o, none⟩ ∧ b < w.heap.size ∧ ∀ j v, (recL (L.getD i zR))[j]? = some v → w.cell? ⟨b, o + i * 8 + j, none⟩ = some v
section
variable {w w' : World} {A : Option Addr} {n c : Nat} {L : List Rc}
theorem Recs.below (h : Recs w A n c L) (hb : Below w.heap.size w w') : Recs w' A n c L :=
 ⟨h.len, h.cap, h.max, h.is, fun i hi => by
  obtain ⟨b, o, e, hlt, hc⟩ := h.at_ i hi
  exact ⟨b, o, e, Nat.lt_of_lt_of_le hlt hb.size, fun j v hv => (hb.cell (p := ⟨b, _, none⟩) hlt).trans (hc j v hv)⟩⟩
theorem Recs.nil (w : World) : Recs w none 0 0 [] := ⟨rfl, Nat.le_refl _, by decide, (fun r hr => by cases hr), fun i hi => by omega⟩
theorem Recs.row (h : Recs w A n c L) {i : Nat} (hi : i < n) : ∃ b o, A = some ⟨b, o, none⟩ ∧ b < w.heap.size ∧ w.cell? ⟨b, o + i * 8, none⟩ = some (.int .i64 (L.getD i zR).p) ∧ w.cell? ⟨b, o + i * 8 + 1, none⟩ = some (.int .u32 (L.getD i zR).b) ∧ w.cell? ⟨b, o + i * 8 + 2, none⟩ = some (.int .u32 (L.getD i zR).e) ∧
  w.cell? ⟨b, o + i * 8 + 3, none⟩ = some (.int .i64 (L.getD i zR).l) ∧ w.cell? ⟨b, o + i * 8 + 4, none⟩ = some (.int .u8 (L.getD i zR).h) ∧ w.cell? ⟨b, o + i * 8 + 5, none⟩ = some (.int .i64 (L.getD i zR).f) ∧ w.cell? ⟨b, o + i * 8 + 6, none⟩ = some (.bool (L.getD i zR).q) ∧ w.cell? ⟨b, o + i * 8 + 7, none⟩ = some (.bool (L.getD i zR).a) := by
 obtain ⟨b, o, e, hlt, hc⟩ := h.at_ i hi
 exact ⟨b, o, e, hlt, hc 0 _ rfl, hc 1 _ rfl, hc 2 _ rfl, hc 3 _ rfl, hc 4 _ rfl, hc 5 _ rfl, hc 6 _ rfl, hc 7 _ rfl⟩
theorem Recs.is_at (h : Recs w A n c L) {i : Nat} (hi : i < n) : isR (L.getD i zR) := by
 have := h.len
 rw [gtD, List.getElem?_eq_getElem (by omega)]
 exact h.is _ (List.getElem_mem _)
theorem Recs.seq (h : Recs w A n c L) : Seq w w.heap.size A (recsV L) := fun k v hv => by
 have hk : k < L.length * 8 := by
  rcases Nat.lt_or_ge k (recsV L).length with hk | hk
  ·rwa [recsV_length] at hk
  ·rw [List.getElem?_eq_none hk] at hv; cases hv
 have e : k = (k / 8) * 8 + k % 8 := by omega
 obtain ⟨b, o, ea, hlt, hc⟩ := h.at_ (k / 8) (by have := h.len; omega)
 have h2 := recsV_at (L := L) (i := k / 8) (j := k % 8) (by omega) (by omega)
 rw [← e] at h2
 have h3 := hc (k % 8) v (by rw [← h2]; exact hv)
 refine ⟨b, o, ea, hlt, ?_⟩
 rw [Nat.add_assoc, ← e] at h3
 exact h3
end
def OwnRecs (w : World) (base : Nat) (A : Option Addr) (n c : Nat) (L : List Rc) : Prop := w.ownsRow base 64 8 (.slice A n c) n (recsV L) ∧ L.length = n ∧ allR L
section
variable {w w' : World} {base base' : Nat} {A : Option Addr} {n c : Nat} {L : List Rc}
theorem Recs.of_own (h : OwnRecs w base A n c L) : Recs w A n c L := by
 obtain ⟨hown, hl, ha⟩ := h
 refine ⟨hl, ?_, ?_, ha, fun i hi => ?_⟩
 ·rcases hown.2 with ⟨e, h0⟩ | ⟨g, cap, cur, e, _, _, h1, h2, _⟩ <;> cases e
  ·exact Nat.le_refl _
  ·exact h1
 ·rcases hown.2 with ⟨e, h0⟩ | ⟨g, cap, cur, e, _, _, h1, h2, _⟩ <;> cases e
  ·decide
  ·exact h2
 ·have h0 : (recsV L)[i * 8 + 0]? = some (.int .i64 (L.getD i zR).p) := by rw [recsV_at (by omega) (by omega)]; rfl
  obtain ⟨b, e, hlt, _⟩ := owns_cell hown h0
  refine ⟨b, 0, e, hlt, fun j v hv => ?_⟩
  have hj : j < 8 := by
   rcases Nat.lt_or_ge j 8 with hj | hj
   ·exact hj
   ·rw [List.getElem?_eq_none (by simpa using hj)] at hv; cases hv
  have h1 : (recsV L)[i * 8 + j]? = some v := by rw [recsV_at (by omega) hj]; exact hv
  obtain ⟨b', e', _, hc⟩ := owns_cell hown h1
  rw [e] at e'
  cases e'
  rw [Nat.zero_add]
  exact hc
theorem OwnRecs.below (h : OwnRecs w base A n c L) (hb : Below w.heap.size w w') : OwnRecs w' base A n c L := ⟨owns_below h.1 hb, h.2.1, h.2.2⟩
theorem OwnRecs.lower (h : OwnRecs w base A n c L) (hb : base' ≤ base) : OwnRecs w base' A n c L := ⟨owns_base h.1 hb, h.2.1, h.2.2⟩
theorem OwnRecs.nil (w : World) (base : Nat) : OwnRecs w base none 0 0 [] := ⟨World.ownsRow_nil _ _ _ _, rfl, fun r hr => by cases hr⟩
theorem OwnRecs.keep (h : OwnRecs w base A n c L) (hk : ∀ (g : Nat) (cs : Array Value), base ≤ g → w.heap[g]? = some (.cells cs 64 (0, 0)) → w'.heap[g]? = w.heap[g]?) : OwnRecs w' base A n c L :=
 ⟨owns_keep h.1 fun g cs hg hc => hk g cs hg hc, h.2.1, h.2.2⟩
theorem OwnRecs.away (h : OwnRecs w base A n c L) {g : Nat} (hg : g < base) (i : Nat) (u : Value) : OwnRecs (w.setCell ⟨g, i, none⟩ u) base A n c L :=
 h.keep fun g' _ hb hc => (grownBy_set w g i u).block g' (Array.getElem?_eq_some_iff.1 hc).1 (fun e => by injection e with e; omega)
theorem run_recs (w0 w : World) (ty : TypeId) (A0 : Option Addr) (n0 c0 : Nat) (M : List Rc) (hown : OwnRecs w base A0 n0 c0 M) (r : Rc) (hr : isR r) (h63 : n0 + 1 ≤ 100000) (hbel : Below base w0 w) (hw0 : base ≤ w0.heap.size) :
  ∃ A' c' w', (Builtin.append_ #[30, 30] ty #[.slice A0 n0 c0, .slice (some ⟨w.heap.size, 0, none⟩) 1 1]).run Tryz.prog (w.alloc (.cells (recL r).toArray 64)) = .ok (.slice A' (n0 + 1) c') w' ∧ OwnRecs w' base A' (n0 + 1) c' (M ++ [r]) ∧ Below base w0 w' ∧ (w.alloc (.cells (recL r).toArray 64)).grownBy w' (Value.slice A0 n0 c0).ownBlock := by
 obtain ⟨i, hi, hz, hsize, hby⟩ := info_parts rec_info
 have hml : (100000 : Nat) ≤ maxLen := by decide
 have hbase : base ≤ w.heap.size := Nat.le_trans hw0 hbel.size
 have hlit := Blk.new w 64 (recL r)
 have hcs : ∀ j u, (recL r)[j]? = some u → (w.alloc (.cells (recL r).toArray 64)).cell? ((⟨w.heap.size, 0, none⟩ : Addr).add j) = some u := by
  intro j u hu
  have e2 : (⟨w.heap.size, 0, none⟩ : Addr).add j = ⟨w.heap.size, 0 + j, none⟩ := by unfold Addr.add; split <;> simp_all
  rw [e2, Nat.zero_add, hlit.cell j]
  exact hu
 obtain ⟨v', w', h, r2, r3, _, _⟩ := run_append_own_at (P := Tryz.prog) (w.alloc (.cells (recL r).toArray 64)) base 30 ty 64 i _ 8 48 Tryz.underlying30 hi hz hsize hby rfl (by omega) _ n0 (recsV M) (hown.1.alloc _) ⟨w.heap.size, 0, none⟩ 1 1 (recL r) rfl hcs (one_rec r) (by omega) (by omega) (by simp; omega)
 obtain ⟨g', c', rfl⟩ := ownsRow_some r2
 refine ⟨some ⟨g', 0, none⟩, c', w', h, ⟨by rw [recsV_app, recsV_one]; exact r2, by simp [hown.2.1], fun s hs => ?_⟩, (hbel.alloc hbase _).grown r3 (by simp; omega) (fun g e => (hown.1.lt g e).1), r3⟩
 rcases List.mem_append.1 hs with hs | hs
 ·exact hown.2.2 s hs
 ·rw [List.mem_singleton.1 hs]; exact hr
end
theorem wpList_recs (w0 w : World) {ops : Array Oper} {rest : List Oper} {o : Oper} {a : Act} {Q : Exit → Act → World → Prop} (hw : Region.wanted o (yielded ops a.tmps) = true) (s x : Operand)
  (ho : o.op = .call { callee := .builtin .append, args := #[s, x], argTypes := #[30, 30] }) (base : Nat) (A0 : Option Addr) (n c0 : Nat) (M : List Rc) (hs : a.eval s = .slice A0 n c0) (hown : OwnRecs w base A0 n c0 M)
  (r : Rc) (hr : isR r) (hx : a.eval x = .slice (some ⟨w.heap.size, 0, none⟩) 1 1) (h63 : n + 1 ≤ 100000) (hbel : Below base w0 w) (hw0 : base ≤ w0.heap.size)
  (h : ∀ A' c' w', OwnRecs w' base A' (n + 1) c' (M ++ [r]) → Below base w0 w' → wpList Tryz.prog ops Q rest (a.put o.dst (.slice A' (n + 1) c')) w') : wpList Tryz.prog ops Q (o :: rest) a (w.alloc (.cells (recL r).toArray 64)) := by
 refine wpList_want hw fun K hK => ?_
 obtain ⟨A', c', w', hrun, h2, h3, _⟩ := run_recs w0 w o.type A0 n c0 M hown r hr h63 hbel hw0
 unfold Oper.wp execOp
 simp only [ho, resolve, invoke, builtin, Sem.run_bind, Sem.run_pure, Result.andThen_ok, List.map_toArray, List.map_cons, List.map_nil, hs, hx, hrun]
 exact hK _ _ (h A' c' w' h2 h3)
end Go.Proofs.YtifgcfepbenpjaaGreat
namespace Go.Proofs.YtifgcfepbenpjaaGreat
open Go.RowKit
set_option linter.unusedVariables false
theorem wpList_dup_recs (w : World) {ops : Array Oper} {rest : List Oper} {o : Oper} {a : Act} {Q : Exit → Act → World → Prop} (hw : Region.wanted o (yielded ops a.tmps) = true) (s x : Operand)
  (ho : o.op = .call { callee := .builtin .append, args := #[s, x], argTypes := #[30, 30] }) (hs : a.eval s = .slice (some ⟨w.heap.size, 0, none⟩) 0 0)
  (A : Option Addr) (m c : Nat) (L : List Rc) (hx : a.eval x = .slice A m c) (hr : Recs w A m c L) (h63 : m ≤ 100000)
  (h : ∀ A' c' w', OwnRecs w' w.heap.size A' m c' L → Below w.heap.size w w' → wpList Tryz.prog ops Q rest (a.put o.dst (.slice A' m c')) w') : wpList Tryz.prog ops Q (o :: rest) a (w.alloc (.cells #[] 64)) := by
 refine wpList_want hw fun K hK => ?_
 obtain ⟨i, hi, hz, hsize, hby⟩ := info_parts rec_info
 have hml : (100000 : Nat) ≤ maxLen := by decide
 have hb1 : Below w.heap.size w (w.alloc (.cells #[] 64)) := (Below.refl _ _).alloc (Nat.le_refl _) _
 have hlit : (w.alloc (.cells #[] 64)).ownsRow w.heap.size 64 8 (.slice (some ⟨w.heap.size, 0, none⟩) 0 0) 0 [] := ⟨rfl, .inr ⟨w.heap.size, 0, #[], rfl, Nat.le_refl _, heap_alloc_new w _, Nat.le_refl _, by decide, rfl, rfl⟩⟩
 have key : ∃ A' c' w', (Builtin.append_ #[30, 30] o.type #[.slice (some ⟨w.heap.size, 0, none⟩) 0 0, .slice A m c]).run Tryz.prog (w.alloc (.cells #[] 64)) = .ok (.slice A' m c') w' ∧ OwnRecs w' w.heap.size A' m c' L ∧ Below w.heap.size w w' := by
  cases A with
  | none =>
   have hm0 : m = 0 := by
    rcases Nat.eq_zero_or_pos m with h0 | h0
    ·exact h0
    ·obtain ⟨_, _, e, _⟩ := hr.at_ 0 h0
     cases e
   subst hm0
   have hL : L = [] := List.eq_nil_of_length_eq_zero hr.len
   subst hL
   refine ⟨some ⟨w.heap.size, 0, none⟩, 0, _, ?_, ⟨hlit, rfl, fun r hr => by cases hr⟩, hb1⟩
   simp [Builtin.append_, run_underlying Tryz.underlying30, sizeOf, typeInfo, hi, Builtin.lenOf, Builtin.firstCells, storeCells]
  | some ad =>
   have hsq := (hr.below hb1).seq
   have hcs : ∀ j u, (recsV L)[j]? = some u → (w.alloc (.cells #[] 64)).cell? (ad.add j) = some u := by
    intro j u hu
    obtain ⟨b, o', e, _, hc⟩ := hsq j u hu
    have e := Option.some.inj e
    subst e
    have e2 : (⟨b, o', none⟩ : Addr).add j = ⟨b, o' + j, none⟩ := by unfold Addr.add; split <;> simp_all
    rw [e2]
    exact hc
   obtain ⟨v', w', hrun, h2, h3, _, h5⟩ := run_append_own_at (P := Tryz.prog) (w.alloc (.cells #[] 64)) w.heap.size 30 o.type 64 i _ 8 48 Tryz.underlying30 hi hz hsize hby rfl (by omega) _ 0 [] hlit ad m c (recsV L) (by rw [recsV_length, hr.len]) hcs (one_recs L) (by omega) (by omega) (by simp)
   rw [Nat.zero_add, List.nil_append] at h2
   have hv : ∃ A' c', v' = .slice A' m c' := by
    rcases h2.2 with ⟨rfl, rfl⟩ | ⟨g, cap, cur, rfl, _⟩
    ·exact ⟨_, _, rfl⟩
    ·exact ⟨_, _, rfl⟩
   obtain ⟨A', c', rfl⟩ := hv
   exact ⟨A', c', w', hrun, ⟨h2, hr.len, hr.is⟩, hb1.grown h3 hb1.size (fun g e => by have e : some w.heap.size = some g := e; injection e with e; omega)⟩
 obtain ⟨A', c', w', hrun, h2, h3⟩ := key
 unfold Oper.wp execOp
 simp only [ho, resolve, invoke, builtin, Sem.run_bind, Sem.run_pure, Result.andThen_ok, List.map_toArray, List.map_cons, List.map_nil, hs, hx, hrun]
 exact hK _ _ (h A' c' w' h2 h3)
end Go.Proofs.YtifgcfepbenpjaaGreat
