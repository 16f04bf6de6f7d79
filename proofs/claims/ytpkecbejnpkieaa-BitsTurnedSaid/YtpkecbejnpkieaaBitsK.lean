/- Layer 3, package bits: Next and Put. -/
import Derived.Test.YtpkecbejnpkieaaBitsJ
namespace Go.Proofs.Ytpkecbejnpkieaa
open Go.RowKit Go.Shelf
set_option linter.unusedVariables false

/-- A set of one track. -/
theorem one_set {m t : Nat} (ht : t < m) : IsSet m (markL (none0 m) t) ∧ ∀ u, hasT (markL (none0 m) t) u = decide (u = t) := by
  have hl : (none0 m).length = pgs m := by simp [none0]
  have hh : ∀ u, hasT (markL (none0 m) t) u = decide (u = t) := fun u => by
    rw [hasT_mark _ _ _ (by rw [hl]; exact pgs_le ht), hasT_none0, Bool.false_or]
  refine ⟨⟨by rw [markL_length, hl], markL_byte (none0_byte m) t, fun u hu => ?_⟩, hh⟩
  rw [hh, decide_eq_false_iff_not]
  omega
theorem put_yes {m t : Nat} {s : List Int} (ht : t < m) : made m (fun u => hasT s u || hasT (markL (none0 m) t) u) = made m (fun u => if u = t then true else hasT s u) :=
  made_congr fun u _ => by rw [(one_set ht).2]; by_cases h : u = t <;> simp [h]
theorem put_no {m t : Nat} {s : List Int} (ht : t < m) : made m (fun u => hasT s u && !hasT (markL (none0 m) t) u) = made m (fun u => if u = t then false else hasT s u) :=
  made_congr fun u _ => by rw [(one_set ht).2]; by_cases h : u = t <;> simp [h]

theorem Put_bad (n : Int) (A : Option Addr) (k c : Nat) (s : List Int) (t : Int) (is : Bool) (w : World) (h : Arg w .u8 A k c s) (hb : ∀ z ∈ s, isByte z) (hc : trkE n s t ≠ 0) :
    Calls Try.prog 26 #[.int .i64 n, .slice A k c, .int .i64 t, .bool is] w (RowOut .u8 5 w [] (trkE n s t)) := by
  have C := checkTrack_any n A k c s t w h hb
  have hne : (trkE n s t != 0) = true := by rw [bne_iff_ne]; exact hc
  obtain ⟨E, hE⟩ : ∃ E, E = trkE n s t := ⟨_, rfl⟩
  rw [← hE] at C hne ⊢
  have C := Lib.hid C
  clear h hb hc hE
  go_enter Try.func26, Try.ntmps26
  go_wp2_with fail
  refine C.out.mono ?_
  rintro e w' ⟨rfl, rfl⟩
  go_wp2
  go_ret2
  exact RowOut.nil _ _ _ _

set_option maxHeartbeats 800000 in
theorem Put_ok (m t : Nat) (A : Option Addr) (k c : Nat) (s : List Int) (is : Bool) (w : World) (h : Arg w .u8 A k c s) (h1 : 1 ≤ m) (h2 : m ≤ 16) (hs : IsSet m s) (ht : t < m) :
    Calls Try.prog 26 #[.int .i64 (m : Int), .slice A k c, .int .i64 (t : Int), .bool is] w (RowOut .u8 5 w (made m (fun u => if u = t then is else hasT s u)) 0) := by
  have C := checkTrack_any m A k c s t w h hs.byte
  rw [trkE_ok h1 h2 ht hs] at C
  have P := pages_any m w h1 h2
  have hmk := make_none m h2 w
  have hown := own_none m h2 w
  have hbel : Below w.heap.size w (w.alloc (.cells (ints .u8 (none0 m)).toArray 5)) := (Below.refl _ _).alloc (Nat.le_refl _) _
  obtain ⟨w1, hw1⟩ : ∃ w1, w1 = w.alloc (.cells (ints .u8 (none0 m)).toArray 5) := ⟨_, rfl⟩
  rw [← hw1] at hmk hown hbel
  have K := mark_any w.heap.size _ _ _ _ t w1 hown (none0_byte m) (by omega) (pgs_le ht)
  have hone := one_set ht
  have hor : orB (m : Int) s (markL (none0 m) t) = made m (fun u => if u = t then true else hasT s u) := by
    unfold orB; rw [if_pos (bothE_ok h1 h2 hs hone.1), Int.toNat_natCast, put_yes ht]
  have hmi : minusB (m : Int) s (markL (none0 m) t) = made m (fun u => if u = t then false else hasT s u) := by
    unfold minusB; rw [if_pos (bothE_ok h1 h2 hs hone.1), Int.toNat_natCast, put_no ht]
  have hbe := bothE_ok h1 h2 hs hone.1
  have OR : ∀ w2 (x : Arg w2 .u8 (some ⟨w.heap.size, 0, none⟩) (pgs m) (pgs m) (markL (none0 m) t)) (y : Arg w2 .u8 A k c s), Calls Try.prog 28 #[.int .i64 (m : Int), .slice A k c, .slice (some ⟨w.heap.size, 0, none⟩) (pgs m) (pgs m)] w2 (RowOut .u8 5 w2 (made m (fun u => if u = t then true else hasT s u)) 0) := fun w2 x y => by
    have := Or_any m A k c s (some ⟨w.heap.size, 0, none⟩) (pgs m) (pgs m) (markL (none0 m) t) w2 y hs.byte x hone.1.byte
    rwa [hor, hbe] at this
  have MI : ∀ w2 (x : Arg w2 .u8 (some ⟨w.heap.size, 0, none⟩) (pgs m) (pgs m) (markL (none0 m) t)) (y : Arg w2 .u8 A k c s), Calls Try.prog 10 #[.int .i64 (m : Int), .slice A k c, .slice (some ⟨w.heap.size, 0, none⟩) (pgs m) (pgs m)] w2 (RowOut .u8 5 w2 (made m (fun u => if u = t then false else hasT s u)) 0) := fun w2 x y => by
    have := Minus_any m A k c s (some ⟨w.heap.size, 0, none⟩) (pgs m) (pgs m) (markL (none0 m) t) w2 y hs.byte x hone.1.byte
    rwa [hmi, hbe] at this
  obtain ⟨p, hp⟩ : ∃ p, p = pgs m := ⟨_, rfl⟩
  rw [← hp] at P hmk K OR MI hown
  have C := Lib.hid C
  have P := Lib.hid P
  have K := Lib.hid K
  have OR := Lib.hid OR
  have MI := Lib.hid MI
  have OWN := Lib.hid hown
  have BEL := Lib.hid hbel
  have H := Lib.hid h
  obtain ⟨one, h1e⟩ : ∃ one, one = markL (none0 m) t := ⟨_, rfl⟩
  rw [← h1e] at K OR MI
  clear hw1 hown hbel h hs hone hor hmi hbe hp h1e
  cases is with
  | true =>
    obtain ⟨R, hR⟩ : ∃ R, R = made m (fun u => if u = t then true else hasT s u) := ⟨_, rfl⟩
    rw [← hR] at OR ⊢
    clear hR MI
    go_enter Try.func26, Try.ntmps26
    go_wp2_with fail
    refine C.out.mono ?_
    rintro e w' ⟨rfl, rfl⟩
    go_wp2_with fail
    refine P.out.mono ?_
    rintro e w' ⟨rfl, rfl⟩
    go_wp2_with fail
    refine K.out.mono ?_
    rintro e w2 ⟨rfl, hown2, hgr2⟩
    have O2 := Lib.hid hown2
    have B2 := Lib.hid (grown_below BEL.out (Nat.le_refl _) OWN.out BEL.out.size hgr2)
    clear hown2 hgr2
    go_wp2_with fail
    refine (OR.out w2 (Arg.own O2.out) (H.out.below B2.out)).mono ?_
    rintro e w3 ⟨A3, c3, rfl, hown, hbel⟩
    have O := Lib.hid hown
    have B := Lib.hid (B2.out.trans (hbel.mono B2.out.size))
    clear hown hbel
    go_wp2
    go_ret2
    exact ⟨A3, c3, rfl, owns_base O.out B2.out.size, B.out⟩
  | false =>
    obtain ⟨R, hR⟩ : ∃ R, R = made m (fun u => if u = t then false else hasT s u) := ⟨_, rfl⟩
    rw [← hR] at MI ⊢
    clear hR OR
    go_enter Try.func26, Try.ntmps26
    go_wp2_with fail
    refine C.out.mono ?_
    rintro e w' ⟨rfl, rfl⟩
    go_wp2_with fail
    refine P.out.mono ?_
    rintro e w' ⟨rfl, rfl⟩
    go_wp2_with fail
    refine K.out.mono ?_
    rintro e w2 ⟨rfl, hown2, hgr2⟩
    have O2 := Lib.hid hown2
    have B2 := Lib.hid (grown_below BEL.out (Nat.le_refl _) OWN.out BEL.out.size hgr2)
    clear hown2 hgr2
    go_wp2_with fail
    refine (MI.out w2 (Arg.own O2.out) (H.out.below B2.out)).mono ?_
    rintro e w3 ⟨A3, c3, rfl, hown, hbel⟩
    have O := Lib.hid hown
    have B := Lib.hid (B2.out.trans (hbel.mono B2.out.size))
    clear hown hbel
    go_wp2
    go_ret2
    exact ⟨A3, c3, rfl, owns_base O.out B2.out.size, B.out⟩

/-- Put, at all arguments. -/
theorem Put_any (n : Int) (A : Option Addr) (k c : Nat) (s : List Int) (t : Int) (is : Bool) (w : World) (h : Arg w .u8 A k c s) (hb : ∀ z ∈ s, isByte z) :
    Calls Try.prog 26 #[.int .i64 n, .slice A k c, .int .i64 t, .bool is] w (RowOut .u8 5 w (putB n s t is) (trkE n s t)) := by
  by_cases hc : trkE n s t = 0
  · obtain ⟨m, u, rfl, rfl, h1, h2, h3, h4⟩ := trkE_zero hb hc
    have e : putB (m : Int) s (u : Int) is = made m (fun x => if x = u then is else hasT s x) := by
      unfold putB; rw [if_pos hc, Int.toNat_natCast, Int.toNat_natCast]
    rw [e, hc]
    exact Put_ok m u A k c s is w h h1 h2 h4 h3
  · have e : putB n s t is = [] := by unfold putB; rw [if_neg hc]
    rw [e]
    exact Put_bad n A k c s t is w h hb hc

attribute [local go_sem] Oper.semAt_some

theorem Next_bad (n : Int) (A : Option Addr) (k c : Nat) (s : List Int) (t : Int) (w : World) (h : Arg w .u8 A k c s) (hb : ∀ z ∈ s, isByte z) (hc : trkE n s t ≠ 0) :
    Calls Try.prog 9 #[.int .i64 n, .slice A k c, .int .i64 t] w fun e W' => e = .returned (.tuple #[.int .i64 0, .int .i64 (trkE n s t)]) ∧ Below w.heap.size w W' := by
  have hbel : Below w.heap.size w ((w.alloc (.cells #[.int .i64 0] 3)).alloc (.cells #[.int .i64 0] 22)) := ((Below.refl _ _).alloc (Nat.le_refl _) _).alloc (by simp) _
  have C := checkTrack_any n A k c s t _ (h.below hbel) hb
  have hne : (trkE n s t != 0) = true := by rw [bne_iff_ne]; exact hc
  obtain ⟨E, hE⟩ : ∃ E, E = trkE n s t := ⟨_, rfl⟩
  rw [← hE] at C hne ⊢
  have C := Lib.hid C
  have BEL := Lib.hid hbel
  clear h hb hc hE hbel
  go_enter Try.func9, Try.ntmps9
  go_wp2_with fail
  refine C.out.mono ?_
  rintro e w' ⟨rfl, rfl⟩
  go_wp2
  have c6 : ((w.alloc (.cells #[.int .i64 0] 3)).alloc (.cells #[.int .i64 E] 22)).cell? ⟨w.heap.size, 0, none⟩ = some (.int .i64 0) := by
    rw [World.cell?_alloc_lt _ _ _ (by simp)]
    exact box_new _ _ _
  have c7 := box_new (w.alloc (.cells #[.int .i64 0] 3)) (.int .i64 E) 22
  rw [World.size_alloc] at c7
  have hb2 : Below w.heap.size w ((w.alloc (.cells #[.int .i64 0] 3)).alloc (.cells #[.int .i64 E] 22)) := ((Below.refl _ _).alloc (Nat.le_refl _) _).alloc (by simp) _
  refine bodyPost_ret (v := .tuple #[.int .i64 0, .int .i64 E]) ?_ rfl ⟨rfl, hb2⟩
  simp [results, Try.f9, go_sem, c6, c7]

theorem set_two {W : World} {B : Nat} {a b : Value} (h1 : W.cell? ⟨B, 0, none⟩ = some a) (h2 : W.cell? ⟨B + 1, 0, none⟩ = some b) (u v : Value) :
    ((W.setCell ⟨B, 0, none⟩ u).setCell ⟨B + 1, 0, none⟩ v).cell? ⟨B, 0, none⟩ = some u ∧ ((W.setCell ⟨B, 0, none⟩ u).setCell ⟨B + 1, 0, none⟩ v).cell? ⟨B + 1, 0, none⟩ = some v := by
  have e1 := World.cell?_setCell_same' W ⟨B, 0, none⟩ u (by rw [h1]; rfl)
  have k1 : (W.setCell ⟨B, 0, none⟩ u).cell? ⟨B + 1, 0, none⟩ = some b := (World.cell?_of_block (Below.heap_setCell W ⟨B, 0, none⟩ u (B + 1) (by simp))).trans h2
  refine ⟨(World.cell?_of_block (Below.heap_setCell _ ⟨B + 1, 0, none⟩ v B (by simp))).trans e1, World.cell?_setCell_same' _ _ _ (by rw [k1]; rfl)⟩

set_option maxRecDepth 100000 in
set_option maxHeartbeats 2000000 in
theorem Next_in (m t : Nat) (A : Option Addr) (k c : Nat) (s : List Int) (w : World) (h : Arg w .u8 A k c s) (h1 : 1 ≤ m) (h2 : m ≤ 16) (hs : IsSet m s) (ht : t < m) :
    CallsIn Fence.wide 5 Try.prog 9 #[.int .i64 (m : Int), .slice A k c, .int .i64 (t : Int)] w fun e W' => e = .returned (.tuple #[.int .i64 (match trN m s t with | [] => -1 | x :: _ => (x : Int)), .int .i64 0]) ∧ Below w.heap.size w W' := by
  have hbel : Below w.heap.size w ((w.alloc (.cells #[.int .i64 0] 3)).alloc (.cells #[.int .i64 0] 22)) := ((Below.refl _ _).alloc (Nat.le_refl _) _).alloc (by simp) _
  have C := checkTrack_any m A k c s t _ (h.below hbel) hs.byte
  rw [trkE_ok h1 h2 ht hs] at C
  have C := Lib.hid C
  have HS := Lib.hid hs
  have H := Lib.hid h
  have hv : ∃ V : Int, (match trN m s t with | [] => (-1 : Int) | x :: _ => (x : Int)) = V ∧ (trN m s t = [] → V = -1) ∧ ∀ x : Nat, [x] <+: trN m s t → V = x := by
    refine ⟨_, rfl, fun e => by rw [e], fun x hx => ?_⟩
    obtain ⟨r, hr⟩ := hx
    rw [← hr]
    rfl
  obtain ⟨V, hV, hV1, hV2⟩ := hv
  rw [hV]
  have V1 := Lib.hid hV1
  have V2 := Lib.hid hV2
  clear h hs hbel hV hV1 hV2
  refine callsIn_of_wp_marks Try.func9 rfl trivial ?_ rfl
  simp only [Try.ntmps9, List.size_toArray, List.length_cons, List.length_nil, Nat.reduceAdd, Nat.reduceSub, Array.replicate_succ, Array.replicate_zero, List.push_toArray, List.append_toArray, List.nil_append, List.cons_append]
  gi_wp2_with (refine ⟨trivial, ?_⟩; first | (gi_at_call 31; refine (callsIn_wide.2 C.out).mono ?_; rintro e w' ⟨rfl, rfl⟩) | (gi_at_call 32; refine (callsIn_wide.2 (tracks_any m A k c t _)).mono ?_; rintro e w' ⟨rfl, rfl⟩))
  have c6 : ((w.alloc (.cells #[.int .i64 0] 3)).alloc (.cells #[.int .i64 0] 22)).cell? ⟨w.heap.size, 0, none⟩ = some (.int .i64 0) := by
    rw [World.cell?_alloc_lt _ _ _ (by simp)]
    exact box_new _ _ _
  have f6 : ((w.alloc (.cells #[.int .i64 0] 3)).alloc (.cells #[.int .i64 0] 22)).frozen? ⟨w.heap.size, 0, none⟩ = false :=
    (frozen_kept (box_new w (.int .i64 0) 3) (World.grownBy_alloc _ _ none) (fun r e => by cases e)).trans (box_free _ _ _)
  have c7 := box_new (w.alloc (.cells #[.int .i64 0] 3)) (.int .i64 0) 22
  have f7 := box_free (w.alloc (.cells #[.int .i64 0] 3)) (.int .i64 0) 22
  have hb2 : Below w.heap.size w ((w.alloc (.cells #[.int .i64 0] 3)).alloc (.cells #[.int .i64 0] 22)) := ((Below.refl _ _).alloc (Nat.le_refl _) _).alloc (by simp) _
  obtain ⟨b1, b2, b3, b4, b5⟩ := boxes3 ((w.alloc (.cells #[.int .i64 0] 3)).alloc (.cells #[.int .i64 0] 22)) (.int .i64 (m : Int)) (.slice A k c) (.int .i64 (t : Int)) 3 25 3
  rw [World.size_alloc] at c7 f7
  rw [show ((w.alloc (.cells #[.int .i64 0] 3)).alloc (.cells #[.int .i64 0] 22)).heap.size = w.heap.size + 2 from by simp] at b1 b2 b3 b4 b5
  have g4 := grown_of_below (w := (w.alloc (.cells #[.int .i64 0] 3)).alloc (.cells #[.int .i64 0] 22)) (by rw [show ((w.alloc (.cells #[.int .i64 0] 3)).alloc (.cells #[.int .i64 0] 22)).heap.size = w.heap.size + 2 from by simp]; exact b4)
  have hB0 := hb2.trans (b4.mono (by omega))
  have e6 := cell_kept c6 g4 (fun r e => by cases e)
  have e7 := cell_kept c7 g4 (fun r e => by cases e)
  have k6 := (frozen_kept c6 g4 (fun r e => by cases e)).trans f6
  have k7 := (frozen_kept c7 g4 (fun r e => by cases e)).trans f7
  clear c6 c7 f6 f7 g4 hb2
  obtain ⟨W1, hW1⟩ : ∃ W1, W1 = ((((w.alloc (.cells #[.int .i64 0] 3)).alloc (.cells #[.int .i64 0] 22)).alloc (.cells #[.int .i64 (m : Int)] 3)).alloc (.cells #[.slice A k c] 25)).alloc (.cells #[.int .i64 (t : Int)] 3) := ⟨_, rfl⟩
  rw [← hW1] at b1 b2 b3 b4 b5 hB0 e6 e7 k6 k7 ⊢
  clear hW1
  refine wpIn_rangeFunc_ownF rfl (by omega) (gf := 53) (lb := #[.pointer (some ⟨w.heap.size + 1 + 1, 0, none⟩), .pointer (some ⟨w.heap.size + 1 + 1 + 1 + 1, 0, none⟩), .pointer (some ⟨w.heap.size + 1 + 1 + 1, 0, none⟩)]) rfl trivial (enters_of Try.func53 (by kernel_rfl) rfl)
    (tracks_stops 4 w.heap.size (w.heap.size + 1 + 1) m t A k c s W1 (by omega) h1 h2 ht (by omega) (by omega) b1 b2 b3 (H.out.seq.below hB0) H.out.len HS.out.byte (H.out.len.symm.trans HS.out.len)) (fun h k => h.trans k) (KpT.putObj (by omega) (by omega)) (Below.refl _ _) (fun _ => rfl)
    (fun pre W => (pre = [] ∧ W.cell? ⟨w.heap.size, 0, none⟩ = some (.int .i64 0) ∧ W.cell? ⟨w.heap.size + 1, 0, none⟩ = some (.int .i64 0) ∧ W.frozen? ⟨w.heap.size, 0, none⟩ = false ∧ W.frozen? ⟨w.heap.size + 1, 0, none⟩ = false) ∧ Below w.heap.size w W)
    (fun c pre W => (c = .ret ∧ ∃ x : Nat, pre = [x] ∧ W.cell? ⟨w.heap.size, 0, none⟩ = some (.int .i64 (x : Int)) ∧ W.cell? ⟨w.heap.size + 1, 0, none⟩ = some (.int .i64 0)) ∧ Below w.heap.size w W)
    (OwnFrom.and (Own.from (fun s A B row hs hg hr => ⟨hs.1, cell_kept hs.2.1 hg hr, cell_kept hs.2.2.1 hg hr, (frozen_kept hs.2.1 hg hr).trans hs.2.2.2.1, (frozen_kept hs.2.2.1 hg hr).trans hs.2.2.2.2⟩) _) (ownFrom_below (Nat.le_refl _) (by omega)))
    (fun c => OwnFrom.and (Own.from (fun s A B row hs hg hr => ⟨hs.1, by obtain ⟨_, x, h1, h2, h3⟩ := hs; exact ⟨x, h1, cell_kept h2 hg hr, cell_kept h3 hg hr⟩⟩) _) (ownFrom_below (Nat.le_refl _) (by omega)))
    ⟨⟨rfl, e6, e7, k6, k7⟩, hB0⟩
    (fun x => { tmps := #[.int .i64 (m : Int), .slice A k c, .int .i64 (t : Int), undef, undef, undef, .pointer (some ⟨w.heap.size, 0, none⟩), .pointer (some ⟨w.heap.size + 1, 0, none⟩), .int .i64 0, .int .i64 (x : Int), .int .i64 (m : Int), .slice A k c, .int .i64 (t : Int), .int .i64 0, .int .i64 0, .bool false, undef, .int .i64 (m : Int), .slice A k c, .int .i64 (t : Int),
      .func (.func 53) #[] #[.pointer (some ⟨w.heap.size + 1 + 1, 0, none⟩), .pointer (some ⟨w.heap.size + 1 + 1 + 1 + 1, 0, none⟩), .pointer (some ⟨w.heap.size + 1 + 1 + 1, 0, none⟩)], .int .i64 (x : Int), undef], defers := [] }) ?assign ?body ?done ?stop
  case assign =>
    intro l x W K hK
    gi_wp2
    exact hK
  case body =>
    rintro l pre x W ⟨⟨rfl, hc6, hc7, hf6, hf7⟩, hB⟩ hlt
    have hB := Lib.hid hB
    gi_wp2
    refine ⟨(KeepsOthers.setCell _ _ _).trans (KeepsOthers.setCell _ _ _), ⟨rfl, x, rfl, ?_, ?_⟩, (hB.out.setCell (p := ⟨w.heap.size, 0, none⟩) (Nat.le_refl _) _).setCell (p := ⟨w.heap.size + 1, 0, none⟩) (Nat.le_succ _) _⟩
    · exact (set_two hc6 hc7 _ _).1
    · exact (set_two hc6 hc7 _ _).2
  case done =>
    rintro D ys W hD rfl ⟨⟨hnil, hc6, hc7, hf6, hf7⟩, hB⟩ hK
    have HV := Lib.hid (V1.out hnil)
    clear hnil
    have hB := Lib.hid hB
    have hK2 := Lib.hid hK
    gi_wp2
    have hT := set_two hc6 hc7 (.int .i64 (-1)) (.int .i64 0)
    have hK3 := (KeepsOthers.setCell (W.setCell ⟨w.heap.size, 0, none⟩ (.int .i64 (-1))) ⟨w.heap.size + 1, 0, none⟩ (.int .i64 0)).same D _ ((KeepsOthers.setCell W ⟨w.heap.size, 0, none⟩ (.int .i64 (-1))).same D _ hK2.out rfl) rfl
    have hB3 := (hB.out.setCell (p := ⟨w.heap.size, 0, none⟩) (Nat.le_refl _) (.int .i64 (-1))).setCell (p := ⟨w.heap.size + 1, 0, none⟩) (Nat.le_succ _) (.int .i64 0)
    refine ⟨by simp, .inl ⟨_, _, rfl, run_takeDeferred hK3, ?_⟩⟩
    have d6 := cell_kept hT.1 (grownBy_putObj' _ D (.deferred none)) (fun r e => by cases e; exact ⟨_, hK3, rfl⟩)
    have d7 := cell_kept hT.2 (grownBy_putObj' _ D (.deferred none)) (fun r e => by cases e; exact ⟨_, hK3, rfl⟩)
    refine ⟨.tuple #[.int .i64 (-1), .int .i64 0], ?_, by rw [HV.out], hB3.trans (belowK_b (w := w) (Nat.le_refl _) _ D _ _ (by omega) hK3 rfl rfl)⟩
    simp [results, Try.f9, go_sem, d6, d7]
  case stop =>
    rintro D c pre W hD hpre ⟨⟨rfl, x, rfl, hc6, hc7⟩, hB⟩ hK
    have HV := Lib.hid (V2.out x hpre)
    have hB := Lib.hid hB
    have hK2 := Lib.hid hK
    gi_wp2
    refine ⟨by simp, .inl ⟨_, _, rfl, run_takeDeferred hK2.out, ?_⟩⟩
    have d6 := cell_kept hc6 (grownBy_putObj' _ D (.deferred none)) (fun r e => by cases e; exact ⟨_, hK2.out, rfl⟩)
    have d7 := cell_kept hc7 (grownBy_putObj' _ D (.deferred none)) (fun r e => by cases e; exact ⟨_, hK2.out, rfl⟩)
    refine ⟨.tuple #[.int .i64 (x : Int), .int .i64 0], ?_, by rw [HV.out], hB.out.trans (belowK_b (w := w) (Nat.le_refl _) W D _ _ (by omega) hK2.out rfl rfl)⟩
    simp [results, Try.f9, go_sem, d6, d7]

/-- Next, at all arguments. -/
theorem Next_any (n : Int) (A : Option Addr) (k c : Nat) (s : List Int) (t : Int) (w : World) (h : Arg w .u8 A k c s) (hb : ∀ z ∈ s, isByte z) :
    Calls Try.prog 9 #[.int .i64 n, .slice A k c, .int .i64 t] w fun e W' => e = .returned (.tuple #[.int .i64 (nextV n s t), .int .i64 (trkE n s t)]) ∧ Below w.heap.size w W' := by
  unfold nextV
  by_cases hc : trkE n s t = 0
  · rw [if_pos hc, hc]
    obtain ⟨m, u, rfl, rfl, h1, h2, h3, h4⟩ := trkE_zero hb hc
    rw [Int.toNat_natCast, Int.toNat_natCast]
    exact callsIn_wide.1 (Next_in m u A k c s w h h1 h2 h4 h3)
  · rw [if_neg hc]
    exact Next_bad n A k c s t w h hb hc

end Go.Proofs.Ytpkecbejnpkieaa
