/- Layer 3, package bits: the loops over the iterator: Count, List, Next. -/
import Derived.Test.YtpkecbejnpkieaaBitsI
namespace Go.Proofs.Ytpkecbejnpkieaa
open Go.RowKit Go.Shelf
set_option linter.unusedVariables false
attribute [local go_sem] Oper.semAt_some

theorem tracks_any (m : Nat) (A : Option Addr) (k c : Nat) (f : Nat) (w : World) :
    Calls Try.prog 32 #[.int .i64 (m : Int), .slice A k c, .int .i64 (f : Int)] w fun e w' =>
      e = .returned (.func (.func 53) #[] #[.pointer (some ⟨w.heap.size, 0, none⟩), .pointer (some ⟨w.heap.size + 1 + 1, 0, none⟩), .pointer (some ⟨w.heap.size + 1, 0, none⟩)]) ∧
      w' = ((w.alloc (.cells #[.int .i64 (m : Int)] 3)).alloc (.cells #[.slice A k c] 25)).alloc (.cells #[.int .i64 (f : Int)] 3) := by
  go_enter Try.func32, Try.ntmps32
  go_wp2
  go_ret
  exact ⟨rfl, rfl⟩

theorem tracks_stops (n B0 B1 m f : Nat) (A : Option Addr) (k c : Nat) (s : List Int) (w : World) (hn : 2 ≤ n) (hm1 : 1 ≤ m) (hm2 : m ≤ 16) (hf : f < m) (hB : B0 ≤ B1) (hB1 : B1 + 3 ≤ w.heap.size)
    (c1 : w.cell? ⟨B1, 0, none⟩ = some (.int .i64 (m : Int))) (c2 : w.cell? ⟨B1 + 1, 0, none⟩ = some (.slice A k c)) (c3 : w.cell? ⟨B1 + 2, 0, none⟩ = some (.int .i64 (f : Int)))
    (hA : Seq w B0 A (ints .u8 s)) (hl : s.length = k) (hb : ∀ z ∈ s, isByte z) (hk : k = pgs m) :
    SeqStopsK Fence.wide n Try.prog 53 #[.pointer (some ⟨B1, 0, none⟩), .pointer (some ⟨B1 + 2, 0, none⟩), .pointer (some ⟨B1 + 1, 0, none⟩)] (fun x : Nat => #[Value.int .i64 (x : Int)]) (KpT B0 B1) (fun ys => ys = trN m s f) (fun pre => pre <+: trN m s f) (trN m s f).length w :=
  fun l J Jx W hW hJ _ hY h0 =>
    tracks1_in n l B0 B1 m f A k c s J Jx W hn hm1 hm2 hf hY W.heap.size hJ
      ((hW.cell (p := ⟨B1, 0, none⟩) (by show B1 < _; omega)).trans c1) ((hW.cell (p := ⟨B1 + 1, 0, none⟩) (by show B1 + 1 < _; omega)).trans c2) ((hW.cell (p := ⟨B1 + 2, 0, none⟩) (by show B1 + 2 < _; omega)).trans c3)
      (hA.keep fun p hp => hW.cell (by omega)) hl hb hk h0
theorem trN_length (m : Nat) (s : List Int) (f : Nat) : (trN m s f).length ≤ m := by
  have := List.length_filter_le (hasT s) ((List.range m).map (fun i => (f + i) % m))
  simpa [trN] using this

/-- The three boxes of tracks. -/
theorem boxes3 (w : World) (v1 v2 v3 : Value) (t1 t2 t3 : TypeId) :
    (((w.alloc (.cells #[v1] t1)).alloc (.cells #[v2] t2)).alloc (.cells #[v3] t3)).cell? ⟨w.heap.size, 0, none⟩ = some v1 ∧
    (((w.alloc (.cells #[v1] t1)).alloc (.cells #[v2] t2)).alloc (.cells #[v3] t3)).cell? ⟨w.heap.size + 1, 0, none⟩ = some v2 ∧
    (((w.alloc (.cells #[v1] t1)).alloc (.cells #[v2] t2)).alloc (.cells #[v3] t3)).cell? ⟨w.heap.size + 2, 0, none⟩ = some v3 ∧
    Below w.heap.size w (((w.alloc (.cells #[v1] t1)).alloc (.cells #[v2] t2)).alloc (.cells #[v3] t3)) ∧
    (((w.alloc (.cells #[v1] t1)).alloc (.cells #[v2] t2)).alloc (.cells #[v3] t3)).heap.size = w.heap.size + 3 := by
  have a1 := box_new w v1 t1
  have a2 := box_new (w.alloc (.cells #[v1] t1)) v2 t2
  have a3 := box_new ((w.alloc (.cells #[v1] t1)).alloc (.cells #[v2] t2)) v3 t3
  simp only [World.size_alloc] at a2 a3
  refine ⟨?_, ?_, a3, ?_, by simp⟩
  · rw [World.cell?_alloc_lt _ _ _ (by simp; omega), World.cell?_alloc_lt _ _ _ (by simp)]
    exact a1
  · rw [World.cell?_alloc_lt _ _ _ (by simp)]
    exact a2
  · exact (((Below.refl _ _).alloc (Nat.le_refl _) _).alloc (by simp) _).alloc (by simp; omega) _

set_option maxRecDepth 100000 in
set_option maxHeartbeats 2000000 in
theorem Count_in (m : Nat) (A : Option Addr) (k c : Nat) (s : List Int) (w : World) (h : Arg w .u8 A k c s) (h1 : 1 ≤ m) (h2 : m ≤ 16) (hs : IsSet m s) :
    CallsIn Fence.wide 5 Try.prog 21 #[.int .i64 (m : Int), .slice A k c] w fun e W' => e = .returned (.tuple #[.int .i64 ((trN m s 0).length : Int), .int .i64 0]) ∧ Below w.heap.size w W' := by
  have C := check_any m A k c s w h hs.byte
  rw [chk_set h1 h2 hs] at C
  have C := Lib.hid C
  have HS := Lib.hid hs
  have H := Lib.hid h
  have hlen := trN_length m s 0
  clear h hs
  refine callsIn_of_wp_marks Try.func21 rfl trivial ?_ rfl
  simp only [Try.ntmps21, List.size_toArray, List.length_cons, List.length_nil, Nat.reduceAdd, Nat.reduceSub, Array.replicate_succ, Array.replicate_zero, List.push_toArray, List.append_toArray, List.nil_append, List.cons_append]
  gi_wp2_with (refine ⟨trivial, ?_⟩; first | (gi_at_call 14; refine (callsIn_wide.2 C.out).mono ?_; rintro e w' ⟨rfl, rfl⟩) | (gi_at_call 32; refine (callsIn_wide.2 (tracks_any m A k c 0 _)).mono ?_; rintro e w' ⟨rfl, rfl⟩))
  obtain ⟨b1, b2, b3, b4, b5⟩ := boxes3 (w.alloc (.cells #[.int .i64 0] 3)) (.int .i64 (m : Int)) (.slice A k c) (.int .i64 0) 3 25 3
  rw [show (w.alloc (.cells #[.int .i64 0] 3)).heap.size = w.heap.size + 1 from World.size_alloc _ _] at b1 b2 b3 b4 b5
  have hB0 := (((Below.refl w.heap.size w).alloc (Nat.le_refl _) (.cells #[.int .i64 0] 3)).trans (b4.mono (Nat.le_succ _)))
  have hc0 := (b4.cell (p := ⟨w.heap.size, 0, none⟩) (Nat.lt_succ_self _)).trans (box_new w (.int .i64 0) 3)
  have hf0 := (frozen_kept (box_new w (.int .i64 0) 3) (grown_of_below (by rw [World.size_alloc]; exact b4)) (fun r e => by cases e)).trans (box_free w (.int .i64 0) 3)
  obtain ⟨W1, hW1⟩ : ∃ W1, W1 = (((w.alloc (.cells #[.int .i64 0] 3)).alloc (.cells #[.int .i64 (m : Int)] 3)).alloc (.cells #[.slice A k c] 25)).alloc (.cells #[.int .i64 0] 3) := ⟨_, rfl⟩
  rw [← hW1] at b1 b2 b3 b4 b5 hB0 hc0 hf0 ⊢
  clear hW1
  refine wpIn_rangeFunc_ownF rfl (by omega) (gf := 53) (lb := #[.pointer (some ⟨w.heap.size + 1, 0, none⟩), .pointer (some ⟨w.heap.size + 1 + 1 + 1, 0, none⟩), .pointer (some ⟨w.heap.size + 1 + 1, 0, none⟩)]) rfl trivial (enters_of Try.func53 (by kernel_rfl) rfl)
    (tracks_stops 4 w.heap.size (w.heap.size + 1) m 0 A k c s W1 (by omega) h1 h2 (by omega) (Nat.le_succ _) (by omega) b1 b2 b3 (H.out.seq.below hB0) H.out.len HS.out.byte (H.out.len.symm.trans HS.out.len)) (fun h k => h.trans k) (KpT.putObj (Nat.le_succ _) (by omega)) (Below.refl _ _) (fun _ => rfl)
    (fun pre W => (W.cell? ⟨w.heap.size, 0, none⟩ = some (.int .i64 (pre.length : Int)) ∧ W.frozen? ⟨w.heap.size, 0, none⟩ = false) ∧ (Below w.heap.size w W ∧ w.heap.size + 4 ≤ W.heap.size))
    (fun _ _ _ => False)
    (OwnFrom.and (Own.from (fun s A B row hs hg hr => ⟨cell_kept hs.1 hg hr, (frozen_kept hs.1 hg hr).trans hs.2⟩) _) (OwnFrom.and (ownFrom_below (Nat.le_refl _) (by omega)) (fun s W W' row hs hg hr => Nat.le_trans hs hg.size)))
    (fun _ _ _ _ _ hs _ _ => hs)
    ⟨⟨hc0, hf0⟩, hB0, by omega⟩
    (fun x => { tmps := #[.int .i64 (m : Int), .slice A k c, undef, undef, .int .i64 0, .int .i64 0, .int .i64 0, .pointer (some ⟨w.heap.size, 0, none⟩), .int .i64 (m : Int), .slice A k c, .int .i64 0, .int .i64 0, .bool false, undef, .int .i64 (m : Int), .slice A k c,
      .func (.func 53) #[] #[.pointer (some ⟨w.heap.size + 1, 0, none⟩), .pointer (some ⟨w.heap.size + 1 + 1 + 1, 0, none⟩), .pointer (some ⟨w.heap.size + 1 + 1, 0, none⟩)], .int .i64 (x : Int), undef, undef, undef], defers := [] }) ?assign ?body ?done ?stop
  case assign =>
    intro l x W K hK
    gi_wp2
    simp
    exact hK
  case body =>
    rintro l pre x W ⟨⟨hc, hf⟩, hB, hz⟩ hlt
    have hB := Lib.hid hB
    have hp16 : pre.length < 16 := by omega
    gi_wp2
    refine ⟨KeepsOthers.setCell _ _ _, KpT.grown (grownBy_set _ _ _ _) (Nat.le_succ _) (by omega) (fun g e => by injection e with e; omega), ⟨?_, by rw [World.frozen?_setCell]; exact hf⟩, hB.out.setCell (p := ⟨w.heap.size, 0, none⟩) (Nat.le_refl _) _, by simp [World.setCell]; omega⟩
    rw [List.length_append, List.length_singleton]
    exact World.cell?_setCell_same' _ _ _ (by rw [hc]; rfl)
  case done =>
    rintro D ys W hD rfl ⟨⟨hc, hf⟩, hB, hz⟩ hK
    have hfin := hB.trans (belowK_b (w := w) (Nat.le_refl _) W D _ (.deferred none) (by omega) hK rfl rfl)
    have hfin := Lib.hid hfin
    have hK2 := Lib.hid hK
    clear hB
    gi_wp2
    refine ⟨by simp, .inl ⟨_, _, rfl, run_takeDeferred hK2.out, ?_⟩⟩
    exact ⟨_, results_tmp2 rfl _ _ _, rfl, hfin.out⟩
  case stop =>
    rintro D c pre W _ _ h _
    exact h.elim

/-- Count, at all arguments. -/
theorem Count_any (n : Int) (A : Option Addr) (k c : Nat) (s : List Int) (w : World) (h : Arg w .u8 A k c s) (hb : ∀ z ∈ s, isByte z) :
    Calls Try.prog 21 #[.int .i64 n, .slice A k c] w fun e W' => e = .returned (.tuple #[.int .i64 ((listN n s).length : Int), .int .i64 (chk n s)]) ∧ Below w.heap.size w W' := by
  by_cases hc : chk n s = 0
  · obtain ⟨m, rfl, h1, h2, h3⟩ := chk_zero hb hc
    have e : listN (m : Int) s = trN m s 0 := by unfold listN; rw [if_pos hc, trN_zero, Int.toNat_natCast]
    rw [e, hc]
    exact callsIn_wide.1 (Count_in m A k c s w h h1 h2 h3)
  · have e : listN n s = [] := by unfold listN; rw [if_neg hc]
    have C := check_any n A k c s w h hb
    rw [e]
    have hne : (chk n s != 0) = true := by rw [bne_iff_ne]; exact hc
    obtain ⟨E, hE⟩ : ∃ E, E = chk n s := ⟨_, rfl⟩
    rw [← hE] at C hne ⊢
    have C := Lib.hid C
    clear h hb hc hE e
    go_enter Try.func21, Try.ntmps21
    go_wp2_with fail
    refine C.out.mono ?_
    rintro e w' ⟨rfl, rfl⟩
    go_wp2
    go_ret2
    exact ⟨rfl, Below.refl _ _⟩

theorem int_info : (Try.prog.info? 3).map (fun i => (i.zero, i.size, i.bytes)) = some (some (.int .i64 0), 1, 8) := by kernel_rfl
/-- Numbers as a row of ints. -/
def nats (l : List Nat) : List Value := ints .i64 (l.map Int.ofNat)
theorem nats_app (l : List Nat) (x : Nat) : nats (l ++ [x]) = nats l ++ [.int .i64 (x : Int)] := by simp [nats, ints]

set_option maxRecDepth 100000 in
set_option maxHeartbeats 2000000 in
theorem List_in (m : Nat) (A : Option Addr) (k c : Nat) (s : List Int) (w : World) (h : Arg w .u8 A k c s) (h1 : 1 ≤ m) (h2 : m ≤ 16) (hs : IsSet m s) :
    CallsIn Fence.wide 5 Try.prog 19 #[.int .i64 (m : Int), .slice A k c] w fun e W' => ∃ v, e = .returned (.tuple #[v, .int .i64 0]) ∧ W'.ownsRow w.heap.size 3 1 v (trN m s 0).length (nats (trN m s 0)) ∧ Below w.heap.size w W' := by
  have C := check_any m A k c s w h hs.byte
  rw [chk_set h1 h2 hs] at C
  have C := Lib.hid C
  have HS := Lib.hid hs
  have H := Lib.hid h
  have hlen := trN_length m s 0
  have hml : (100 : Nat) ≤ maxLen := by decide
  obtain ⟨i0, hi, hz0, hz1, hz2⟩ := info_parts int_info
  clear h hs
  refine callsIn_of_wp_marks Try.func19 rfl trivial ?_ rfl
  simp only [Try.ntmps19, List.size_toArray, List.length_cons, List.length_nil, Nat.reduceAdd, Nat.reduceSub, Array.replicate_succ, Array.replicate_zero, List.push_toArray, List.append_toArray, List.nil_append, List.cons_append]
  gi_wp2_with (refine ⟨trivial, ?_⟩; first | (gi_at_call 14; refine (callsIn_wide.2 C.out).mono ?_; rintro e w' ⟨rfl, rfl⟩) | (gi_at_call 32; refine (callsIn_wide.2 (tracks_any m A k c 0 _)).mono ?_; rintro e w' ⟨rfl, rfl⟩))
  obtain ⟨b1, b2, b3, b4, b5⟩ := boxes3 (w.alloc (.cells #[.slice none 0 0] 29)) (.int .i64 (m : Int)) (.slice A k c) (.int .i64 0) 3 25 3
  rw [show (w.alloc (.cells #[.slice none 0 0] 29)).heap.size = w.heap.size + 1 from World.size_alloc _ _] at b1 b2 b3 b4 b5
  have hB0 := (((Below.refl w.heap.size w).alloc (Nat.le_refl _) (.cells #[.slice none 0 0] 29)).trans (b4.mono (Nat.le_succ _)))
  have bO := (Boxed.new w 29 (.slice none 0 0)).kept (grown_of_below (by rw [World.size_alloc]; exact b4)) (by simp)
  obtain ⟨W1, hW1⟩ : ∃ W1, W1 = (((w.alloc (.cells #[.slice none 0 0] 29)).alloc (.cells #[.int .i64 (m : Int)] 3)).alloc (.cells #[.slice A k c] 25)).alloc (.cells #[.int .i64 0] 3) := ⟨_, rfl⟩
  rw [← hW1] at b1 b2 b3 b4 b5 hB0 bO ⊢
  clear hW1
  refine wpIn_rangeFunc_ownF rfl (by omega) (gf := 53) (lb := #[.pointer (some ⟨w.heap.size + 1, 0, none⟩), .pointer (some ⟨w.heap.size + 1 + 1 + 1, 0, none⟩), .pointer (some ⟨w.heap.size + 1 + 1, 0, none⟩)]) rfl trivial (enters_of Try.func53 (by kernel_rfl) rfl)
    (tracks_stops 4 w.heap.size (w.heap.size + 1) m 0 A k c s W1 (by omega) h1 h2 (by omega) (Nat.le_succ _) (by omega) b1 b2 b3 (H.out.seq.below hB0) H.out.len HS.out.byte (H.out.len.symm.trans HS.out.len)) (fun h k => h.trans k) (KpT.putObj (Nat.le_succ _) (by omega)) (Below.refl _ _) (fun _ => rfl)
    (fun pre W => (∃ v, Boxed W w.heap.size 29 v ∧ W.ownsRow (w.heap.size + 4) 3 1 v pre.length (nats pre) ∧ True) ∧ (Below w.heap.size w W ∧ w.heap.size + 4 ≤ W.heap.size))
    (fun _ _ _ => False)
    (OwnFrom.and (Own.from (holdsRow_own (w.heap.size + 4) w.heap.size 29 3 1 (fun pre : List Nat => pre.length) (fun pre => nats pre) (fun _ _ => True)) _) (OwnFrom.and (ownFrom_below (Nat.le_refl _) (by omega)) (fun s W W' row hs hg hr => Nat.le_trans hs hg.size)))
    (fun _ _ _ _ _ hs _ _ => hs)
    ⟨⟨_, bO, World.ownsRow_nil _ _ _ _, trivial⟩, hB0, by omega⟩
    (fun x => { tmps := #[.int .i64 (m : Int), .slice A k c, undef, undef, .slice none 0 0, .int .i64 0, .int .i64 0, .pointer (some ⟨w.heap.size, 0, none⟩), .int .i64 (x : Int), .int .i64 (m : Int), .slice A k c, .int .i64 0, .int .i64 0, .bool false, undef, .int .i64 (m : Int), .slice A k c,
      .func (.func 53) #[] #[.pointer (some ⟨w.heap.size + 1, 0, none⟩), .pointer (some ⟨w.heap.size + 1 + 1 + 1, 0, none⟩), .pointer (some ⟨w.heap.size + 1 + 1, 0, none⟩)], .int .i64 (x : Int), undef, undef, undef, undef, undef], defers := [] }) ?assign ?body ?done ?stop
  case assign =>
    intro l x W K hK
    gi_wp2
    exact hK
  case body =>
    rintro l pre x W ⟨⟨v, hv, hrow, _⟩, hB, hz⟩ hlt
    have hB := Lib.hid hB
    have hp16 : pre.length < 16 := by omega
    have hc := hv.cell
    gi_wp2_with (gi_at_builtin; refine wpListIn_append_own _ rfl _ _ 29 rfl (w.heap.size + 4) 3 i0 (.int .i64 0) 1 8 Try.underlying29 hi hz0 hz1 hz2 rfl (by decide) _ _ _ rfl (hrow.alloc _) ⟨W.heap.size, 0, none⟩ 1 1 [.int .i64 (x : Int)] rfl rfl (cell_one_new _ _ _) (by simp [Value.oneCell']) (by omega) (by omega) (by simp; omega) ?_; intro v' w1 hown' hgrow _; obtain ⟨g', cap', rfl⟩ := ownsRow_succ hown'; obtain ⟨hv1, hv2, hr2, hk2, hb2⟩ := hv.appended (by decide) (owns_base hrow (show w.heap.size ≤ _ by omega)) (by omega) (Nat.le_refl _) (owns_base hown' (by omega)) hgrow; have hc1 := hv1.cell; have hf1 := hv1.frozen; have hr3 := hown'.kept (grownBy_setCell' w1 w.heap.size (Value.slice (some ⟨g', 0, none⟩) (pre.length + 1) cap')) (.inr (hv1.not_row (by decide) hown').symm); have hgr := Lib.hid hgrow; clear hgrow)
    have hkp : KpT w.heap.size (w.heap.size + 1) W (w1.setCell ⟨w.heap.size, 0, none⟩ (Value.slice (some ⟨g', 0, none⟩) (pre.length + 1) cap')) := by
      refine ((KpT.grown (World.grownBy_alloc W _ none) (Nat.le_succ _) (by omega) (fun g e => by cases e)).trans (KpT.grown hgr.out (Nat.le_succ _) (by simp; omega) (fun g e => ?_))).trans (KpT.grown (grownBy_set _ _ _ _) (Nat.le_succ _) (by have := hgr.out.size; simp at this; omega) (fun g e => by injection e with e; omega))
      have := (hrow.lt g e).1
      omega
    have hsz : w.heap.size + 4 ≤ (w1.setCell ⟨w.heap.size, 0, none⟩ (Value.slice (some ⟨g', 0, none⟩) (pre.length + 1) cap')).heap.size := by
      have := hgr.out.size
      simp [World.setCell] at this ⊢
      omega
    refine ⟨hk2, hkp, ⟨_, hv2, ?_, trivial⟩, hB.out.trans hb2, hsz⟩
    rw [nats_app, List.length_append, List.length_singleton]
    exact hr3
  case done =>
    rintro D ys W hD rfl ⟨⟨v, hv, hrow, _⟩, hB, hz⟩ hK
    have hc := hv.cell
    have hfin := hB.trans (belowK_b (w := w) (Nat.le_refl _) W D _ (.deferred none) (by omega) hK rfl rfl)
    have hfin := Lib.hid hfin
    have hrow := Lib.hid (owns_base (ownsRow_putObj hrow (.deferred none) hK rfl) (show w.heap.size ≤ _ by omega))
    have hK2 := Lib.hid hK
    clear hB
    gi_wp2
    refine ⟨by simp, .inl ⟨_, _, rfl, run_takeDeferred hK2.out, ?_⟩⟩
    exact ⟨_, results_tmp2 rfl _ _ _, _, rfl, hrow.out, hfin.out⟩
  case stop =>
    rintro D c pre W _ _ h _
    exact h.elim

/-- List, at all arguments. -/
theorem List_any (n : Int) (A : Option Addr) (k c : Nat) (s : List Int) (w : World) (h : Arg w .u8 A k c s) (hb : ∀ z ∈ s, isByte z) :
    Calls Try.prog 19 #[.int .i64 n, .slice A k c] w (RowOut .i64 3 w (listL n s) (chk n s)) := by
  by_cases hc : chk n s = 0
  · obtain ⟨m, rfl, h1, h2, h3⟩ := chk_zero hb hc
    have e : listN (m : Int) s = trN m s 0 := by unfold listN; rw [if_pos hc, trN_zero, Int.toNat_natCast]
    have hl : (listL (m : Int) s).length = (trN m s 0).length := by unfold listL; rw [List.length_map, e]
    have hn : nats (trN m s 0) = ints .i64 (listL (m : Int) s) := by unfold listL nats; rw [e]
    rw [hc]
    refine (callsIn_wide.1 (List_in m A k c s w h h1 h2 h3)).mono ?_
    rintro e w' ⟨v, rfl, hown, hbel⟩
    obtain ⟨A', c', rfl⟩ := owns_slice hown
    rw [hn, ← hl] at hown
    exact ⟨A', c', by rw [hl], hown, hbel⟩
  · have e : listL n s = [] := by unfold listL listN; rw [if_neg hc]; rfl
    have C := check_any n A k c s w h hb
    rw [e]
    have hne : (chk n s != 0) = true := by rw [bne_iff_ne]; exact hc
    obtain ⟨E, hE⟩ : ∃ E, E = chk n s := ⟨_, rfl⟩
    rw [← hE] at C hne ⊢
    have C := Lib.hid C
    clear h hb hc hE e
    go_enter Try.func19, Try.ntmps19
    go_wp2_with fail
    refine C.out.mono ?_
    rintro e w' ⟨rfl, rfl⟩
    go_wp2
    go_ret2
    exact RowOut.nil _ _ _ _

end Go.Proofs.Ytpkecbejnpkieaa
