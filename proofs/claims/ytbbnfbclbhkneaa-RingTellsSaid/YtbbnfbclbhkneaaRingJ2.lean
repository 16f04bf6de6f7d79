/- Layer 4, package ring: Check, its loop. -/
import Derived.Test.YtbbnfbclbhkneaaRingJ
namespace Go.Proofs.Ytbbnfbclbhkneaa
open Go.RowKit Go.Shelf
set_option linter.unusedVariables false
attribute [local go_sem] Oper.semAt_some

set_option maxRecDepth 100000 in
set_option maxHeartbeats 2000000 in
theorem check_in (A : Option Addr) (n c H M : Nat) (q : List Text) (w : World) (hq : Texts w A n c q) (h1 : 1 ≤ n) (h64 : n ≤ 64) (hH : H < n) (hM : M ≤ n) :
    CallsIn Fence.wide 5 Try.prog 10 #[queueV A n c (H : Int) (M : Int)] w fun e W' => e = .returned (.int .i64 (chkQ q (H : Int) (M : Int))) ∧ Below w.heap.size w W' := by
  obtain ⟨x1, x2, hbel⟩ := boxesC w A n c (H : Int) (M : Int)
  have R := isRoom_any (n : Int) ((w.alloc (.cells #[.slice A n c, .int .i64 (H : Int), .int .i64 (M : Int)] 24)).alloc (.cells #[.int .i64 0] 25))
  rw [decide_eq_true (show 1 ≤ (n : Int) ∧ (n : Int) ≤ 64 by omega)] at R
  have R := Lib.hid R
  have d0 := x1.cell 0
  have d1 := x1.cell 1
  have d2 := x1.cell 2
  simp only [List.getElem?_cons_zero, List.getElem?_cons_succ] at d0 d1 d2
  have BEL := Lib.hid hbel
  have X2 := Lib.hid x2
  obtain ⟨s, hsq0, hsa⟩ := hq.vals
  have HSQ := Lib.hid hsq0
  have HSA := Lib.hid hsa
  have hql := hq.len
  have IT := Lib.hid (show ∀ x, itm q H x = q.getD ((H + x) % n) [] from fun x => by unfold itm; rw [hql])
  have hmay := mayB_iff q (H : Int) (M : Int)
  rw [hql, Int.toNat_natCast, Int.toNat_natCast] at hmay
  have YES : (∀ x, M ≤ x → x < n → itm q H x = []) → chkQ q (H : Int) (M : Int) = 0 := fun hall => by
    unfold chkQ
    rw [if_pos (hmay.2 ⟨⟨by omega, by omega, by omega, by omega, by omega, by omega⟩, fun k h1 h2 => hall k h2 h1⟩)]
  have NO : ∀ x, M ≤ x → x < n → itm q H x ≠ [] → chkQ q (H : Int) (M : Int) = 8 := fun x h1 h2 h3 => by
    unfold chkQ
    rw [if_neg fun h => h3 ((hmay.1 h).2 x h2 h1)]
  have YES := Lib.hid YES
  have NO := Lib.hid NO
  obtain ⟨E, hE⟩ : ∃ E, E = chkQ q (H : Int) (M : Int) := ⟨_, rfl⟩
  rw [← hE] at YES NO ⊢
  have hHi : decide ((H : Int) < 0) = false := decide_eq_false (by omega)
  have hHn : ¬ (n : Int) ≤ (H : Int) := by omega
  have hMi : decide ((M : Int) < 0) = false := decide_eq_false (by omega)
  have hMn : ¬ (n : Int) < (M : Int) := by omega
  clear hq hbel x1 x2 hsq0 hsa hql hmay hE
  refine callsIn_of_wp_marks Try.func10 rfl trivial ?_ rfl
  simp only [Try.ntmps10, List.size_toArray, List.length_cons, List.length_nil, Nat.reduceAdd, Nat.reduceSub, Array.replicate_succ, Array.replicate_zero, List.push_toArray, List.append_toArray, List.nil_append, List.cons_append]
  gi_wp2_with (refine ⟨trivial, ?_⟩; first | (gi_at_call 25; refine (callsIn_wide.2 R.out).mono ?_; rintro e w' ⟨rfl, rfl⟩) | (gi_at_call 28; refine (callsIn_wide.2 (part_any A n c H M M n _)).mono ?_; rintro e w' ⟨rfl, rfl⟩))
  have hc0 := X2.out.cell 0
  have hf0 := X2.out.free 0
  simp only [List.getElem?_cons_zero] at hc0
  obtain ⟨b0, b1, b2, b3, b4, b5, b6⟩ := boxesP ((w.alloc (.cells #[.slice A n c, .int .i64 (H : Int), .int .i64 (M : Int)] 24)).alloc (.cells #[.int .i64 0] 25)) A n c (H : Int) (M : Int) (M : Int) (n : Int)
  have hz2 : ((w.alloc (.cells #[.slice A n c, .int .i64 (H : Int), .int .i64 (M : Int)] 24)).alloc (.cells #[.int .i64 0] 25)).heap.size = w.heap.size + 2 := by simp
  have g5 := grown_of_below b5
  rw [hz2] at b0 b1 b2 b3 b4 b5 b6
  have e0 := cell_kept hc0 g5 (fun r e => by cases e)
  have k0 := (frozen_kept hc0 g5 (fun r e => by cases e)).trans hf0
  have hB0 := BEL.out.trans (b5.mono (by omega))
  obtain ⟨W1, hW1⟩ : ∃ W1, W1 = ((((w.alloc (.cells #[.slice A n c, .int .i64 (H : Int), .int .i64 (M : Int)] 24)).alloc (.cells #[.int .i64 0] 25)).alloc (.cells #[.slice A n c, .int .i64 (H : Int), .int .i64 (M : Int)] 24)).alloc (.cells #[.int .i64 (M : Int)] 3)).alloc (.cells #[.int .i64 (n : Int)] 3) := ⟨_, rfl⟩
  rw [← hW1] at b0 b1 b2 b3 b4 b5 b6 e0 k0 hB0 ⊢
  clear hW1 g5 hc0 hf0 hz2 d0 d1 d2 R BEL X2
  refine wpIn_rangeFunc_ownF rfl (by omega) (gf := 34) (lb := #[.pointer (some ⟨w.heap.size + 1 + 1 + 1, 0, none⟩), .pointer (some ⟨w.heap.size + 1 + 1 + 1 + 1, 0, none⟩), .pointer (some ⟨w.heap.size + 1 + 1, 0, none⟩)]) rfl trivial (enters_of Try.func34 (by kernel_rfl) rfl)
    (part_stops 4 w.heap.size (w.heap.size + 1 + 1) M n A n c H (M : Int) s W1 (by omega) (by omega) (by omega) h1 h64 hH hM h64 b0 b1 b2 b3 b4 (HSQ.out.below hB0)) (fun h k => h.trans k) (KpT.putObj (by omega) (by omega)) (Below.refl _ _) (fun _ => rfl)
    (fun pre W => (W.cell? ⟨w.heap.size + 1, 0, none⟩ = some (.int .i64 0) ∧ W.frozen? ⟨w.heap.size + 1, 0, none⟩ = false ∧ ∀ x ∈ pre, itm q H x = []) ∧ Below w.heap.size w W)
    (fun c pre W => (c = .ret ∧ W.cell? ⟨w.heap.size + 1, 0, none⟩ = some (.int .i64 8) ∧ ∃ x ∈ pre, itm q H x ≠ []) ∧ Below w.heap.size w W)
    (OwnFrom.and (Own.from (fun s A B row hs hg hr => ⟨cell_kept hs.1 hg hr, (frozen_kept hs.1 hg hr).trans hs.2.1, hs.2.2⟩) _) (ownFrom_below (Nat.le_refl _) (by omega)))
    (fun c => OwnFrom.and (Own.from (fun s A B row hs hg hr => ⟨hs.1, cell_kept hs.2.1 hg hr, hs.2.2⟩) _) (ownFrom_below (Nat.le_refl _) (by omega)))
    ⟨⟨e0, k0, fun x hx => by cases hx⟩, hB0⟩
    (fun x => { tmps := #[queueV A n c (H : Int) (M : Int), .pointer (some ⟨w.heap.size, 0, none⟩), .pointer (some ⟨w.heap.size + 1, 0, none⟩), .int .i64 (n : Int), .slice (s ((H + x) % n)).1 (s ((H + x) % n)).2.1 (s ((H + x) % n)).2.2, .pointer (some ⟨w.heap.size, 0, none⟩), .slice A n c, .int .i64 (n : Int), .int .i64 (n : Int), .bool true, .bool false, .bool false,
      .pointer (some ⟨w.heap.size, 1, none⟩), .int .i64 (H : Int), .bool false, .bool false, .bool false, .pointer (some ⟨w.heap.size, 1, none⟩), .int .i64 (H : Int), .int .i64 (n : Int), .bool false, .bool false, .bool false, .pointer (some ⟨w.heap.size, 2, none⟩), .int .i64 (M : Int), .bool false, .bool false, .bool false, .pointer (some ⟨w.heap.size, 2, none⟩), .int .i64 (M : Int), .int .i64 (n : Int), .bool false, .bool false,
      queueV A n c (H : Int) (M : Int), .pointer (some ⟨w.heap.size, 2, none⟩), .int .i64 (M : Int), .int .i64 (n : Int),
      .func (.func 34) #[] #[.pointer (some ⟨w.heap.size + 1 + 1 + 1, 0, none⟩), .pointer (some ⟨w.heap.size + 1 + 1 + 1 + 1, 0, none⟩), .pointer (some ⟨w.heap.size + 1 + 1, 0, none⟩)], .slice (s ((H + x) % n)).1 (s ((H + x) % n)).2.1 (s ((H + x) % n)).2.2, undef, undef, undef], defers := [] }) ?assign ?body ?done ?stop
  case assign =>
    intro l x W K hK
    gi_wp2
    exact hK
  case body =>
    rintro l pre x W ⟨⟨hc, hf, hall⟩, hB⟩ hlt
    have hp : (H + x) % n < n := Nat.mod_lt _ (by omega)
    have hlen := (HSA.out _ hp).len
    have hmax := Nat.le_trans (HSA.out _ hp).cap (HSA.out _ hp).max
    rw [← IT.out x] at hlen
    obtain ⟨ni, hni⟩ : ∃ ni, ni = (s ((H + x) % n)).2.1 := ⟨_, rfl⟩
    obtain ⟨ci, hci⟩ : ∃ ci, ci = (s ((H + x) % n)).2.2 := ⟨_, rfl⟩
    obtain ⟨Ai, hAi⟩ : ∃ Ai, Ai = (s ((H + x) % n)).1 := ⟨_, rfl⟩
    rw [← hni] at hlen hmax
    rw [← hni, ← hci, ← hAi]
    unfold maxLen at hmax
    have hB := Lib.hid hB
    have HALL := Lib.hid hall
    have HLEN := Lib.hid hlen
    clear hni hci hAi hall hlen
    by_cases h0 : ni = 0
    · subst h0
      gi_wp2
      refine ⟨KeepsOthers.refl _, KpT.refl _ _ _, ⟨hc, hf, fun y hy => ?_⟩, hB.out⟩
      rcases List.mem_append.1 hy with hy | hy
      · exact HALL.out y hy
      · rw [List.mem_singleton] at hy
        subst hy
        exact List.eq_nil_of_length_eq_zero HLEN.out
    · have hpos : ¬ (ni : Int) = 0 := by omega
      gi_wp2
      refine ⟨KeepsOthers.setCell _ _ _, ⟨rfl, World.cell?_setCell_same' _ _ _ (by rw [hc]; rfl), x, by simp, fun e => h0 ?_⟩, hB.out.setCell (p := ⟨w.heap.size + 1, 0, none⟩) (Nat.le_succ _) _⟩
      rw [← HLEN.out, e]
      rfl
  case done =>
    rintro D ys W hD rfl ⟨⟨hc, hf, hall⟩, hB⟩ hK
    have HE := Lib.hid (YES.out fun x h1 h2 => hall x (upN_mem.2 ⟨h1, by omega⟩))
    have hB := Lib.hid hB
    have hK2 := Lib.hid hK
    clear hall
    gi_wp2
    have hT := World.cell?_setCell_same' W ⟨w.heap.size + 1, 0, none⟩ (.int .i64 0) (by rw [hc]; rfl)
    have hK3 := (KeepsOthers.setCell W ⟨w.heap.size + 1, 0, none⟩ (.int .i64 0)).same D _ hK2.out rfl
    have hB3 := hB.out.setCell (p := ⟨w.heap.size + 1, 0, none⟩) (Nat.le_succ _) (.int .i64 0)
    refine ⟨by simp, .inl ⟨_, _, rfl, run_takeDeferred hK3, ?_⟩⟩
    have d6 := cell_kept hT (grownBy_putObj' _ D (.deferred none)) (fun r e => by cases e; exact ⟨_, hK3, rfl⟩)
    refine ⟨.int .i64 0, ?_, by rw [HE.out], hB3.trans (belowK_b (w := w) (Nat.le_refl _) _ D _ _ (by omega) hK3 rfl rfl)⟩
    simp [results, Try.f10, go_sem, d6]
  case stop =>
    rintro D c pre W hD hpre ⟨⟨rfl, hc, x, hx, hne⟩, hB⟩ hK
    have hxm := upN_mem.1 (hpre.subset hx)
    have HE := Lib.hid (NO.out x hxm.1 (by omega) hne)
    have hB := Lib.hid hB
    have hK2 := Lib.hid hK
    clear hpre hx hne hxm
    gi_wp2
    refine ⟨by simp, .inl ⟨_, _, rfl, run_takeDeferred hK2.out, ?_⟩⟩
    have d6 := cell_kept hc (grownBy_putObj' _ D (.deferred none)) (fun r e => by cases e; exact ⟨_, hK2.out, rfl⟩)
    refine ⟨.int .i64 8, ?_, by rw [HE.out], hB.out.trans (belowK_b (w := w) (Nat.le_refl _) W D _ _ (by omega) hK2.out rfl rfl)⟩
    simp [results, Try.f10, go_sem, d6]

/-- Check, at all arguments. -/
theorem pcheck_any (A : Option Addr) (n c : Nat) (h m : Int) (q : List Text) (w : World) (hq : Texts w A n c q) (hs : Small q) :
    Calls Try.prog 10 #[queueV A n c h m] w fun e w' => e = .returned (.int .i64 (chkQ q h m)) ∧ Below w.heap.size w w' := by
  have hn := hs.many
  rw [hq.len] at hn
  by_cases hw : wrong n h m
  · have e : chkQ q h m = 8 := by
      unfold chkQ
      rw [if_neg fun hh => hw (by rw [← hq.len]; exact ((mayB_iff q h m).1 hh).1)]
    rw [e]
    exact check_bad A n c h m w (by omega) hw
  · unfold wrong at hw
    obtain ⟨H, rfl⟩ : ∃ H : Nat, h = H := ⟨h.toNat, by omega⟩
    obtain ⟨M, rfl⟩ : ∃ M : Nat, m = M := ⟨m.toNat, by omega⟩
    exact callsIn_wide.1 (check_in A n c H M q w hq (by omega) (by omega) (by omega) (by omega))

end Go.Proofs.Ytbbnfbclbhkneaa
