/- Layer 10: the program's Scan. -/
import Derived.Test.YteapaoefgcnicaaJrnP5
namespace Go.Proofs.Yteapaoefgcnicaa
open Go.RowKit Go.Shelf
set_option linter.unusedVariables false
attribute [local go_sem] Oper.semAt_some

theorem OwnTxs.kept {W Y : World} {B : Nat} {A : Option Addr} {n c : Nat} {L : List Txt} {row : Option Nat} (h : OwnTxs W B A n c L) (hg : W.grownBy Y row) (hr : ∀ r, row = some r → r < B ∨ ∃ o : Obj, W.heap[r]? = some o ∧ o.isCells = false) : OwnTxs Y B A n c L := by
  obtain ⟨vs, hown, hl, hby, hin⟩ := h
  refine ⟨vs, hown.kept hg ?_, hl, hby, fun i hi => ?_⟩
  · rcases hown.2 with ⟨e, h0⟩ | ⟨g, cap, cur, e, hb, hgb, _⟩
    · exact .inl (by rw [e]; rfl)
    · refine .inr fun e' => ?_
      rw [e] at e'
      rcases hr g (by simpa [Value.ownBlock] using e'.symm) with h | ⟨o, ho, hc⟩
      · omega
      · rw [hgb] at ho; cases ho; cases hc
  · obtain ⟨Ai, ni, ci, h1, h2⟩ := hin i hi
    refine ⟨Ai, ni, ci, h1, h2.keep fun g hb hu => hg.block g hu.lt fun e => ?_⟩
    rcases hr g e.symm with h | ⟨o, ho, hc⟩
    · omega
    · obtain ⟨cs, hcs⟩ := hu
      rw [hcs] at ho; cases ho; cases hc
/-- The box holds the texts that have come. -/
def TxBox (Bb B0 : Nat) (pre : List El) (W : World) : Prop := ∃ A c, Boxed W Bb 28 (.slice A pre.length c) ∧ OwnTxs W B0 A pre.length c (pre.map (·.2))
theorem TxBox.abide (Bb B0 B : Nat) (pre : List El) : AbideW B (TxBox Bb B0 pre) := by
  rintro _ X Y row ⟨A, c, hv, ht⟩ hg hr
  refine ⟨A, c, hv.kept hg (fun e => ?_), ht.kept hg fun r e => .inr (hr r e).2⟩
  obtain ⟨_, o, ho, hc⟩ := hr Bb e.symm
  rw [show X.heap[Bb]? = _ from hv] at ho; cases ho; cases hc

set_option maxRecDepth 100000 in
set_option maxHeartbeats 3200000 in
theorem jscan_in (P T : Int) (A : Nat) (M W Q : Int) (D : Option Addr) (nd c : Nat) (D' : Option Addr) (n' c' : Nat) (S : List Sec) (C : List Pnd) (a g : Int) (w : World) (hq : Dsk w D nd c D' n' c' S C) (hs : SmallD S C) (hg : isG g) (h0 : jaE P T A M W Q S C a = 0) :
    CallsIn Fence.wide 5 Try.prog 9 #[cfgV P T A M W Q, diskV D nd c D' n' c', .int .i64 a, .int .u64 g] w (ScanOut w (jN (jf S C A a g) A) 0) := by
  obtain ⟨x, hbel⟩ := TBox.new P T A M W Q hq
  obtain ⟨w0, hw0⟩ : ∃ x : World, x = (w.alloc (.cells #[.int .i64 P, .int .i64 T, .int .i64 A, .int .i64 M, .int .i64 W, .int .i64 Q] 33)).alloc (.cells #[.slice D nd c, .slice D' n' c'] 25) := ⟨_, rfl⟩
  rw [← hw0] at x hbel
  have FO := Lib.hid (firstof_any P T A M W Q D nd c D' n' c' S C a w0 x.dsk.dsk hs)
  rw [h0, show jaN P T A M W Q S C a = 2 + a * A from if_pos h0] at FO
  have hm := jae_may h0
  have hA32 : A ≤ 32 := by have := hm.1.1; unfold mayC at this; omega
  have hA1 : 1 ≤ A := by have := hm.1.1; unfold mayC at this; omega
  obtain ⟨hf0, hf1, _⟩ := first_wrap (j := 0) h0 (Int.le_refl _) (by omega)
  have HF := Lib.hid (show ∀ k : Nat, jf S C A a g k = noteO g k (optAt S C (2 + a * A + k)) from fun k => rfl)
  obtain ⟨f, hf⟩ : ∃ f, f = jf S C A a g := ⟨_, rfl⟩
  rw [← hf] at HF ⊢
  obtain ⟨F, hF⟩ : ∃ F, F = 2 + a * A := ⟨_, rfl⟩
  rw [← hF] at FO HF hf0 hf1
  obtain ⟨c0, c1, c2, c3, c4, c5, d0, d1⟩ := x.cells
  have X := Lib.hid x
  have B := Lib.hid hbel
  have HQ := Lib.hid hq
  have HS := Lib.hid hs
  have HG := Lib.hid hg
  obtain ⟨i0, hi, hz0, hz1, hz2⟩ := info_parts txts_info
  have hml : (100 : Nat) ≤ maxLen := by decide
  clear x hbel hq hs hg h0 hm hf hF
  refine callsIn_of_wp_marks Try.func9 rfl trivial ?_ rfl
  simp only [Try.ntmps9, List.size_toArray, List.length_cons, List.length_nil, Nat.reduceAdd, Nat.reduceSub, Array.replicate_succ, Array.replicate_zero, List.push_toArray, List.append_toArray, List.nil_append, List.cons_append]
  gi_wp2_with fail
  refine ⟨trivial, ?_⟩
  rw [← hw0]
  clear hw0
  refine (callsIn_wide.2 FO.out).mono ?_
  rintro e w1 ⟨rfl, hb⟩
  have B1 := B.out.trans (hb.mono B.out.size)
  have X1 := X.out.below hb
  have hbA : Below w1.heap.size w1 (w1.alloc (.cells #[.slice none 0 0] 28)) := (Below.refl _ _).alloc (Nat.le_refl _) _
  have bO := Boxed.new w1 28 (.slice none 0 0)
  have X2 := X1.below hbA
  have B2 := Lib.hid (B1.trans (hbA.mono B1.size))
  have hs1 := B1.size
  clear c0 c1 c2 c3 c4 c5 d0 d1 hb X1 B1 B X FO
  obtain ⟨c0, c1, c2, c3, c4, c5, d0, d1⟩ := X2.cells
  obtain ⟨v1, hv1⟩ : ∃ x : World, x = w1.alloc (.cells #[.slice none 0 0] 28) := ⟨_, rfl⟩
  have hv1s : v1.heap.size = w1.heap.size + 1 := by rw [hv1]; simp
  have NT := Lib.hid (notes_any D nd c D' n' c' F A g v1)
  rw [← hv1] at bO B2
  have HV := Lib.hid hv1s
  gi_wp2_with fail
  refine ⟨trivial, ?_⟩
  rw [← hv1]
  clear hv1 hbA X2 c0 c1 c2 c3 c4 c5 d0 d1 hv1s
  refine (callsIn_wide.2 NT.out).mono ?_
  rintro e W1 ⟨rfl, hx, hb, hsz⟩
  rw [HV.out] at hx hsz ⊢
  have hB1 := B2.out.trans (hb.mono B2.out.size)
  have bO1 := bO.kept (grown_of_below hb) (by simp)
  clear hb bO
  gi_wp2_with fail
  refine wpIn_rangeFunc_each rfl (by omega) (gf := 45) (lb := #[.pointer (some ⟨w1.heap.size + 1 + 2, 0, none⟩), .pointer (some ⟨w1.heap.size + 1, 0, none⟩), .pointer (some ⟨w1.heap.size + 1 + 1, 0, none⟩), .pointer (some ⟨w1.heap.size + 1 + 3, 0, none⟩)]) rfl trivial (enters_of Try.func45 (by kernel_rfl) rfl)
    (notes1_each 4 w.heap.size (w1.heap.size + 1) A D nd c D' n' c' S C F g f w W1 (by omega) (by omega) ⟨by omega, by omega⟩ HQ.out HS.out HG.out HF.out rfl hB1 (by omega) (by omega) hx)
    (fun h k => h.trans k) (fun W l o o' hl ho hc => ?kb) (Below.refl _ _) (fun _ => rfl) (fun x => elOk_abide _ _ x)
    (fun pre W => TxBox w1.heap.size W1.heap.size pre W ∧ (Below w.heap.size w W ∧ W1.heap.size ≤ W.heap.size))
    (fun pre => OwnFrom.and (TxBox.abide _ _ _ pre) (OwnFrom.and (ownFrom_below (Nat.le_refl _) (by omega)) (fun s W W' row hs hg hr => Nat.le_trans hs hg.size)))
    ⟨⟨none, 0, bO1, OwnTxs.nil _ _⟩, hB1, Nat.le_refl _⟩
    (fun x => { tmps := #[cfgV P T (A : Int) M W Q, diskV D nd c D' n' c', .int .i64 a, .int .u64 g, .pointer (some ⟨w.heap.size, 0, none⟩), .pointer (some ⟨w.heap.size + 1, 0, none⟩), undef, undef, .slice none 0 0, .int .i64 0, .int .i64 F, .int .i64 0, .pointer (some ⟨w1.heap.size, 0, none⟩), .slice x.1.1 x.1.2.1 x.1.2.2, .tuple #[.int .i64 F, .int .i64 0], cfgV P T (A : Int) M W Q, diskV D nd c D' n' c', .int .i64 a, .tuple #[.int .i64 F, .int .i64 0], .int .i64 F, .int .i64 0, .int .i64 0, .bool false, undef, diskV D nd c D' n' c', .int .i64 F, .pointer (some ⟨w.heap.size, 2, none⟩), .int .i64 (A : Int), .int .u64 g, .func (.func 45) #[] #[.pointer (some ⟨w1.heap.size + 1 + 2, 0, none⟩), .pointer (some ⟨w1.heap.size + 1, 0, none⟩), .pointer (some ⟨w1.heap.size + 1 + 1, 0, none⟩), .pointer (some ⟨w1.heap.size + 1 + 3, 0, none⟩)], .slice x.1.1 x.1.2.1 x.1.2.2, undef, undef, undef, undef, undef], defers := [] }) ?assign ?body ?done
  case kb =>
    have hlt := (Array.getElem?_eq_some_iff.1 ho).1
    exact ⟨(Below.refl w.heap.size W).grown (grownBy_putObj' W l o') (by omega) (fun k e => by cases e; omega), fun p h1 h2 => World.cell?_of_block (World.putObj_heap_other (by omega))⟩
  case assign =>
    intro l x W K hK
    gi_wp2
    exact hK
  case body =>
    rintro l pre x W hok ⟨⟨A1, c1, hv, htx⟩, hB, hz⟩ hlt
    have hB := Lib.hid hB
    obtain ⟨vs, hown, hl, hby, hin⟩ := htx
    have hp32 : pre.length < 32 := by omega
    have hc := hv.cell
    have hbt := (Below.refl W.heap.size W).alloc (Nat.le_refl _) (.cells #[.slice x.1.1 x.1.2.1 x.1.2.2] 36)
    gi_wp2_with (gi_at_builtin; refine wpListIn_append_own _ rfl _ _ 28 rfl W1.heap.size 36 i0 (.slice none 0 0) 1 24 Try.underlying28 hi hz0 hz1 hz2 rfl (by decide) _ _ _ rfl (hown.alloc _) ⟨W.heap.size, 0, none⟩ 1 1 [.slice x.1.1 x.1.2.1 x.1.2.2] rfl rfl (cell_one_new _ _ _) (by simp [Value.oneCell']) (by omega) (by omega) (by simp; omega) ?_; intro v' w2 hown' hgrow _; obtain ⟨g', cap', rfl⟩ := ownsRow_succ hown'; obtain ⟨hv1, hv2, hr2, hk2, hb2⟩ := hv.appended (by decide) (owns_base hown (show w1.heap.size ≤ _ by omega)) (by omega) (Nat.le_refl _) (owns_base hown' (by omega)) hgrow; have hc1 := hv1.cell; have hf1 := hv1.frozen; have hgr := Lib.hid hgrow; have hnw := Lib.hid hown'; clear hgrow)
    have hsn := OwnTxs.snoc (hown.alloc _) hl hby (fun i hi => by
      obtain ⟨Aj, nj, cj, e, hj⟩ := hin i hi
      exact ⟨Aj, nj, cj, e, hj.allocated _⟩) hok.2 (hok.1.allocated _) hgr.out hnw.out
    have hfin := hsn.kept (grownBy_set w2 w1.heap.size 0 (Value.slice (some ⟨g', 0, none⟩) (pre.length + 1) cap')) (fun r e => .inl (by injection e with e; omega))
    have hgs := hgr.out.size
    rw [World.size_alloc] at hgs
    have hkp : KpN w.heap.size (w1.heap.size + 1) W (w2.setCell ⟨w1.heap.size, 0, none⟩ (Value.slice (some ⟨g', 0, none⟩) (pre.length + 1) cap')) := by
      refine ⟨hb2.mono hs1, fun p h1 h2 => World.cell?_of_block ?_⟩
      rw [Below.heap_setCell w2 ⟨w1.heap.size, 0, none⟩ _ p.block (by dsimp only; omega), hgr.out.block p.block (by rw [World.size_alloc]; omega) (fun e => by have := (hown.lt _ e.symm).1; omega)]
      exact Below.heap_alloc _ _ _ (by omega)
    refine ⟨hk2, hkp, ⟨some ⟨g', 0, none⟩, cap', ?_, ?_⟩, hB.out.trans (hb2.mono hs1), ?_⟩
    · rw [List.length_append, List.length_singleton]
      exact hv2
    · rw [List.length_append, List.length_singleton, List.map_append, List.map_cons, List.map_nil]
      exact hfin
    · show W1.heap.size ≤ (w2.setCell _ _).heap.size
      rw [World.size_setCell]
      omega
  case done =>
    rintro D2 xs W hD hS ⟨⟨A1, c1, hv, htx⟩, hB, hz⟩ hK
    have hc := hv.cell
    have hfin := Lib.hid (hB.trans (belowK_b (w := w) (Nat.le_refl _) W D2 _ (.deferred none) (by omega) hK rfl rfl))
    have hrow := Lib.hid ((htx.kept (grownBy_putObj' W D2 (.deferred none)) (fun r e => .inr (by cases e; exact ⟨_, hK, rfl⟩))).lower (show w.heap.size ≤ _ by omega))
    have hK2 := Lib.hid hK
    have hL : xs.length = (jN f A).length := by rw [← hS, List.length_map]
    rw [hS] at hrow
    rw [hL] at hrow hc
    clear hB
    gi_wp2
    refine ⟨by simp, .inl ⟨_, _, rfl, run_takeDeferred hK2.out, ?_⟩⟩
    exact ⟨_, results_tmp2 rfl _ _ _, _, _, rfl, hrow.out, hfin.out⟩

set_option maxRecDepth 100000 in
set_option maxHeartbeats 1600000 in
theorem jscan_any (P T A M W Q : Int) (D : Option Addr) (n c : Nat) (D' : Option Addr) (n' c' : Nat) (S : List Sec) (C : List Pnd) (a g : Int) (w : World) (hq : Dsk w D n c D' n' c' S C) (hs : SmallD S C) (hg : isG g) :
    Calls Try.prog 9 #[cfgV P T A M W Q, diskV D n c D' n' c', .int .i64 a, .int .u64 g] w (ScanOut w (jsL P T A M W Q S C a g) (jaE P T A M W Q S C a)) := by
  by_cases h0 : jaE P T A M W Q S C a = 0
  · have hm := jae_may h0
    obtain ⟨An, rfl⟩ := Int.eq_ofNat_of_zero_le (show 0 ≤ A by have := hm.1.1; unfold mayC at this; omega)
    have hL : jsL P T An M W Q S C a g = jN (jf S C An a g) An := by unfold jsL; rw [if_pos h0, Int.toNat_natCast]
    rw [hL, h0]
    exact callsIn_wide.1 (jscan_in P T An M W Q D n c D' n' c' S C a g w hq hs hg h0)
  · have hL : jsL P T A M W Q S C a g = [] := if_neg h0
    rw [hL]
    obtain ⟨x, hbel⟩ := TBox.new P T A M W Q hq
    obtain ⟨w0, hw0⟩ : ∃ x : World, x = (w.alloc (.cells #[.int .i64 P, .int .i64 T, .int .i64 A, .int .i64 M, .int .i64 W, .int .i64 Q] 33)).alloc (.cells #[.slice D n c, .slice D' n' c'] 25) := ⟨_, rfl⟩
    rw [← hw0] at x hbel
    have FO := Lib.hid (firstof_any P T A M W Q D n c D' n' c' S C a w0 x.dsk.dsk hs)
    rw [show jaN P T A M W Q S C a = 0 from if_neg h0] at FO
    obtain ⟨E, hEE⟩ : ∃ E, E = jaE P T A M W Q S C a := ⟨_, rfl⟩
    rw [← hEE] at FO h0 ⊢
    have hne : (E != 0) = true := by rw [bne_iff_ne]; exact h0
    obtain ⟨c0, c1, c2, c3, c4, c5, d0, d1⟩ := x.cells
    have B := Lib.hid hbel
    clear x hbel hq hs hg h0 hEE hL
    go_enter Try.func9, Try.ntmps9
    go_wp2_with fail
    rw [← hw0]
    clear hw0
    refine FO.out.mono ?_
    rintro e w1 ⟨rfl, hb⟩
    have B1 := Lib.hid (B.out.trans (hb.mono B.out.size))
    clear hb
    go_wp2
    go_ret2
    exact ⟨none, 0, rfl, OwnTxs.nil _ _, B1.out⟩

theorem jrn_does : JrnDoes where
  text := fun g n A k c b w hg hb _ _ => jtext_any g n A k c b w hg hb
  scan := fun P T A M W Q D n c D' n' c' S C a g w hq hs hg => jscan_any P T A M W Q D n c D' n' c' S C a g w hq hs hg
  plan := fun P T A M W Q D n c D' n' c' S C a g j Ab nb cb b w hq hs hg hb _ _ => jplan_any P T A M W Q D n c D' n' c' S C a g j Ab nb cb b w hq hs hg hb
end Go.Proofs.Yteapaoefgcnicaa
