/- Texts of layers 1 to 12, joined (JrnP6 RecT3 MetR5). -/
import Derived.Test.YtifgcfepbenpjaaGreatOa40
import Derived.Test.YtifgcfepbenpjaaGreatOa42
import Derived.Test.YtifgcfepbenpjaaGreatOa43
set_option maxRecDepth 100000
set_option maxHeartbeats 12800000
namespace Go.Proofs.YtifgcfepbenpjaaGreat
open Go.RowKit Go.Shelf
set_option linter.unusedVariables false
attribute [local go_sem] Oper.semAt_some
theorem OwnTxs.kept {W Y : World} {B : Nat} {A : Option Addr} {n c : Nat} {L : List Txt} {row : Option Nat} (h : OwnTxs W B A n c L) (hg : W.grownBy Y row) (hr : ∀ r, row = some r → r < B ∨ ∃ o : Obj, W.heap[r]? = some o ∧ o.isCells = false) : OwnTxs Y B A n c L := by
 obtain ⟨vs, hown, hl, hby, hin⟩ := h
 refine ⟨vs, hown.kept hg ?_, hl, hby, fun i hi => ?_⟩
 ·rcases hown.2 with ⟨e, h0⟩ | ⟨g, cap, cur, e, hb, hgb, _⟩
  ·exact .inl (by rw [e]; rfl)
  ·refine .inr fun e' => ?_
   rw [e] at e'
   rcases hr g (by simpa [Value.ownBlock] using e'.symm) with h | ⟨o, ho, hc⟩
   ·omega
   ·rw [hgb] at ho; cases ho; cases hc
 ·obtain ⟨Ai, ni, ci, h1, h2⟩ := hin i hi
  refine ⟨Ai, ni, ci, h1, h2.keep fun g hb hu => hg.block g hu.lt fun e => ?_⟩
  rcases hr g e.symm with h | ⟨o, ho, hc⟩
  ·omega
  ·obtain ⟨cs, hcs⟩ := hu
   rw [hcs] at ho; cases ho; cases hc
def TxBox (Bb B0 : Nat) (pre : List El) (W : World) : Prop := ∃ A c, Boxed W Bb 103 (.slice A pre.length c) ∧ OwnTxs W B0 A pre.length c (pre.map (·.2))
theorem TxBox.abide (Bb B0 B : Nat) (pre : List El) : AbideW B (TxBox Bb B0 pre) := by
 rintro _ X Y row ⟨A, c, hv, ht⟩ hg hr
 refine ⟨A, c, hv.kept hg (fun e => ?_), ht.kept hg fun r e => .inr (hr r e).2⟩
 obtain ⟨_, o, ho, hc⟩ := hr Bb e.symm
 rw [show X.heap[Bb]? = _ from hv] at ho; cases ho; cases hc
theorem jscan_in (P T : Int) (A : Nat) (M W Q : Int) (D : Option Addr) (nd c : Nat) (D' : Option Addr) (n' c' : Nat) (S : List Sec) (C : List Pnd) (a g : Int) (w : World) (hq : Dsk w D nd c D' n' c' S C) (hs : SmallD S C) (hg : isG g) (h0 : jaE P T A M W Q S C a = 0) :
  CallsIn Fence.wide 5 Tryz.prog 41 #[cfgV P T A M W Q, diskV D nd c D' n' c', .int .i64 a, .int .u64 g] w (ScanOut w (jN (jf S C A a g) A) 0) := by
 obtain ⟨x, hbel⟩ := TBox.new P T A M W Q hq
 obtain ⟨w0, hw0⟩ : ∃ x : World, x = (w.alloc (.cells #[.int .i64 P, .int .i64 T, .int .i64 A, .int .i64 M, .int .i64 W, .int .i64 Q] 36)).alloc (.cells #[.slice D nd c, .slice D' n' c'] 25) := ⟨_, rfl⟩
 rw [← hw0] at x hbel
 have FO := Lh (firstof_any P T A M W Q D nd c D' n' c' S C a w0 x.dsk.dsk hs)
 rw [h0, show jaN P T A M W Q S C a = 2 + a * A from if_pos h0] at FO
 have hm := jae_may h0
 have hA32 : A ≤ 32 := by have := hm.1.1; unfold mayC at this; omega
 have hA1 : 1 ≤ A := by have := hm.1.1; unfold mayC at this; omega
 obtain ⟨hf0, hf1, _⟩ := first_wrap (j := 0) h0 (Int.le_refl _) (by omega)
 have HF := Lh (show ∀ k : Nat, jf S C A a g k = noteO g k (optAt S C (2 + a * A + k)) from fun k => rfl)
 obtain ⟨f, hf⟩ : ∃ f, f = jf S C A a g := ⟨_, rfl⟩
 rw [← hf] at HF ⊢
 obtain ⟨F, hF⟩ : ∃ F, F = 2 + a * A := ⟨_, rfl⟩
 rw [← hF] at FO HF hf0 hf1
 obtain ⟨c0, c1, c2, c3, c4, c5, d0, d1⟩ := x.cells
 have X := Lh x
 have B := Lh hbel
 have HQ := Lh hq
 have HS := Lh hs
 have HG := Lh hg
 obtain ⟨i0, hi, hz0, hz1, hz2⟩ := info_parts txts_info
 have hml : (100 : Nat) ≤ maxLen := by decide
 clear x hbel hq hs hg h0 hm hf hF
 refine callsIn_of_wp_marks Tryz.func41 rfl trivial ?_ rfl
 simp only [Tryz.ntmps41, List.size_toArray, List.length_cons, List.length_nil, Nat.reduceAdd, Nat.reduceSub, Array.replicate_succ, Array.replicate_zero, List.push_toArray, List.append_toArray, List.nil_append, List.cons_append]
 gi_wp2_with fail
 refine ⟨trivial, ?_⟩
 rw [← hw0]
 clear hw0
 refine (callsIn_wide.2 FO.out).mono ?_
 rintro e w1 ⟨rfl, hb⟩
 have B1 := B.out.trans (hb.mono B.out.size)
 have X1 := X.out.below hb
 have hbA : Below w1.heap.size w1 (w1.alloc (.cells #[.slice none 0 0] 103)) := (Below.refl _ _).alloc (Nat.le_refl _) _
 have bO := Boxed.new w1 103 (.slice none 0 0)
 have X2 := X1.below hbA
 have B2 := Lh (B1.trans (hbA.mono B1.size))
 have hs1 := B1.size
 clear c0 c1 c2 c3 c4 c5 d0 d1 hb X1 B1 B X FO
 obtain ⟨c0, c1, c2, c3, c4, c5, d0, d1⟩ := X2.cells
 obtain ⟨v1, hv1⟩ : ∃ x : World, x = w1.alloc (.cells #[.slice none 0 0] 103) := ⟨_, rfl⟩
 have hv1s : v1.heap.size = w1.heap.size + 1 := by rw [hv1]; simp
 have NT := Lh (notes_any D nd c D' n' c' F A g v1)
 rw [← hv1] at bO B2
 have HV := Lh hv1s
 gi_wp2_with fail
 refine ⟨trivial, ?_⟩
 rw [← hv1]
 clear hv1 hbA X2 c0 c1 c2 c3 c4 c5 d0 d1 hv1s
 refine (callsIn_wide.2 NT.out).mono ?_
 rintro e W1 ⟨rfl, hx, hb, hsz⟩
 rw [HV.out] at hx hsz ⊢
 have hB1 := B2.out.trans (hb.mono B2.out.size)
 have bO1 := bO.kept (grown_of_below hb) (by simp)
 clear hb bO
 gi_wp2_with fail
 refine wpIn_rangeFunc_each rfl (by omega) (gf := 126) (lb := #[.pointer (some ⟨w1.heap.size + 1 + 2, 0, none⟩), .pointer (some ⟨w1.heap.size + 1, 0, none⟩), .pointer (some ⟨w1.heap.size + 1 + 1, 0, none⟩), .pointer (some ⟨w1.heap.size + 1 + 3, 0, none⟩)]) rfl trivial (enters_of Tryz.func126 (by kernel_rfl) rfl)
  (notes1_each 4 w.heap.size (w1.heap.size + 1) A D nd c D' n' c' S C F g f w W1 (by omega) (by omega) ⟨by omega, by omega⟩ HQ.out HS.out HG.out HF.out rfl hB1 (by omega) (by omega) hx)
  (fun h k => h.trans k) (fun W l o o' hl ho hc => ?kb) (Below.refl _ _) (fun _ => rfl) (fun x => elOk_abide _ _ x)
  (fun pre W => TxBox w1.heap.size W1.heap.size pre W ∧ (Below w.heap.size w W ∧ W1.heap.size ≤ W.heap.size))
  (fun pre => OwnFrom.and (TxBox.abide _ _ _ pre) (OwnFrom.and (ownFrom_below (Nat.le_refl _) (by omega)) (fun s W W' row hs hg hr => Nat.le_trans hs hg.size)))
  ⟨⟨none, 0, bO1, OwnTxs.nil _ _⟩, hB1, Nat.le_refl _⟩
  (fun x => { tmps := #[cfgV P T (A : Int) M W Q, diskV D nd c D' n' c', .int .i64 a, .int .u64 g, .pointer (some ⟨w.heap.size, 0, none⟩), .pointer (some ⟨w.heap.size + 1, 0, none⟩), undef, undef, .slice none 0 0, .int .i64 0, .int .i64 F, .int .i64 0, .pointer (some ⟨w1.heap.size, 0, none⟩), .slice x.1.1 x.1.2.1 x.1.2.2, .tuple #[.int .i64 F, .int .i64 0], cfgV P T (A : Int) M W Q, diskV D nd c D' n' c', .int .i64 a, .tuple #[.int .i64 F, .int .i64 0], .int .i64 F, .int .i64 0, .int .i64 0, .bool false, undef, diskV D nd c D' n' c', .int .i64 F, .pointer (some ⟨w.heap.size, 2, none⟩), .int .i64 (A : Int), .int .u64 g, .func (.func 126) #[] #[.pointer (some ⟨w1.heap.size + 1 + 2, 0, none⟩), .pointer (some ⟨w1.heap.size + 1, 0, none⟩), .pointer (some ⟨w1.heap.size + 1 + 1, 0, none⟩), .pointer (some ⟨w1.heap.size + 1 + 3, 0, none⟩)], .slice x.1.1 x.1.2.1 x.1.2.2, undef, undef, undef, undef, undef], defers := [] }) ?assign ?body ?done
 case kb =>
  have hlt := (Array.getElem?_eq_some_iff.1 ho).1
  exact ⟨(Below.refl w.heap.size W).grown (grownBy_putObj' W l o') (by omega) (fun k e => by cases e; omega), fun p h1 h2 => World.cell?_of_block (World.putObj_heap_other (by omega))⟩
 case assign =>
  intro l x W K hK
  gi_wp2
  exact hK
 case body =>
  rintro l pre x W hok ⟨⟨A1, c1, hv, htx⟩, hB, hz⟩ hlt
  have hB := Lh hB
  obtain ⟨vs, hown, hl, hby, hin⟩ := htx
  have hp32 : pre.length < 32 := by omega
  have hc := hv.cell
  have hbt := (Below.refl W.heap.size W).alloc (Nat.le_refl _) (.cells #[.slice x.1.1 x.1.2.1 x.1.2.2] 42)
  gi_wp2_with (gi_at_builtin; refine wpListIn_append_own _ rfl _ _ 103 rfl W1.heap.size 42 i0 (.slice none 0 0) 1 24 Tryz.underlying103 hi hz0 hz1 hz2 rfl (by decide) _ _ _ rfl (hown.alloc _) ⟨W.heap.size, 0, none⟩ 1 1 [.slice x.1.1 x.1.2.1 x.1.2.2] rfl rfl (cell_one_new _ _ _) (by simp [Value.oneCell']) (by omega) (by omega) (by simp; omega) ?_; intro v' w2 hown' hgrow _; obtain ⟨g', cap', rfl⟩ := ownsRow_succ hown'; obtain ⟨hv1, hv2, hr2, hk2, hb2⟩ := hv.appended (by decide) (owns_base hown (show w1.heap.size ≤ _ by omega)) (by omega) (Nat.le_refl _) (owns_base hown' (by omega)) hgrow; have hc1 := hv1.cell; have hf1 := hv1.frozen; have hgr := Lh hgrow; have hnw := Lh hown'; clear hgrow)
  have hsn := OwnTxs.snoc (hown.alloc _) hl hby (fun i hi => by
   obtain ⟨Aj, nj, cj, e, hj⟩ := hin i hi
   exact ⟨Aj, nj, cj, e, hj.allocated _⟩) hok.2 (hok.1.allocated _) hgr.out hnw.out
  have hfin := hsn.kept (grownBy_set w2 w1.heap.size 0 (Value.slice (some ⟨g', 0, none⟩) (pre.length + 1) cap')) (fun r e => .inl (by injection e with e; omega))
  have hgs := hgr.out.size
  rw [World.size_alloc] at hgs
  have hkp : KpN w.heap.size (w1.heap.size + 1) W (w2.setCell ⟨w1.heap.size, 0, none⟩ (Value.slice (some ⟨g', 0, none⟩) (pre.length + 1) cap')) := by
   refine ⟨hb2.mono hs1, fun p h1 h2 => World.cell?_of_block ?_⟩
   rw [Below.heap_setCell w2 ⟨w1.heap.size, 0, none⟩ _ p.block (by dsimp only; omega), hgr.out.block p.block (by rw [World.size_alloc]; omega) (fun e => by have := (hown.lt _ e.symm).1; omega)]
   exact Below.heap_alloc _ _ _ (by omega)
  refine ⟨hk2, hkp, ⟨some ⟨g', 0, none⟩, cap', ?_, ?_⟩, hB.out.trans (hb2.mono hs1), ?_⟩
  ·rw [List.length_append, List.length_singleton]
   exact hv2
  ·rw [List.length_append, List.length_singleton, List.map_append, List.map_cons, List.map_nil]
   exact hfin
  ·show W1.heap.size ≤ (w2.setCell _ _).heap.size
   rw [World.size_setCell]
   omega
 case done =>
  rintro D2 xs W hD hS ⟨⟨A1, c1, hv, htx⟩, hB, hz⟩ hK
  have hc := hv.cell
  have hfin := Lh (hB.trans (belowK_b (w := w) (Nat.le_refl _) W D2 _ (.deferred none) (by omega) hK rfl rfl))
  have hrow := Lh ((htx.kept (grownBy_putObj' W D2 (.deferred none)) (fun r e => .inr (by cases e; exact ⟨_, hK, rfl⟩))).lower (show w.heap.size ≤ _ by omega))
  have hK2 := Lh hK
  have hL : xs.length = (jN f A).length := by rw [← hS, List.length_map]
  rw [hS] at hrow
  rw [hL] at hrow hc
  clear hB
  gi_wp2
  refine ⟨by simp, .inl ⟨_, _, rfl, run_takeDeferred hK2.out, ?_⟩⟩
  exact ⟨_, results_tmp2 rfl _ _ _, _, _, rfl, hrow.out, hfin.out⟩
theorem jscan_any (P T A M W Q : Int) (D : Option Addr) (n c : Nat) (D' : Option Addr) (n' c' : Nat) (S : List Sec) (C : List Pnd) (a g : Int) (w : World) (hq : Dsk w D n c D' n' c' S C) (hs : SmallD S C) (hg : isG g) :
  Calls Tryz.prog 41 #[cfgV P T A M W Q, diskV D n c D' n' c', .int .i64 a, .int .u64 g] w (ScanOut w (jsL P T A M W Q S C a g) (jaE P T A M W Q S C a)) := by
 by_cases h0 : jaE P T A M W Q S C a = 0
 ·have hm := jae_may h0
  obtain ⟨An, rfl⟩ := Int.eq_ofNat_of_zero_le (show 0 ≤ A by have := hm.1.1; unfold mayC at this; omega)
  have hL : jsL P T An M W Q S C a g = jN (jf S C An a g) An := by unfold jsL; rw [if_pos h0, Int.toNat_natCast]
  rw [hL, h0]
  exact callsIn_wide.1 (jscan_in P T An M W Q D n c D' n' c' S C a g w hq hs hg h0)
 ·have hL : jsL P T A M W Q S C a g = [] := if_neg h0
  rw [hL]
  obtain ⟨x, hbel⟩ := TBox.new P T A M W Q hq
  obtain ⟨w0, hw0⟩ : ∃ x : World, x = (w.alloc (.cells #[.int .i64 P, .int .i64 T, .int .i64 A, .int .i64 M, .int .i64 W, .int .i64 Q] 36)).alloc (.cells #[.slice D n c, .slice D' n' c'] 25) := ⟨_, rfl⟩
  rw [← hw0] at x hbel
  have FO := Lh (firstof_any P T A M W Q D n c D' n' c' S C a w0 x.dsk.dsk hs)
  rw [show jaN P T A M W Q S C a = 0 from if_neg h0] at FO
  obtain ⟨E, hEE⟩ : ∃ E, E = jaE P T A M W Q S C a := ⟨_, rfl⟩
  rw [← hEE] at FO h0 ⊢
  have hne : (E != 0) = true := by rw [bne_iff_ne]; exact h0
  obtain ⟨c0, c1, c2, c3, c4, c5, d0, d1⟩ := x.cells
  have B := Lh hbel
  clear x hbel hq hs hg h0 hEE hL
  go_enter Tryz.func41, Tryz.ntmps41
  go_wp2_with fail
  rw [← hw0]
  clear hw0
  refine FO.out.mono ?_
  rintro e w1 ⟨rfl, hb⟩
  have B1 := Lh (B.out.trans (hb.mono B.out.size))
  clear hb
  go_wp2
  go_ret2
  exact ⟨none, 0, rfl, OwnTxs.nil _ _, B1.out⟩
end Go.Proofs.YtifgcfepbenpjaaGreat
namespace Go.Proofs.YtifgcfepbenpjaaGreat
open Go.RowKit Go.Maps
set_option linter.unusedVariables false
theorem ptable11_any (A : Option Addr) (n c : Nat) (l : List Txt) (w : World) (hl : Texts w A n c l) (hn : n ≤ 1000) (hs : ShortT l n) :
  Calls Tryz.prog 42 #[.slice A n c] w (PutOut w (tabR l)) := by
 have hmm := @run_makeMap Tryz.prog
 have hb : Below w.heap.size w (w.alloc (.map #[] 0)) := (Below.refl _ _).alloc (Nat.le_refl _) _
 have W := Lh (pwith_any w.heap.size 0 [] A n c l (w.alloc (.map #[] 0)) (by trivial) (TabAt.made w) (by omega) (hl.below hb) hn hs)
 have B := Lh hb
 unfold PutOut
 unfold WithOut at W
 rw [show tabTo [] l = tabR l from rfl] at W
 clear hl hs hb
 go_enter Tryz.func42, Tryz.ntmps42
 go_wp2_with fail
 refine W.out.mono ?_
 rintro e w1 ⟨A1, c1, rfl, hO, hg⟩
 have O := Lh (hO.lower B.out.size)
 have B1 := Lh (B.out.grown hg B.out.size (fun k hk => by injection hk with hk; omega))
 clear hO hg hmm
 go_wp2
 go_ret2
 exact ⟨A1, c1, rfl, O.out, B1.out⟩
theorem pnotes11_any (A : Option Addr) (n c : Nat) (t : List Rc) (w : World) (ht : Recs w A n c t) (hn : n ≤ 1000) :
  Calls Tryz.prog 47 #[.slice A n c] w (NotesOut w (rnL t) (rnE t)) := by
 obtain ⟨i1, hi1, hy0, hy1, hy2⟩ := info_parts texts_info
 have hml : (1000 : Nat) ≤ maxLen := by decide
 have T := Lh (ptableof_any A n c t w ht hn)
 have HT := Lh ht
 have hlen := ht.len
 unfold OfTab at T
 unfold NotesOut
 by_cases hm : mayTab t
 ·rw [show rnL t = t.map recT from if_pos hm, show rnE t = 0 from if_pos hm, List.length_map, hlen]
  have MAY := Lh (fun k (hk : k < n) => ((mayTab_idx t).1 hm k (by rw [hlen]; exact hk)).1)
  have TF := Lh (show (t.map recT).take n = t.map recT by rw [← hlen, ← List.length_map (f := recT), List.take_length])
  have TS := Lh (fun k (hk : k < n) => show (t.map recT).take (k + 1) = (t.map recT).take k ++ [recT (t.getD k zR)] by
   rw [List.take_succ_eq_append_getElem (by rw [List.length_map, hlen]; exact hk)]
   simp [List.getD_eq_getElem?_getD, show k < t.length by rw [hlen]; exact hk])
  obtain ⟨Z, hZ⟩ : ∃ Z, Z = t.map recT := ⟨_, rfl⟩
  rw [← hZ] at TF TS ⊢
  have HM := Lh hm
  clear ht hm hlen hZ
  go_enter Tryz.func47, Tryz.ntmps47
  go_wp2_with fail
  refine T.out.mono ?_
  rintro e w1 ⟨⟨hm, B, rfl, hT, hB⟩ | ⟨hm, rfl⟩, hb1⟩
  ·have B1 := Lh hb1
   clear hm hT hB hb1 T
   go_wp2
   go_loopw [6, 21] (fun v i wr => ∃ k : Nat, k ≤ n ∧ i = .int .i64 k ∧ (∃ A' c', v = .slice A' k c' ∧ OwnTexts wr w.heap.size A' k c' (Z.take k)) ∧ Below w.heap.size w wr) (fun _ i _ => n - (intOf i).toNat)
   case atStart => exact ⟨0, Nat.zero_le _, rfl, ⟨none, 0, rfl, OwnTexts.nil _ _⟩, B1.out⟩
   case round =>
    clear B1
    obtain ⟨k, hk, rfl, ⟨A1, c1, rfl, hown⟩, hbel⟩ := hrel
    by_cases hkn : k < n
    ·have hki : (k : Int) < (n : Int) := by omega
     have HW := HT.out.below hbel
     obtain ⟨b, o, rfl, hlt, d0, d1, d2, d3, d4, d5, d6, d7⟩ := HW.row hkn
     have his := HW.is_at hkn
     have hmy := MAY.out k hkn
     have hst := TS.out k hkn
     obtain ⟨r, hr⟩ : ∃ r, r = t.getD k zR := ⟨_, rfl⟩
     rw [← hr] at d0 d1 d2 d3 d4 d5 d6 d7 his hmy hst
     obtain ⟨Q, hQ⟩ : ∃ Q, Q = Z.take k := ⟨_, rfl⟩
     rw [← hQ] at hown hst
     have HST := Lh hst
     have NT := Lh (show ∀ wx, Calls Tryz.prog 38 #[recV r] wx fun e w' => ∃ A c, e = .returned (.tuple #[.slice A 14 c, .int .i64 0]) ∧ w'.ownsRow wx.heap.size 5 1 (.slice A 14 c) 14 (ints .u8 (recT r)) ∧ Below wx.heap.size wx w' from fun wx => by
      have h := pnote11_any r wx his
      unfold RowOut at h
      rw [show ntB r = recT r from if_pos hmy, show rcE r = 0 from if_pos hmy, recT_length] at h
      exact h)
     obtain ⟨x, hbx⟩ := rec_box wr r
     obtain ⟨c0, c1', c2', c3, c4, c5, c6, c7⟩ := x.rec
     have O := Lh (hown.below hbx)
     have B := Lh (hbel.trans (hbx.mono hbel.size))
     clear hr hQ hown hbel his hmy hst HW x hbx
     go_wp2_with fail
     refine (NT.out _).mono ?_
     rintro e w2 ⟨A2, c2, rfl, hown2, hb2⟩
     have O2 := Lh (owns_base hown2 B.out.size)
     have O1 := Lh (O.out.below hb2)
     have B2 := Lh (B.out.trans (hb2.mono B.out.size))
     clear hown2 hb2 d0 d1 d2 d3 d4 d5 d6 d7 c0 c1' c2' c3 c4 c5 c6 c7
     go_wp2_with (at_builtin; (refine wpList_text w w2 rfl (.tmp 30) (.tmp 32) _ rfl i1 _ Tryz.underlying103 hi1 hy0 hy1 hy2 rfl w.heap.size A1 k c1 Q rfl O1.out A2 14 c2 (recT r) (recT_byte r) O2.out rfl (by omega) (by omega) B2.out (Nat.le_refl _) ?_); intro A3 c3 w3 hown3 hbel3; have O3 := Lh hown3; have B3 := Lh hbel3; clear hown3 hbel3)
     go_roundw
     case rel => exact ⟨k + 1, by omega, by go_num, ⟨A3, c3, rfl, by rw [HST.out]; exact O3.out⟩, B3.out⟩
     case measure => simp [intOf]; omega
    ·obtain rfl : k = n := by omega
     rw [TF.out] at hown
     have O := Lh hown
     have B := Lh hbel
     clear hown hbel
     go_wp2
     go_ret2
     exact ⟨A1, c1, rfl, O.out, B.out⟩
  ·exact absurd HM.out hm
 ·rw [show rnL t = [] from if_neg hm, show rnE t = 110 from if_neg hm]
  have HM := Lh hm
  clear ht hm hlen
  go_enter Tryz.func47, Tryz.ntmps47
  go_wp2_with fail
  refine T.out.mono ?_
  rintro e w1 ⟨⟨hm, B, rfl, hT, hB⟩ | ⟨hm, rfl⟩, hb1⟩
  ·exact absurd hm HM.out
  ·have B1 := Lh hb1
   clear hm hb1
   go_wp2
   go_ret2
   exact ⟨none, 0, rfl, OwnTexts.nil _ _, B1.out⟩
end Go.Proofs.YtifgcfepbenpjaaGreat
namespace Go.Proofs.YtifgcfepbenpjaaGreat
open Go.RowKit
set_option linter.unusedVariables false
def bootE (P T A M W Q : Int) (S : List Sec) (C : List Pnd) (m : Mt) : Int := if boE P T A M W Q S C m = 0 then (if m.s.1 = 4294967295 then 9 else spE P T A M W Q S C (bootS m)) else 8
def bootM (P T A M W Q : Int) (S : List Sec) (C : List Pnd) (m : Mt) : Mt := if bootE P T A M W Q S C m = 0 then ⟨bootS m, m.n, 0, m.t⟩ else zM
def bootA (P T A M W Q : Int) (S : List Sec) (C : List Pnd) (m : Mt) : List Ac := if bootE P T A M W Q S C m = 0 then actsA (spL P T A M W Q S C (bootS m)) else []
def PlanOut12 (w : World) (m : Mt) (l : List Ac) (E : Int) (e : Ending) (w' : World) : Prop := ∃ A' c' A2 c2 L, e = .returned (.tuple #[metV m.s.1 m.s.2.1 m.s.2.2 m.n m.u A' m.t.length c', .slice A2 l.length c2, .int .i64 E]) ∧ OwnRecs w' w.heap.size A' m.t.length c' m.t ∧ OwnAcs w' w.heap.size A2 l.length c2 L ∧ AxIs w' L l ∧ Below w.heap.size w w'
theorem rboot12_any (P T A M W Q : Int) (D : Option Addr) (nd d : Nat) (D' : Option Addr) (nd' d' : Nat) (S : List Sec) (C : List Pnd) (v a g n u : Int) (B : Option Addr) (k c : Nat) (t : List Rc) (w : World) (hq : Dsk w D nd d D' nd' d' S C) (hs : SmallD S C) (hi : isS (v, a, g)) (ht : Recs w B k c t) (hk : k ≤ 100000) :
  Calls Tryz.prog 22 #[cfgV P T A M W Q, diskV D nd d D' nd' d', metV v a g n u B k c] w (PlanOut12 w (bootM P T A M W Q S C ⟨(v, a, g), n, u, t⟩) (bootA P T A M W Q S C ⟨(v, a, g), n, u, t⟩) (bootE P T A M W Q S C ⟨(v, a, g), n, u, t⟩)) := by
 have hlen := ht.len
 obtain ⟨x, hbel⟩ := MBox.new P T A M W Q v a g n u hq ht
 obtain ⟨z, h2⟩ := met_box (((w.alloc (.cells #[.int .i64 P, .int .i64 T, .int .i64 A, .int .i64 M, .int .i64 W, .int .i64 Q] 36)).alloc (.cells #[.slice D nd d, .slice D' nd' d'] 25)).alloc (.cells #[.int .u32 v, .int .i64 a, .int .u64 g, .int .i64 n, .int .i64 u, .slice B k c] 32)) 0 0 0 0 0 none 0 0
 rw [World.size_alloc, World.size_alloc, World.size_alloc] at z
 have x := x.below h2
 obtain ⟨w0, hw0⟩ : ∃ x : World, x = ((((w.alloc (.cells #[.int .i64 P, .int .i64 T, .int .i64 A, .int .i64 M, .int .i64 W, .int .i64 Q] 36)).alloc (.cells #[.slice D nd d, .slice D' nd' d'] 25)).alloc (.cells #[.int .u32 v, .int .i64 a, .int .u64 g, .int .i64 n, .int .i64 u, .slice B k c] 32)).alloc (.cells #[.int .u32 0, .int .i64 0, .int .u64 0, .int .i64 0, .int .i64 0, .slice none 0 0] 32)) := ⟨_, rfl⟩
 rw [← hw0] at x z h2
 have X := Lh x
 have Z := Lh z
 have BB := Lh (hbel.trans (h2.mono hbel.size))
 have BO := Lh (fun wx hx hy => rboth12_any P T A M W Q v a g n u D nd d D' nd' d' S C B k c t wx hx hs hy hk)
 obtain ⟨⟨c0, c1, c2, c3, c4, c5, c6, c7⟩, d0, d1, d2, d3, d4, d5⟩ := x.cells
 clear x z h2 hbel
 by_cases h0 : boE P T A M W Q S C ⟨(v, a, g), n, u, t⟩ = 0
 ·rw [h0] at BO
  have hmm : mayT P T A M W Q S C ∧ mayM P T A M W Q ⟨(v, a, g), n, u, t⟩ := Classical.byContradiction fun hn => by
   unfold boE at h0
   rw [if_neg hn] at h0
   cases h0
  have har : arS a := hmm.2.2.1
  by_cases hv : v = 4294967295
  ·have hE : bootE P T A M W Q S C ⟨(v, a, g), n, u, t⟩ = 9 := by unfold bootE; rw [if_pos h0]; exact if_pos hv
   unfold bootM bootA
   rw [hE, if_neg (by decide), if_neg (by decide)]
   subst hv
   clear hi hq hs ht hk h0 hmm har hE hlen
   go_enter Tryz.func22, Tryz.ntmps22
   go_wp2_with fail
   rw [← hw0]
   clear hw0
   refine (BO.out _ X.out.two.dsk.dsk X.out.tab).mono ?_
   rintro e w1 ⟨rfl, hb⟩
   have BB := Lh (BB.out.trans (hb.mono BB.out.size))
   have X := Lh (X.out.below hb)
   have Z := Lh (Z.out.below hb Z.out.lt)
   clear hb BO c0 c1 c2 c3 c4 c5 c6 c7 d0 d1 d2 d3 d4 d5
   obtain ⟨⟨c0, c1, c2, c3, c4, c5, c6, c7⟩, d0, d1, d2, d3, d4, d5⟩ := X.out.cells
   have fz := Z.out.free
   obtain ⟨e0, e1, e2, e3, e4, e5⟩ := Z.out.met
   go_wp2
   obtain ⟨z0, z1, z2, z3, z4, z5⟩ := (Z.out.sixM 0 0 0 0 0 none 0 0).met
   refine bodyPost_ret (v := .tuple #[metV 0 0 0 0 0 none 0 0, .slice none 0 0, .int .i64 9]) ?_ rfl ⟨none, 0, none, 0, [], rfl, OwnRecs.nil _ _, OwnAcs.nil _ _, AxIs.nil _, below_sixM BB.out (by omega) 0 0 0 0 0 none 0 0⟩
   clear c0 c1 c2 c3 c4 c5 c6 c7 d0 d1 d2 d3 d4 d5 fz e0 e1 e2 e3 e4 e5
   simp [results, Tryz.f22, go_sem, z0, z1, z2, z3, z4, z5]
  ·have hE : bootE P T A M W Q S C ⟨(v, a, g), n, u, t⟩ = spE P T A M W Q S C (v + 1, a, g) := by unfold bootE; rw [if_pos h0]; exact if_neg hv
   have hv1 : v + 1 < 4294967296 := by have := hi.1.2; dsimp only at this; omega
   have BT := Lh (fun wx hx hy => rbooted_any P T A M W Q D nd d D' nd' d' S C v a g n u B k c t wx hx hs hmm.1 hi hv1 har hy hk)
   have PN := Lh (fun wx hx => rplan9_any P T A M W Q D nd d D' nd' d' S C (v + 1) a g wx hx hs ⟨⟨by have := hi.1.1; dsimp only at this ⊢; omega, hv1⟩, hi.2⟩)
   unfold NoteOut at BT
   unfold RPlan at PN
   obtain ⟨E2, hE2⟩ : ∃ y, y = spE P T A M W Q S C (v + 1, a, g) := ⟨_, rfl⟩
   have PL := Lh (fun h => plP_is (P := P) (T := T) (A := A) (M := M) (W := W) (Q := Q) (S := S) (C := C) (s := (v + 1, a, g)) h)
   rw [← hE2] at PN hE PL
   have hl2 : (actsA (plP S C (v + 1, a, g))).length = 2 := by simp [actsA, wrA, plP_len]
   dsimp only at BT
   rw [hl2, hlen] at BT
   obtain ⟨LP, hLP⟩ : ∃ y, y = actsA (plP S C (v + 1, a, g)) := ⟨_, rfl⟩
   rw [← hLP] at BT hl2
   have hne : ¬ v = 4294967295 := hv
   obtain ⟨sl, hsl⟩ : ∃ y, y = spL P T A M W Q S C (v + 1, a, g) := ⟨_, rfl⟩
   obtain ⟨sn, hsn⟩ : ∃ y, y = sl.length := ⟨_, rfl⟩
   rw [← hsl, ← hsn] at PN
   unfold bootM bootA
   rw [hE]
   by_cases h2 : E2 = 0
   ·have hLL : actsA (spL P T A M W Q S C (bootS ⟨(v, a, g), n, u, t⟩)) = LP := by rw [hLP, ← PL.out h2]; rfl
    rw [if_pos h2, if_pos h2, hLL]
    unfold PlanOut12 bootS
    dsimp only
    rw [h2] at PN ⊢
    rw [hl2, hlen]
    clear hE hE2 hsl hsn hLP hLL PL h2 hmm h0 har hi hq hs ht hk hv1 hlen hl2
    go_enter Tryz.func22, Tryz.ntmps22
    go_wp2_with fail
    rw [← hw0]
    clear hw0
    refine (BO.out _ X.out.two.dsk.dsk X.out.tab).mono ?_
    rintro e w1 ⟨rfl, hb⟩
    have BB := Lh (BB.out.trans (hb.mono BB.out.size))
    have X := Lh (X.out.below hb)
    have Z := Lh (Z.out.below hb Z.out.lt)
    clear hb BO c0 c1 c2 c3 c4 c5 c6 c7 d0 d1 d2 d3 d4 d5
    obtain ⟨⟨c0, c1, c2, c3, c4, c5, c6, c7⟩, d0, d1, d2, d3, d4, d5⟩ := X.out.cells
    go_wp2_with fail
    refine (BT.out _ X.out.two.dsk.dsk X.out.tab).mono ?_
    rintro e w2 ⟨A1, x1, A2, x2, L2, rfl, hown, hoA, hax, hb⟩
    have G1 := Lh Z.out.lt
    have S1 := Lh BB.out.size
    obtain ⟨y, hk1⟩ := met_box w2 (v + 1) a g n 0 A1 k x1
    have BB := Lh ((BB.out.trans (hb.mono BB.out.size)).trans (hk1.mono (BB.out.trans (hb.mono BB.out.size)).size))
    have X := Lh ((X.out.below hb).below hk1)
    have Z := Lh ((Z.out.below hb Z.out.lt).below hk1 (Nat.lt_of_lt_of_le Z.out.lt hb.size))
    have O := Lh (hown.below hk1)
    have OA := Lh (hoA.below hk1)
    have AX := Lh (hax.below hk1)
    have Y := Lh y
    clear hown hoA hax hb hk1 BT c0 c1 c2 c3 c4 c5 c6 c7 d0 d1 d2 d3 d4 d5
    obtain ⟨⟨c0, c1, c2, c3, c4, c5, c6, c7⟩, d0, d1, d2, d3, d4, d5⟩ := X.out.cells
    obtain ⟨y0, y1, y2, y3, y4, y5⟩ := y.met
    clear y
    go_wp2_with fail
    refine (PN.out _ X.out.two.dsk.dsk).mono ?_
    rintro e w3 ⟨A5, x5, rfl, hP, hb⟩
    have BB := Lh (BB.out.trans (hb.mono BB.out.size))
    have X := Lh (X.out.below hb)
    have Z := Lh (Z.out.below hb Z.out.lt)
    have O := Lh (O.out.below hb)
    have OA := Lh (OA.out.below hb)
    have AX := Lh (AX.out.below hb)
    have Y := Lh (Y.out.below hb Y.out.lt)
    clear hP hb PN c0 c1 c2 c3 c4 c5 c6 c7 d0 d1 d2 d3 d4 d5 y0 y1 y2 y3 y4 y5
    obtain ⟨y0, y1, y2, y3, y4, y5⟩ := Y.out.met
    have fz := Z.out.free
    obtain ⟨e0, e1, e2, e3, e4, e5⟩ := Z.out.met
    go_wp2
    obtain ⟨z0, z1, z2, z3, z4, z5⟩ := (Z.out.sixM (v + 1) a g n 0 A1 k x1).met
    refine bodyPost_ret (v := .tuple #[metV (v + 1) a g n 0 A1 k x1, .slice A2 2 x2, .int .i64 0]) ?_ rfl ⟨A1, x1, A2, x2, L2, rfl, OwnRecs.lower (OwnRecs.sixM O.out (G := w.heap.size + 1 + 1 + 1) G1.out (v + 1) a g n 0 A1 k x1) S1.out, OwnAcs.lower ((((((OA.out.away G1.out 0 _).away G1.out 1 _).away G1.out 2 _).away G1.out 3 _).away G1.out 4 _).away G1.out 5 _) S1.out, ⟨AX.out.1, fun i hi => ⟨(AX.out.2 i hi).1, (AX.out.2 i hi).2.1, Arg.offM Z.out (grown_six _ _ _ _ _ _ _ _ _ _) (AX.out.2 i hi).2.2⟩⟩, below_sixM BB.out (by omega) (v + 1) a g n 0 A1 k x1⟩
    clear fz e0 e1 e2 e3 e4 e5 y0 y1 y2 y3 y4 y5
    simp [results, Tryz.f22, go_sem, z0, z1, z2, z3, z4, z5]
   ·rw [if_neg h2, if_neg h2]
    have hz : (E2 != 0) = true := by simpa using h2
    clear hE hE2 hsl hsn hLP PL h2 hmm h0 har hi hq hs ht hk hv1 hlen hl2
    go_enter Tryz.func22, Tryz.ntmps22
    go_wp2_with fail
    rw [← hw0]
    clear hw0
    refine (BO.out _ X.out.two.dsk.dsk X.out.tab).mono ?_
    rintro e w1 ⟨rfl, hb⟩
    have BB := Lh (BB.out.trans (hb.mono BB.out.size))
    have X := Lh (X.out.below hb)
    have Z := Lh (Z.out.below hb Z.out.lt)
    clear hb BO c0 c1 c2 c3 c4 c5 c6 c7 d0 d1 d2 d3 d4 d5
    obtain ⟨⟨c0, c1, c2, c3, c4, c5, c6, c7⟩, d0, d1, d2, d3, d4, d5⟩ := X.out.cells
    go_wp2_with fail
    refine (BT.out _ X.out.two.dsk.dsk X.out.tab).mono ?_
    rintro e w2 ⟨A1, x1, A2, x2, L2, rfl, hown, hoA, hax, hb⟩
    have G1 := Lh Z.out.lt
    have S1 := Lh BB.out.size
    obtain ⟨y, hk1⟩ := met_box w2 (v + 1) a g n 0 A1 k x1
    have BB := Lh ((BB.out.trans (hb.mono BB.out.size)).trans (hk1.mono (BB.out.trans (hb.mono BB.out.size)).size))
    have X := Lh ((X.out.below hb).below hk1)
    have Z := Lh ((Z.out.below hb Z.out.lt).below hk1 (Nat.lt_of_lt_of_le Z.out.lt hb.size))
    have O := Lh (hown.below hk1)
    have OA := Lh (hoA.below hk1)
    have AX := Lh (hax.below hk1)
    have Y := Lh y
    clear hown hoA hax hb hk1 BT c0 c1 c2 c3 c4 c5 c6 c7 d0 d1 d2 d3 d4 d5
    obtain ⟨⟨c0, c1, c2, c3, c4, c5, c6, c7⟩, d0, d1, d2, d3, d4, d5⟩ := X.out.cells
    obtain ⟨y0, y1, y2, y3, y4, y5⟩ := y.met
    clear y
    go_wp2_with fail
    refine (PN.out _ X.out.two.dsk.dsk).mono ?_
    rintro e w3 ⟨A5, x5, rfl, hP, hb⟩
    have BB := Lh (BB.out.trans (hb.mono BB.out.size))
    have X := Lh (X.out.below hb)
    have Z := Lh (Z.out.below hb Z.out.lt)
    have O := Lh (O.out.below hb)
    have OA := Lh (OA.out.below hb)
    have AX := Lh (AX.out.below hb)
    have Y := Lh (Y.out.below hb Y.out.lt)
    clear hP hb PN c0 c1 c2 c3 c4 c5 c6 c7 d0 d1 d2 d3 d4 d5 y0 y1 y2 y3 y4 y5
    obtain ⟨y0, y1, y2, y3, y4, y5⟩ := Y.out.met
    have fz := Z.out.free
    obtain ⟨e0, e1, e2, e3, e4, e5⟩ := Z.out.met
    go_wp2
    obtain ⟨z0, z1, z2, z3, z4, z5⟩ := (Z.out.sixM 0 0 0 0 0 none 0 0).met
    refine bodyPost_ret (v := .tuple #[metV 0 0 0 0 0 none 0 0, .slice none 0 0, .int .i64 E2]) ?_ rfl ⟨none, 0, none, 0, [], rfl, OwnRecs.nil _ _, OwnAcs.nil _ _, AxIs.nil _, below_sixM BB.out (by omega) 0 0 0 0 0 none 0 0⟩
    clear fz e0 e1 e2 e3 e4 e5 y0 y1 y2 y3 y4 y5
    simp [results, Tryz.f22, go_sem, z0, z1, z2, z3, z4, z5]
 ·have hE : bootE P T A M W Q S C ⟨(v, a, g), n, u, t⟩ = 8 := if_neg h0
  have h8 : boE P T A M W Q S C ⟨(v, a, g), n, u, t⟩ = 8 := by
   unfold boE at h0 ⊢
   split at h0
   ·exact absurd rfl h0
   ·rename_i hn; exact if_neg hn
  rw [h8] at BO
  unfold bootM bootA
  rw [hE, if_neg (by decide), if_neg (by decide)]
  clear hi hq hs ht hk h0 h8 hE hlen
  go_enter Tryz.func22, Tryz.ntmps22
  go_wp2_with fail
  rw [← hw0]
  clear hw0
  refine (BO.out _ X.out.two.dsk.dsk X.out.tab).mono ?_
  rintro e w1 ⟨rfl, hb⟩
  have BB := Lh (BB.out.trans (hb.mono BB.out.size))
  have X := Lh (X.out.below hb)
  have Z := Lh (Z.out.below hb Z.out.lt)
  clear hb BO c0 c1 c2 c3 c4 c5 c6 c7 d0 d1 d2 d3 d4 d5
  obtain ⟨⟨c0, c1, c2, c3, c4, c5, c6, c7⟩, d0, d1, d2, d3, d4, d5⟩ := X.out.cells
  have fz := Z.out.free
  obtain ⟨e0, e1, e2, e3, e4, e5⟩ := Z.out.met
  go_wp2
  obtain ⟨z0, z1, z2, z3, z4, z5⟩ := (Z.out.sixM 0 0 0 0 0 none 0 0).met
  refine bodyPost_ret (v := .tuple #[metV 0 0 0 0 0 none 0 0, .slice none 0 0, .int .i64 8]) ?_ rfl ⟨none, 0, none, 0, [], rfl, OwnRecs.nil _ _, OwnAcs.nil _ _, AxIs.nil _, below_sixM BB.out (by omega) 0 0 0 0 0 none 0 0⟩
  clear c0 c1 c2 c3 c4 c5 c6 c7 d0 d1 d2 d3 d4 d5 fz e0 e1 e2 e3 e4 e5
  simp [results, Tryz.f22, go_sem, z0, z1, z2, z3, z4, z5]
end Go.Proofs.YtifgcfepbenpjaaGreat
