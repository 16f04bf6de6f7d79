/- Layer 5, package disk: Waits. -/
import Derived.Test.YtajocifomjgjhaaDskJ
namespace Go.Proofs.Ytajocifomjgjhaa
open Go.RowKit Go.Shelf
set_option linter.unusedVariables false
attribute [local go_sem] Oper.semAt_some

theorem abide_blk (B g : Nat) (t : TypeId) (cs : List Value) : AbideW B (fun W => Blk W g t cs) := fun s X Y row hs hg hr => hs.grown hg (fun e => by
  obtain ⟨_, o, ho, hc⟩ := hr g e.symm
  unfold Blk at hs
  rw [hs] at ho
  cases ho
  cases hc)
theorem abide_below {w : World} {B : Nat} (h : w.heap.size ≤ B) : AbideW B (fun W => Below w.heap.size w W) := ownFrom_below (Nat.le_refl _) h
theorem abide_and {B : Nat} {I J : World → Prop} (h : AbideW B I) (k : AbideW B J) : AbideW B (fun W => I W ∧ J W) := fun s X Y row hs hg hr => ⟨h s X Y row hs.1 hg hr, k s X Y row hs.2 hg hr⟩
theorem found_pend {C : List Pnd} {k : Nat} (hl : C.length = k) (t : Int) : pendB C t = (foundW k (fun i => (C.getD i (0, [])).1) t).isSome := by
  cases h : foundW k (fun i => (C.getD i (0, [])).1) t with
  | none =>
    refine pend_none fun y hy => ?_
    unfold foundW at h
    rw [List.find?_eq_none] at h
    have := h ⟨y, by omega⟩ (by simp)
    rwa [decide_eq_true_iff] at this
  | some x =>
    unfold foundW at h
    have := List.find?_some h
    rw [decide_eq_true_iff] at this
    exact pend_hit (k := x.val) (by omega) this
theorem three_boxes (w : World) (d : List Value) (t1 t2 : TypeId) (v1 v2 : Value) : ∃ w1, w1 = ((w.alloc (.cells d.toArray 25)).alloc (.cells #[v1] t1)).alloc (.cells #[v2] t2) ∧ w1.heap.size = w.heap.size + 3 ∧ Below w.heap.size w w1 ∧ Blk w1 w.heap.size 25 d ∧ Blk w1 (w.heap.size + 1) t1 [v1] ∧ Blk w1 (w.heap.size + 2) t2 [v2] := by
  refine ⟨_, rfl, by simp, (((Below.refl _ _).alloc (Nat.le_refl _) _).alloc (by simp) _).alloc (by simp; omega) _, ?_, ?_, ?_⟩
  · exact ((Blk.new w 25 d).grown (World.grownBy_alloc _ _ none) (by simp)).grown (World.grownBy_alloc _ _ none) (by simp)
  · have := Blk.new (w.alloc (.cells d.toArray 25)) t1 [v1]
    rw [World.size_alloc] at this
    exact this.grown (World.grownBy_alloc _ _ none) (by simp)
  · have := Blk.new ((w.alloc (.cells d.toArray 25)).alloc (.cells #[v1] t1)) t2 [v2]
    rw [World.size_alloc, World.size_alloc] at this
    exact this
theorem Blk.one {w : World} {g : Nat} {t : TypeId} {a : Value} (h : Blk w g t [a]) (x : Value) : Blk (w.setCell ⟨g, 0, none⟩ x) g t [x] := h.set 0 x

set_option maxRecDepth 100000 in
set_option maxHeartbeats 2000000 in
theorem waits_in (A : Option Addr) (n c : Nat) (A' : Option Addr) (n' c' : Nat) (S : List Sec) (C : List Pnd) (t : Int) (w : World) (hq : Dsk w A n c A' n' c' S C) (hn' : n' ≤ 100000) (hask : askE S C t = 0) :
    CallsIn Fence.wide 9 Try.prog 13 #[diskV A n c A' n' c', .int .i64 t] w fun e w' => e = .returned (.tuple #[.bool (pendB C t), .int .i64 0]) ∧ Below w.heap.size w w' := by
  rw [found_pend hq.pnds.len]
  obtain ⟨at_, hat⟩ : ∃ f : Nat → Int, f = fun i => (C.getD i (0, [])).1 := ⟨_, rfl⟩
  rw [← hat]
  have HAT := Lib.hid hat
  clear hat
  obtain ⟨w1, hw1, hsz1, hb, x0, x1, x2⟩ := three_boxes w [.slice A n c, .slice A' n' c'] 4 26 (.bool false) (.int .i64 0)
  have CA := checkAt_any A n c A' n' c' S C t w1 (hq.below hb)
  rw [hask] at CA
  have CA := Lib.hid CA
  have c0 := x0.cell 0
  have c1 := x0.cell 1
  simp only [List.getElem?_cons_zero, List.getElem?_cons_succ] at c0 c1
  have X0 := Lib.hid x0
  have X1 := Lib.hid x1
  have X2 := Lib.hid x2
  have BEL := Lib.hid hb
  have H := Lib.hid hq
  have hsz1' := Lib.hid hsz1
  clear hq hask hsz1 hb x0 x1 x2
  refine callsIn_of_wp_marks Try.func13 rfl trivial ?_ rfl
  simp only [Try.ntmps13, List.size_toArray, List.length_cons, List.length_nil, Nat.reduceAdd, Nat.reduceSub, Array.replicate_succ, Array.replicate_zero, List.push_toArray, List.append_toArray, List.nil_append, List.cons_append]
  gi_wp2_with fail
  rw [← hw1]
  clear hw1
  refine ⟨trivial, ?_⟩
  gi_at_call 34
  refine (callsIn_wide.2 CA.out).mono ?_
  rintro e w2 ⟨rfl, hb2⟩
  have Y0 := Lib.hid (X0.out.below hb2 X0.out.lt)
  have Y1 := Lib.hid (X1.out.below hb2 X1.out.lt)
  have Y2 := Lib.hid (X2.out.below hb2 X2.out.lt)
  have B2 := Lib.hid (BEL.out.trans (hb2.mono BEL.out.size))
  have d0 := Y0.out.cell 0
  have d1 := Y0.out.cell 1
  simp only [List.getElem?_cons_zero, List.getElem?_cons_succ] at d0 d1
  clear hb2 c0 c1 CA
  gi_wp2_with (refine ⟨trivial, ?_⟩; gi_at_call 35; refine (writesOf_in _ A n c A' n' c' t _).mono ?_; rintro e w' ⟨rfl, rfl⟩)
  obtain ⟨W1, hW1⟩ : ∃ W1, W1 = (w2.alloc (.cells #[.slice A n c, .slice A' n' c'] 25)).alloc (.cells #[.int .i64 t] 3) := ⟨_, rfl⟩
  have hs1 : W1.heap.size = w2.heap.size + 2 := by rw [hW1]; simp
  have hb21 : Below w2.heap.size w2 W1 := by rw [hW1]; exact ((Below.refl _ _).alloc (Nat.le_refl _) _).alloc (by simp) _
  have z1 : W1.cell? ⟨w2.heap.size, 1, none⟩ = some (.slice A' n' c') := by
    rw [hW1]
    exact ((Blk.new w2 25 [.slice A n c, .slice A' n' c']).grown (World.grownBy_alloc _ _ none) (by simp)).cell 1
  have z2 : W1.cell? ⟨w2.heap.size + 1, 0, none⟩ = some (.int .i64 t) := by
    have := (Blk.new (w2.alloc (.cells #[.slice A n c, .slice A' n' c'] 25)) 3 [.int .i64 t]).cell 0
    rw [World.size_alloc] at this
    rw [hW1]; exact this
  rw [← hW1]
  clear hW1 d0 d1
  have B1 := Lib.hid (B2.out.trans (hb21.mono B2.out.size))
  have V0 := Lib.hid (Y0.out.below hb21 Y0.out.lt)
  have V1 := Lib.hid (Y1.out.below hb21 Y1.out.lt)
  have V2 := Lib.hid (Y2.out.below hb21 Y2.out.lt)
  obtain ⟨tx, hH, htx⟩ := Hands.of (H.out.below B1.out).pnds
  rw [← HAT.out] at hH
  have HTX := Lib.hid htx
  clear hb21 htx Y0 Y1 Y2
  obtain ⟨G2, hG2⟩ : ∃ G2, G2 = w.heap.size + 1 + 1 := ⟨_, rfl⟩
  have hG2w : w.heap.size ≤ G2 := by omega
  have hG12 : w.heap.size + 1 ≠ G2 := by omega
  have hG02 : w.heap.size ≠ G2 := by omega
  change Hid (Blk W1 (w.heap.size + 1 + 1) _ _) at V2
  rw [← hG2] at V2 ⊢
  clear hG2
  refine wpIn_rangeFunc_first rfl (by omega) (gf := 57) (lb := #[.pointer (some ⟨w2.heap.size, 0, none⟩), .pointer (some ⟨w2.heap.size + 1, 0, none⟩)]) rfl trivial (enters_of Try.func57 (by kernel_rfl) rfl)
    (writes_first 8 w2.heap.size (w2.heap.size + 1) A' n' c' at_ tx t W1 (by omega) hn' (by omega) (by omega) z1 z2 hH) (Below.refl _ _) (fun _ => rfl)
    (fun W => (Blk W (w.heap.size + 1) 4 [.bool false] ∧ Blk W G2 26 [.int .i64 0]) ∧ Below w.heap.size w W)
    (fun x W => (Blk W (w.heap.size + 1) 4 [.bool true] ∧ Blk W G2 26 [.int .i64 0]) ∧ Below w.heap.size w W)
    (abide_and (abide_and (abide_blk _ _ _ _) (abide_blk _ _ _ _)) (abide_below B1.out.size)) (fun x => abide_and (abide_and (abide_blk _ _ _ _) (abide_blk _ _ _ _)) (abide_below B1.out.size))
    ⟨⟨V1.out, V2.out⟩, B1.out⟩
    (fun x => { tmps := #[diskV A n c A' n' c', .int .i64 t, .pointer (some ⟨w.heap.size, 0, none⟩), undef, .pointer (some ⟨w.heap.size + 1, 0, none⟩), .pointer (some ⟨G2, 0, none⟩), .int .i64 0, .agg #[.slice A n c, .slice A' n' c'], .int .i64 t, .int .i64 0, .int .i64 0, .bool false, undef, .agg #[.slice A n c, .slice A' n' c'], .int .i64 t,
      .func (.func 57) #[] #[.pointer (some ⟨w2.heap.size, 0, none⟩), .pointer (some ⟨w2.heap.size + 1, 0, none⟩)], .slice (tx x.val).1 (tx x.val).2.1 (tx x.val).2.2], defers := [] }) ?assign ?body ?done ?stop
  case assign =>
    intro l x W K hK
    dsimp only
    gi_wp2
    first | exact hK | simpa using hK
  case body =>
    rintro l x W hok ⟨⟨h1, h2⟩, hB⟩
    have p1 := h1.cell 0
    have p2 := h2.cell 0
    have f1 := h1.free 0
    have f2 := h2.free 0
    simp only [List.getElem?_cons_zero] at p1 p2
    have R1 := Lib.hid ((h1.one (.bool true)).away hG12 0 (.int .i64 0))
    have R2 := Lib.hid ((h2.away (Ne.symm hG12) 0 (.bool true)).one (.int .i64 0))
    have BB := Lib.hid ((hB.setCell (p := ⟨w.heap.size + 1, 0, none⟩) (Nat.le_succ _) (.bool true)).setCell (p := ⟨G2, 0, none⟩) hG2w (.int .i64 0))
    clear h1 h2 hB
    gi_wp2
    exact ⟨(KeepsOthers.setCell _ _ _).trans (KeepsOthers.setCell _ _ _), ⟨R1.out, R2.out⟩, BB.out⟩
  case done =>
    rintro D W hD hf ⟨⟨h1, h2⟩, hB⟩ hK
    have HF := Lib.hid hf
    have p1 := h1.cell 0
    have p2 := h2.cell 0
    have f1 := h1.free 0
    have f2 := h2.free 0
    simp only [List.getElem?_cons_zero] at p1 p2
    have R1 := Lib.hid ((h1.one (.bool false)).away hG12 0 (.int .i64 0))
    have R2 := Lib.hid ((h2.away (Ne.symm hG12) 0 (.bool false)).one (.int .i64 0))
    have BB := Lib.hid ((hB.setCell (p := ⟨w.heap.size + 1, 0, none⟩) (Nat.le_succ _) (.bool false)).setCell (p := ⟨G2, 0, none⟩) hG2w (.int .i64 0))
    have HK := Lib.hid (((KeepsOthers.setCell W ⟨w.heap.size + 1, 0, none⟩ (.bool false)).trans (KeepsOthers.setCell _ ⟨G2, 0, none⟩ (.int .i64 0))).same D _ hK rfl)
    clear h1 h2 hB hK hf
    gi_wp2
    refine ⟨by simp, .inl ⟨_, _, rfl, run_takeDeferred HK.out, ?_⟩⟩
    have e1 := ((abide_blk 0 _ _ _) () _ _ _ R1.out (grownBy_putObj' _ D (.deferred none)) (fun r e => by cases e; exact ⟨Nat.zero_le _, _, HK.out, rfl⟩)).cell 0
    have e2 := ((abide_blk 0 _ _ _) () _ _ _ R2.out (grownBy_putObj' _ D (.deferred none)) (fun r e => by cases e; exact ⟨Nat.zero_le _, _, HK.out, rfl⟩)).cell 0
    simp only [List.getElem?_cons_zero] at e1 e2
    refine ⟨.tuple #[.bool false, .int .i64 0], ?_, by rw [HF.out]; rfl, BB.out.trans (belowK_b (w := w) (Nat.le_refl _) _ D _ _ (Nat.le_trans B1.out.size hD) HK.out rfl rfl)⟩
    clear p1 p2 f1 f2
    simp [results, Try.f13, go_sem, e1, e2]
  case stop =>
    rintro D x W hD hf ⟨⟨h1, h2⟩, hB⟩ hK
    have HF := Lib.hid hf
    have R1 := Lib.hid h1
    have R2 := Lib.hid h2
    have BB := Lib.hid hB
    have HK := Lib.hid hK
    clear h1 h2 hB hK hf
    gi_wp2
    refine ⟨by simp, .inl ⟨_, _, rfl, run_takeDeferred HK.out, ?_⟩⟩
    have e1 := ((abide_blk 0 _ _ _) () _ _ _ R1.out (grownBy_putObj' _ D (.deferred none)) (fun r e => by cases e; exact ⟨Nat.zero_le _, _, HK.out, rfl⟩)).cell 0
    have e2 := ((abide_blk 0 _ _ _) () _ _ _ R2.out (grownBy_putObj' _ D (.deferred none)) (fun r e => by cases e; exact ⟨Nat.zero_le _, _, HK.out, rfl⟩)).cell 0
    simp only [List.getElem?_cons_zero] at e1 e2
    refine ⟨.tuple #[.bool true, .int .i64 0], ?_, by rw [HF.out]; rfl, BB.out.trans (belowK_b (w := w) (Nat.le_refl _) W D _ _ (Nat.le_trans B1.out.size hD) HK.out rfl rfl)⟩
    simp [results, Try.f13, go_sem, e1, e2]

set_option maxRecDepth 100000 in
theorem pwaits_any (A : Option Addr) (n c : Nat) (A' : Option Addr) (n' c' : Nat) (S : List Sec) (C : List Pnd) (t : Int) (w : World) (hq : Dsk w A n c A' n' c' S C) (hs : SmallD S C) :
    Calls Try.prog 13 #[diskV A n c A' n' c', .int .i64 t] w fun e w' => e = .returned (.tuple #[.bool (waB S C t), .int .i64 (askE S C t)]) ∧ Below w.heap.size w w' := by
  by_cases h0 : askE S C t = 0
  · have hw : waB S C t = pendB C t := by unfold waB; rw [if_pos h0]
    rw [hw, h0]
    exact callsIn_wide.1 (waits_in A n c A' n' c' S C t w hq (by have := hs.pnds; have := hq.pnds.len; omega) h0)
  · have hw : waB S C t = false := by unfold waB; rw [if_neg h0]
    rw [hw]
    obtain ⟨w1, hw1, hsz1, hb, x0, x1, x2⟩ := three_boxes w [.slice A n c, .slice A' n' c'] 4 26 (.bool false) (.int .i64 0)
    have CA := checkAt_any A n c A' n' c' S C t w1 (hq.below hb)
    obtain ⟨E, hE⟩ : ∃ E, E = askE S C t := ⟨_, rfl⟩
    rw [← hE] at CA h0 ⊢
    have hne : (E != 0) = true := bne_iff_ne.2 h0
    have CA := Lib.hid CA
    have c0 := x0.cell 0
    have c1 := x0.cell 1
    simp only [List.getElem?_cons_zero, List.getElem?_cons_succ] at c0 c1
    have X1 := Lib.hid x1
    have X2 := Lib.hid x2
    have BEL := Lib.hid hb
    clear hq hs hsz1 hb x0 x1 x2 hE h0
    go_enter Try.func13, Try.ntmps13
    go_wp2_with fail
    rw [← hw1]
    clear hw1
    refine CA.out.mono ?_
    rintro e w2 ⟨rfl, hb2⟩
    have y1 := X1.out.below hb2 X1.out.lt
    have y2 : Blk w2 (w.heap.size + 1 + 1) 26 [.int .i64 0] := X2.out.below hb2 X2.out.lt
    have B2 := BEL.out.trans (hb2.mono BEL.out.size)
    obtain ⟨G2, hG2⟩ : ∃ G2, G2 = w.heap.size + 1 + 1 := ⟨_, rfl⟩
    have hG2w : w.heap.size ≤ G2 := by omega
    have hG12 : w.heap.size + 1 ≠ G2 := by omega
    rw [← hG2] at y2 ⊢
    have p1 := y1.cell 0
    have p2 := y2.cell 0
    have f1 := y1.free 0
    have f2 := y2.free 0
    simp only [List.getElem?_cons_zero] at p1 p2
    have e1 := ((y1.one (.bool false)).away hG12 0 (.int .i64 E)).cell 0
    have e2 := ((y2.away (Ne.symm hG12) 0 (.bool false)).one (.int .i64 E)).cell 0
    simp only [List.getElem?_cons_zero] at e1 e2
    have BB := Lib.hid ((B2.setCell (p := ⟨w.heap.size + 1, 0, none⟩) (Nat.le_succ _) (.bool false)).setCell (p := ⟨G2, 0, none⟩) hG2w (.int .i64 E))
    clear y1 y2 B2 hb2 hG2 c0 c1
    go_wp2
    refine bodyPost_ret (v := .tuple #[.bool false, .int .i64 E]) ?_ rfl ⟨rfl, BB.out⟩
    clear p1 p2 f1 f2
    simp [results, Try.f13, go_sem, e1, e2]

end Go.Proofs.Ytajocifomjgjhaa
