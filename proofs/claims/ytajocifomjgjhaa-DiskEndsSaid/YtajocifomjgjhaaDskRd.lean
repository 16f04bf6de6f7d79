/- Layer 5, package disk: Read. -/
import Derived.Test.YtajocifomjgjhaaDskV
namespace Go.Proofs.Ytajocifomjgjhaa
open Go.RowKit Go.Shelf
set_option linter.unusedVariables false
attribute [local go_sem] Oper.semAt_some

theorem Hands.more {w : World} {B B' : Nat} {A : Option Addr} {k : Nat} {at_ : Nat → Int} {tx : Nat → Option Addr × Nat × Nat} (h : Hands w B A k at_ tx) (hB : B ≤ B') : Hands w B' A k at_ tx :=
  ⟨fun i hi => by
    obtain ⟨b, o, e, hlt, h1, h2⟩ := h.cell i hi
    exact ⟨b, o, e, Nat.lt_of_lt_of_le hlt hB, h1, h2⟩⟩
theorem keepsOthers_below {W W' : World} (h : Below W.heap.size W W') : KeepsOthers W W' := ⟨h.size, fun k o hk _ => (h.block k (Array.getElem?_eq_some_iff.1 hk).1).trans hk⟩
theorem abide_ex {α : Type} {B : Nat} {I : α → World → Prop} (h : ∀ x, AbideW B (I x)) : AbideW B (fun W => ∃ x, I x W) := fun s X Y row hs hg hr => by
  obtain ⟨x, hx⟩ := hs
  exact ⟨x, h x s X Y row hx hg hr⟩
theorem abide_owns (B base : Nat) (e : TypeId) (k : Nat) (v : Value) (n : Nat) (xs : List Value) : AbideW B (fun W => W.ownsRow base e k v n xs) := fun s X Y row hs hg hr =>
  owns_keep hs fun g cs _ hc => hg.block g (Array.getElem?_eq_some_iff.1 hc).1 (fun e => by
    obtain ⟨_, o, ho, hc2⟩ := hr g e.symm
    rw [hc] at ho
    cases ho
    cases hc2)
theorem lastW_found {C : List Pnd} {k : Nat} (hl : C.length = k) (t : Int) : lastW C t = (foundW k (fun i => (C.getD i (0, [])).1) t).map fun x => (C.getD x.val (0, [])).2 := by
  have hC : C = (List.finRange k).map fun x => C.getD x.val (0, []) := by
    apply List.ext_getElem
    · simp [hl]
    · intro i h1 h2
      simp [h1]
  unfold lastW foundW
  conv => lhs; rw [hC]
  rw [← List.map_reverse, List.find?_map, Option.map_map]
  rfl
theorem rd_some {S : List Sec} {C : List Pnd} {t : Int} {x : Txt} (h0 : askE S C t = 0) (h : lastW C t = some x) : rdE S C t = 0 ∧ rdB S C t = x := by
  have hE : rdE S C t = 0 := by unfold rdE gotOk; rw [if_pos h0, h]; rfl
  exact ⟨hE, by unfold rdB gotB; rw [if_pos hE, h]; rfl⟩
theorem rd_none_ok {S : List Sec} {C : List Pnd} {t : Int} (h0 : askE S C t = 0) (h : lastW C t = none) (hb : (secAt S t).1 = false) : rdE S C t = 0 ∧ rdB S C t = (secAt S t).2 := by
  have hE : rdE S C t = 0 := by unfold rdE gotOk; rw [if_pos h0, h, hb]; rfl
  exact ⟨hE, by unfold rdB gotB; rw [if_pos hE, h]; rfl⟩
theorem rd_none_bad {S : List Sec} {C : List Pnd} {t : Int} (h0 : askE S C t = 0) (h : lastW C t = none) (hb : (secAt S t).1 = true) : rdE S C t = 50 ∧ rdB S C t = [] := by
  have hE : rdE S C t = 50 := by unfold rdE gotOk; rw [if_pos h0, h, hb]; rfl
  exact ⟨hE, by unfold rdB; rw [hE]; rfl⟩

set_option maxRecDepth 100000 in
set_option maxHeartbeats 3200000 in
theorem read_in (A : Option Addr) (n c : Nat) (A' : Option Addr) (n' c' : Nat) (S : List Sec) (C : List Pnd) (t : Int) (w : World) (hq : Dsk w A n c A' n' c' S C) (hs : SmallD S C) (hask : askE S C t = 0) :
    CallsIn Fence.wide 9 Try.prog 10 #[diskV A n c A' n' c', .int .i64 t] w (BytesOut w (rdB S C t) (rdE S C t)) := by
  have hn' : n' ≤ 100000 := by have := hs.pnds; have := hq.pnds.len; omega
  have LF := lastW_found hq.pnds.len t
  obtain ⟨_, a, rfl, han⟩ := ask_zero hask
  rw [hq.secs.len] at han
  have RS := Lib.hid fun x => rd_some (S := S) (C := C) (t := (a : Int)) (x := x) hask
  have RO := Lib.hid (rd_none_ok (S := S) (C := C) (t := (a : Int)) hask)
  have RB := Lib.hid (rd_none_bad (S := S) (C := C) (t := (a : Int)) hask)
  obtain ⟨at_, hat⟩ : ∃ f : Nat → Int, f = fun i => (C.getD i (0, [])).1 := ⟨_, rfl⟩
  rw [← hat] at LF
  have HAT := Lib.hid hat
  have LF := Lib.hid LF
  have SMP := Lib.hid fun k => hs.pnd_at k
  have SMS := Lib.hid fun k => hs.sec_at k
  obtain ⟨t, ht⟩ : ∃ t : Int, t = a := ⟨_, rfl⟩
  rw [← ht] at hask LF RS RO RB ⊢
  have ht0 : 0 ≤ t := by omega
  have htn : t < (n : Int) := by omega
  have hcm := Nat.le_trans hq.secs.cap hq.secs.max
  unfold maxLen at hcm
  obtain ⟨w1, hw1, hsz1, hb, x0, x1, x2⟩ := three_boxes w [.slice A n c, .slice A' n' c'] 31 26 (.slice none 0 0) (.int .i64 0)
  have CA := checkAt_any A n c A' n' c' S C t w1 (hq.below hb)
  rw [hask] at CA
  have CA := Lib.hid CA
  have c0 := x0.cell 0
  have c1 := x0.cell 1
  simp only [List.getElem?_cons_zero, List.getElem?_cons_succ] at c0 c1
  have X0 := Lib.hid x0
  have X1 := Lib.hid x1
  have X2 := Lib.hid x2
  have BEL := Lib.hid hb
  have H := Lib.hid hq
  have HT := Lib.hid ht
  clear hq hs hask hsz1 hb x0 x1 x2 hat ht
  refine callsIn_of_wp_marks Try.func10 rfl trivial ?_ rfl
  simp only [Try.ntmps10, List.size_toArray, List.length_cons, List.length_nil, Nat.reduceAdd, Nat.reduceSub, Array.replicate_succ, Array.replicate_zero, List.push_toArray, List.append_toArray, List.nil_append, List.cons_append]
  gi_wp2_with fail
  rw [← hw1]
  clear hw1
  refine ⟨trivial, ?_⟩
  gi_at_call 34
  refine (callsIn_wide.2 CA.out).mono ?_
  rintro e w2 ⟨rfl, hb2⟩
  have Y0 := Lib.hid (X0.out.below hb2 X0.out.lt)
  have Y1 := Lib.hid (X1.out.below hb2 X1.out.lt)
  have Y2 := Lib.hid (X2.out.below hb2 X2.out.lt)
  have B2 := Lib.hid (BEL.out.trans (hb2.mono BEL.out.size))
  have d0 := Y0.out.cell 0
  have d1 := Y0.out.cell 1
  simp only [List.getElem?_cons_zero, List.getElem?_cons_succ] at d0 d1
  clear hb2 c0 c1 CA
  gi_wp2_with (refine ⟨trivial, ?_⟩; gi_at_call 35; refine (writesOf_in _ A n c A' n' c' t _).mono ?_; rintro e w' ⟨rfl, rfl⟩)
  obtain ⟨W1, hW1⟩ : ∃ W1, W1 = (w2.alloc (.cells #[.slice A n c, .slice A' n' c'] 25)).alloc (.cells #[.int .i64 t] 3) := ⟨_, rfl⟩
  have hs1 : W1.heap.size = w2.heap.size + 2 := by rw [hW1]; simp
  have hb21 : Below w2.heap.size w2 W1 := by rw [hW1]; exact ((Below.refl _ _).alloc (Nat.le_refl _) _).alloc (by simp) _
  have z1 : W1.cell? ⟨w2.heap.size, 1, none⟩ = some (.slice A' n' c') := by
    rw [hW1]
    exact ((Blk.new w2 25 [.slice A n c, .slice A' n' c']).grown (World.grownBy_alloc _ _ none) (by simp)).cell 1
  have z2 : W1.cell? ⟨w2.heap.size + 1, 0, none⟩ = some (.int .i64 t) := by
    have := (Blk.new (w2.alloc (.cells #[.slice A n c, .slice A' n' c'] 25)) 3 [.int .i64 t]).cell 0
    rw [World.size_alloc] at this
    rw [hW1]; exact this
  rw [← hW1]
  clear hW1 d0 d1
  have B1 := Lib.hid (B2.out.trans (hb21.mono B2.out.size))
  have V0 := Lib.hid (Y0.out.below hb21 Y0.out.lt)
  have V1 := Lib.hid (Y1.out.below hb21 Y1.out.lt)
  have V2 := Lib.hid (Y2.out.below hb21 Y2.out.lt)
  obtain ⟨tx, hH0, htx⟩ := Hands.of H.out.pnds
  rw [← HAT.out] at hH0
  have hH := (hH0.below B1.out).more B1.out.size
  clear hH0
  have HTX := Lib.hid htx
  clear hb21 htx Y0 Y1 Y2
  obtain ⟨G2, hG2⟩ : ∃ G2, G2 = w.heap.size + 1 + 1 := ⟨_, rfl⟩
  have hG2w : w.heap.size ≤ G2 := by omega
  have hG12 : w.heap.size + 1 ≠ G2 := by omega
  have hG02 : w.heap.size ≠ G2 := by omega
  change Hid (Blk W1 (w.heap.size + 1 + 1) _ _) at V2
  rw [← hG2] at V2 ⊢
  clear hG2
  refine wpIn_rangeFunc_first rfl (by omega) (gf := 57) (lb := #[.pointer (some ⟨w2.heap.size, 0, none⟩), .pointer (some ⟨w2.heap.size + 1, 0, none⟩)]) rfl trivial (enters_of Try.func57 (by kernel_rfl) rfl)
    (writes_first 8 w2.heap.size (w2.heap.size + 1) A' n' c' at_ tx t W1 (by omega) hn' (by omega) (by omega) z1 z2 hH) (Below.refl _ _) (fun _ => rfl)
    (fun W => (Blk W (w.heap.size + 1) 31 [.slice none 0 0] ∧ Blk W G2 26 [.int .i64 0]) ∧ Blk W w.heap.size 25 [.slice A n c, .slice A' n' c'] ∧ Below w.heap.size w W)
    (fun x W => ∃ A1 c1, (Blk W (w.heap.size + 1) 31 [.slice A1 (tx x.val).2.1 c1] ∧ Blk W G2 26 [.int .i64 0]) ∧ W.ownsRow w.heap.size 5 1 (.slice A1 (tx x.val).2.1 c1) (tx x.val).2.1 (ints .u8 (C.getD x.val (0, [])).2) ∧ Below w.heap.size w W)
    (abide_and (abide_and (abide_blk _ _ _ _) (abide_blk _ _ _ _)) (abide_and (abide_blk _ _ _ _) (abide_below B1.out.size))) (fun x => abide_ex fun A1 => abide_ex fun c1 => abide_and (abide_and (abide_blk _ _ _ _) (abide_blk _ _ _ _)) (abide_and (abide_owns _ _ _ _ _ _ _) (abide_below B1.out.size)))
    ⟨⟨V1.out, V2.out⟩, V0.out, B1.out⟩
    (fun x => { tmps := #[diskV A n c A' n' c', .int .i64 t, .pointer (some ⟨w.heap.size, 0, none⟩), undef, .pointer (some ⟨w.heap.size + 1, 0, none⟩), .pointer (some ⟨G2, 0, none⟩), .int .i64 0, .slice (tx x.val).1 (tx x.val).2.1 (tx x.val).2.2, .agg #[.slice A n c, .slice A' n' c'], .int .i64 t, .int .i64 0, .int .i64 0, .bool false, undef, .agg #[.slice A n c, .slice A' n' c'], .int .i64 t, .func (.func 57) #[] #[.pointer (some ⟨w2.heap.size, 0, none⟩), .pointer (some ⟨w2.heap.size + 1, 0, none⟩)], .slice (tx x.val).1 (tx x.val).2.1 (tx x.val).2.2, undef, undef, undef, undef, undef, undef, undef, undef, undef, undef, undef, undef, undef, undef, undef], defers := [] }) ?assign ?body ?done ?stop
  case assign =>
    intro l x W K hK
    dsimp only
    gi_wp2
    first | exact hK | simpa using hK
  case body =>
    rintro l x W hok ⟨⟨h1, h2⟩, h3, hB⟩
    have ha := (HTX.out x.val x.isLt)
    have hargW : Arg W .u8 (tx x.val).1 (tx x.val).2.1 (tx x.val).2.2 (C.getD x.val (0, [])).2 := ha.below hB
    have hln : (tx x.val).2.1 ≤ 100000 := by have := SMP.out x.val; have := hargW.len; omega
    have CL := Lib.hid (bclone_any _ _ _ _ W hargW hln)
    have G1 := Lib.hid h1
    have G3 := Lib.hid h2
    have BB := Lib.hid hB
    clear h1 h2 h3 hB ha hargW
    gi_wp2_with (refine ⟨trivial, ?_⟩; gi_at_call 36; refine (CallsIn.inRound l (callsIn_wide.2 CL.out)).mono ?_; rintro e w5 ⟨A1, c1, rfl, hown5, hb5⟩; have k1 := G1.out.below hb5 G1.out.lt; have k2 := G3.out.below hb5 G3.out.lt; have p1 := k1.cell 0; have p2 := k2.cell 0; have f1 := k1.free 0; have f2 := k2.free 0; simp only [List.getElem?_cons_zero] at p1 p2; have R1 := Lib.hid ((k1.one (.slice A1 (tx x.val).2.1 c1)).away hG12 0 (.int .i64 0)); have R2 := Lib.hid ((k2.away (Ne.symm hG12) 0 (.slice A1 (tx x.val).2.1 c1)).one (.int .i64 0)); have OW := Lib.hid (owns_other_box (owns_other_box (owns_base hown5 BB.out.size) k1 (by decide) 0 (.slice A1 (tx x.val).2.1 c1)) (k2.away (Ne.symm hG12) 0 (.slice A1 (tx x.val).2.1 c1)) (by decide) 0 (.int .i64 0)); have B5 := Lib.hid ((((BB.out.trans (hb5.mono BB.out.size))).setCell (p := ⟨w.heap.size + 1, 0, none⟩) (Nat.le_succ _) (.slice A1 (tx x.val).2.1 c1)).setCell (p := ⟨G2, 0, none⟩) hG2w (.int .i64 0)); have KO := Lib.hid (keepsOthers_below hb5); clear hown5 hb5 k1 k2)
    exact ⟨(KO.out.trans (KeepsOthers.setCell _ _ _)).trans (KeepsOthers.setCell _ _ _), A1, c1, ⟨R1.out, R2.out⟩, OW.out, B5.out⟩
  case done =>
    rintro D W hD hf ⟨⟨h1, h2⟩, h3, hB⟩ hK
    have hnone : lastW C t = none := by rw [LF.out, hf]; rfl
    have htt := HT.out
    subst htt
    obtain ⟨b, o, Ai, ni, ci, rfl, hlt, hc, hx, hai⟩ := (H.out.secs.below hB).at_ a han
    have hsa : secAt S (a : Int) = S.getD a (false, []) := by simp [secAt]
    have q0 := h3.cell 0
    have p1 := h1.cell 0
    have p2 := h2.cell 0
    have f1 := h1.free 0
    have f2 := h2.free 0
    simp only [List.getElem?_cons_zero] at q0 p1 p2
    have hsm := SMS.out a
    have hln := hai.len
    obtain ⟨s, hs⟩ : ∃ s, s = S.getD a (false, []) := ⟨_, rfl⟩
    rw [← hs] at hx hai hsa hsm hln
    obtain ⟨bad, x⟩ := s
    cases bad with
    | true =>
      have RES := Lib.hid (RB.out hnone (by rw [hsa]))
      have R1 := Lib.hid ((h1.one (.slice none 0 0)).away hG12 0 (.int .i64 50))
      have R2 := Lib.hid ((h2.away (Ne.symm hG12) 0 (.slice none 0 0)).one (.int .i64 50))
      have BB := Lib.hid ((hB.setCell (p := ⟨w.heap.size + 1, 0, none⟩) (Nat.le_succ _) (.slice none 0 0)).setCell (p := ⟨G2, 0, none⟩) hG2w (.int .i64 50))
      have HK := Lib.hid (((KeepsOthers.setCell W ⟨w.heap.size + 1, 0, none⟩ (.slice none 0 0)).trans (KeepsOthers.setCell _ ⟨G2, 0, none⟩ (.int .i64 50))).same D _ hK rfl)
      clear h1 h2 h3 hB hK hf hnone hs hsa hai
      gi_wp2
      refine ⟨by simp, .inl ⟨_, _, rfl, run_takeDeferred HK.out, ?_⟩⟩
      have e1 := ((abide_blk 0 _ _ _) () _ _ _ R1.out (grownBy_putObj' _ D (.deferred none)) (fun r e => by cases e; exact ⟨Nat.zero_le _, _, HK.out, rfl⟩)).cell 0
      have e2 := ((abide_blk 0 _ _ _) () _ _ _ R2.out (grownBy_putObj' _ D (.deferred none)) (fun r e => by cases e; exact ⟨Nat.zero_le _, _, HK.out, rfl⟩)).cell 0
      simp only [List.getElem?_cons_zero] at e1 e2
      refine ⟨.tuple #[.slice none 0 0, .int .i64 50], ?_, ?_⟩
      · clear q0 p1 p2 f1 f2
        simp [results, Try.f10, go_sem, e1, e2]
      · have hR := RES.out
        rw [hR.1, hR.2]
        exact ⟨none, 0, rfl, World.ownsRow_nil _ _ _ _, BB.out.trans (belowK_b (w := w) (Nat.le_refl _) _ D _ _ (Nat.le_trans B1.out.size hD) HK.out rfl rfl)⟩
    | false =>
      have RES := Lib.hid (RO.out hnone (by rw [hsa]))
      have HSA := Lib.hid hsa
      have CL := Lib.hid (bclone_any Ai ni ci x W hai (by dsimp only at hsm hln; omega))
      have G1 := Lib.hid h1
      have G3 := Lib.hid h2
      have BB := Lib.hid hB
      have HK := Lib.hid hK
      clear h1 h2 h3 hB hK hf hnone hs hsa hai p1 p2 f1 f2
      gi_wp2_with (refine ⟨trivial, ?_⟩; gi_at_call 36; refine (callsIn_wide.2 CL.out).mono ?_; rintro e w5 ⟨A1, c1, rfl, hown5, hb5⟩; have k1 := G1.out.below hb5 G1.out.lt; have k2 := G3.out.below hb5 G3.out.lt; have p1 := k1.cell 0; have p2 := k2.cell 0; have f1 := k1.free 0; have f2 := k2.free 0; simp only [List.getElem?_cons_zero] at p1 p2; have R1 := Lib.hid ((k1.one (.slice A1 ni c1)).away hG12 0 (.int .i64 0)); have R2 := Lib.hid ((k2.away (Ne.symm hG12) 0 (.slice A1 ni c1)).one (.int .i64 0)); have OW := Lib.hid (owns_other_box (owns_other_box (owns_base hown5 BB.out.size) k1 (by decide) 0 (.slice A1 ni c1)) (k2.away (Ne.symm hG12) 0 (.slice A1 ni c1)) (by decide) 0 (.int .i64 0)); have B5 := Lib.hid ((((BB.out.trans (hb5.mono BB.out.size))).setCell (p := ⟨w.heap.size + 1, 0, none⟩) (Nat.le_succ _) (.slice A1 ni c1)).setCell (p := ⟨G2, 0, none⟩) hG2w (.int .i64 0)); have HK2 := Lib.hid (((keepsOthers_below hb5).trans ((KeepsOthers.setCell w5 ⟨w.heap.size + 1, 0, none⟩ (.slice A1 ni c1)).trans (KeepsOthers.setCell _ ⟨G2, 0, none⟩ (.int .i64 0)))).same D _ HK.out rfl); clear hown5 hb5 k1 k2)
      refine ⟨by simp, .inl ⟨_, _, rfl, run_takeDeferred HK2.out, ?_⟩⟩
      have e1 := ((abide_blk 0 _ _ _) () _ _ _ R1.out (grownBy_putObj' _ D (.deferred none)) (fun r e => by cases e; exact ⟨Nat.zero_le _, _, HK2.out, rfl⟩)).cell 0
      have e2 := ((abide_blk 0 _ _ _) () _ _ _ R2.out (grownBy_putObj' _ D (.deferred none)) (fun r e => by cases e; exact ⟨Nat.zero_le _, _, HK2.out, rfl⟩)).cell 0
      have o2 := (abide_owns 0 _ _ _ _ _ _) () _ _ _ OW.out (grownBy_putObj' _ D (.deferred none)) (fun r e => by cases e; exact ⟨Nat.zero_le _, _, HK2.out, rfl⟩)
      simp only [List.getElem?_cons_zero] at e1 e2
      have hlx : ni = x.length := hln.symm
      refine ⟨.tuple #[.slice A1 ni c1, .int .i64 0], ?_, ⟨A1, c1, ?_, ?_, B5.out.trans (belowK_b (w := w) (Nat.le_refl _) _ D _ _ (Nat.le_trans B1.out.size hD) HK2.out rfl rfl)⟩⟩
      · clear q0 p1 p2 f1 f2
        simp [results, Try.f10, go_sem, e1, e2]
      · rw [RES.out.1, RES.out.2, HSA.out, ← hlx]
      · rw [RES.out.2, HSA.out, ← hlx]; exact o2
  case stop =>
    rintro D x W hD hf ⟨A1, c1, ⟨h1, h2⟩, ho, hB⟩ hK
    have HF := Lib.hid hf
    have R1 := Lib.hid h1
    have R2 := Lib.hid h2
    have OW := Lib.hid ho
    have BB := Lib.hid hB
    have HK := Lib.hid hK
    clear h1 h2 ho hB hK hf
    gi_wp2
    refine ⟨by simp, .inl ⟨_, _, rfl, run_takeDeferred HK.out, ?_⟩⟩
    have e1 := ((abide_blk 0 _ _ _) () _ _ _ R1.out (grownBy_putObj' _ D (.deferred none)) (fun r e => by cases e; exact ⟨Nat.zero_le _, _, HK.out, rfl⟩)).cell 0
    have e2 := ((abide_blk 0 _ _ _) () _ _ _ R2.out (grownBy_putObj' _ D (.deferred none)) (fun r e => by cases e; exact ⟨Nat.zero_le _, _, HK.out, rfl⟩)).cell 0
    have o2 := (abide_owns 0 _ _ _ _ _ _) () _ _ _ OW.out (grownBy_putObj' _ D (.deferred none)) (fun r e => by cases e; exact ⟨Nat.zero_le _, _, HK.out, rfl⟩)
    simp only [List.getElem?_cons_zero] at e1 e2
    have hRS := RS.out (C.getD x.val (0, [])).2 (by rw [LF.out, HF.out]; rfl)
    have hln : (tx x.val).2.1 = (C.getD x.val (0, [])).2.length := by have := o2.1; rw [ints_length] at this; omega
    refine ⟨.tuple #[.slice A1 (tx x.val).2.1 c1, .int .i64 0], ?_, ⟨A1, c1, ?_, ?_, BB.out.trans (belowK_b (w := w) (Nat.le_refl _) W D _ _ (Nat.le_trans B1.out.size hD) HK.out rfl rfl)⟩⟩
    · simp [results, Try.f10, go_sem, e1, e2]
    · rw [hRS.1, hRS.2, ← hln]
    · rw [hRS.2, ← hln]; exact o2

set_option maxRecDepth 100000 in
theorem pread_any (A : Option Addr) (n c : Nat) (A' : Option Addr) (n' c' : Nat) (S : List Sec) (C : List Pnd) (t : Int) (w : World) (hq : Dsk w A n c A' n' c' S C) (hs : SmallD S C) :
    Calls Try.prog 10 #[diskV A n c A' n' c', .int .i64 t] w (BytesOut w (rdB S C t) (rdE S C t)) := by
  by_cases h0 : askE S C t = 0
  · exact callsIn_wide.1 (read_in A n c A' n' c' S C t w hq hs h0)
  · have hE : rdE S C t = askE S C t := by unfold rdE; rw [if_neg h0]
    have hw : rdB S C t = [] := by unfold rdB; rw [hE, if_neg h0]
    rw [hw, hE]
    obtain ⟨w1, hw1, hsz1, hb, x0, x1, x2⟩ := three_boxes w [.slice A n c, .slice A' n' c'] 31 26 (.slice none 0 0) (.int .i64 0)
    have CA := checkAt_any A n c A' n' c' S C t w1 (hq.below hb)
    clear hE
    obtain ⟨E, hE⟩ : ∃ E, E = askE S C t := ⟨_, rfl⟩
    rw [← hE] at CA h0 ⊢
    have hne : (E != 0) = true := bne_iff_ne.2 h0
    have CA := Lib.hid CA
    have c0 := x0.cell 0
    have c1 := x0.cell 1
    simp only [List.getElem?_cons_zero, List.getElem?_cons_succ] at c0 c1
    have X1 := Lib.hid x1
    have X2 := Lib.hid x2
    have BEL := Lib.hid hb
    clear hq hs hsz1 hb x0 x1 x2 hE h0 hw
    go_enter Try.func10, Try.ntmps10
    go_wp2_with fail
    rw [← hw1]
    clear hw1
    refine CA.out.mono ?_
    rintro e w2 ⟨rfl, hb2⟩
    have y1 := X1.out.below hb2 X1.out.lt
    have y2 : Blk w2 (w.heap.size + 1 + 1) 26 [.int .i64 0] := X2.out.below hb2 X2.out.lt
    have B2 := BEL.out.trans (hb2.mono BEL.out.size)
    obtain ⟨G2, hG2⟩ : ∃ G2, G2 = w.heap.size + 1 + 1 := ⟨_, rfl⟩
    have hG2w : w.heap.size ≤ G2 := by omega
    have hG12 : w.heap.size + 1 ≠ G2 := by omega
    rw [← hG2] at y2 ⊢
    have p1 := y1.cell 0
    have p2 := y2.cell 0
    have f1 := y1.free 0
    have f2 := y2.free 0
    simp only [List.getElem?_cons_zero] at p1 p2
    have e1 := ((y1.one (.slice none 0 0)).away hG12 0 (.int .i64 E)).cell 0
    have e2 := ((y2.away (Ne.symm hG12) 0 (.slice none 0 0)).one (.int .i64 E)).cell 0
    simp only [List.getElem?_cons_zero] at e1 e2
    have BB := Lib.hid ((B2.setCell (p := ⟨w.heap.size + 1, 0, none⟩) (Nat.le_succ _) (.slice none 0 0)).setCell (p := ⟨G2, 0, none⟩) hG2w (.int .i64 E))
    clear y1 y2 B2 hb2 hG2 c0 c1
    go_wp2
    refine bodyPost_ret (v := .tuple #[.slice none 0 0, .int .i64 E]) ?_ rfl ⟨none, 0, rfl, World.ownsRow_nil _ _ _ _, BB.out⟩
    clear p1 p2 f1 f2
    simp [results, Try.f10, go_sem, e1, e2]

end Go.Proofs.Ytajocifomjgjhaa
