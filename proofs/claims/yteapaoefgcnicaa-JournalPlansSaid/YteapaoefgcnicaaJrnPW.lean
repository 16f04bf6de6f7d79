/- Layer 10, JournalPlans: the walk, given what the program's calls do. -/
import Derived.Test.YteapaoefgcnicaaJrnW
namespace Go.Proofs.Yteapaoefgcnicaa
open Go.RowKit
set_option linter.unusedVariables false

theorem jtB_len (g n : Int) (b : Txt) : (jtB g n b).length ≤ 32 := by
  unfold jtB
  split
  · rename_i h
    unfold jtE at h
    split at h
    · rename_i h1; rw [jT_length g n h1.2]; exact Nat.le_refl _
    · cases h
  · exact Nat.zero_le _
theorem jpB_len (P T A M W Q : Int) (S : List Sec) (C : List Pnd) (a g n : Int) (b : Txt) : (jpB P T A M W Q S C a g n b).length ≤ 32 := by
  unfold jpB
  split
  · rename_i h
    rw [jT_length g n (jpE_zero h).2.2.2.2.2]
    exact Nat.le_refl _
  · exact Nat.zero_le _
theorem jpB_byte (P T A M W Q : Int) (S : List Sec) (C : List Pnd) (a g n : Int) {b : Txt} (hb : ∀ z ∈ b, isByte z) : ∀ z ∈ jpB P T A M W Q S C a g n b, isByte z := by
  unfold jpB
  split
  · exact jT_byte g n hb
  · intro z hz; cases hz

set_option maxRecDepth 100000 in
set_option maxHeartbeats 12800000 in
theorem jplans_of (JD : JrnDoes) (P T A M W Q : Int) (D : Option Addr) (n c : Nat) (D' : Option Addr) (n' c' : Nat) (S : List Sec) (C : List Pnd) (a g k : Int) (a5 : Option Addr) (len5 cap5 : Nat) (z5 : List Int) (w : World) (hq : Dsk w D n c D' n' c' S C) (hg : isG g) (w5 : IsRow .u8 w a5 len5 cap5 z5) :
    Calls Try.prog 5 #[cfgV P T A M W Q, diskV D n c D' n' c', .int .i64 a, .int .u64 g, .int .i64 k, .slice a5 len5 cap5] w fun e w' => e = .returned (.bool true) ∧ Below w.heap.size w w' := by
  obtain ⟨x, hbel⟩ := TBox.new P T A M W Q hq
  obtain ⟨w0, hw0⟩ : ∃ x : World, x = (w.alloc (.cells #[.int .i64 P, .int .i64 T, .int .i64 A, .int .i64 M, .int .i64 W, .int .i64 Q] 33)).alloc (.cells #[.slice D n c, .slice D' n' c'] 25) := ⟨_, rfl⟩
  rw [← hw0] at x hbel
  obtain ⟨b, hb, hbw⟩ := w5.arg
  have hbl := hb.len
  have BY := Lib.hid (fun z hz => wf_byte (hbw z hz) : ∀ z ∈ b, isByte z)
  have X := Lib.hid x
  have B := Lib.hid hbel
  have RB := Lib.hid (hb.below hbel)
  obtain ⟨c0, c1, c2, c3, c4, c5, d0, d1⟩ := x.cells
  have gg := fun w hx => great_any D n c D' n' c' S C 300 w hx
  clear x hbel hq w5 hb hbw
  cases hg1 : greatD S C 300 with
  | true =>
    rw [hg1] at gg
    have GG := Lib.hid gg
    clear gg hg1 hbl
    go_enter Try.func5, Try.ntmps5
    go_wp2_with fail
    rw [← hw0]
    clear hw0
    refine (GG.out _ X.out.dsk.dsk).mono ?_
    rintro e w1 ⟨rfl, hb⟩
    have B := Lib.hid (B.out.trans (hb.mono B.out.size))
    clear hb c0 c1 c2 c3 c4 c5 d0 d1
    go_wp2
    go_ret
    exact ⟨rfl, B.out⟩
  | false =>
  rw [hg1] at gg
  have GG := Lib.hid gg
  have SZ := Lib.hid (small_ofD (by decide) (by decide) hg1)
  clear gg hg1
  by_cases hl1 : 100 < len5
  · have hl2 : (100 : Int) < (len5 : Int) := by omega
    clear hbl hl1
    go_enter Try.func5, Try.ntmps5
    go_wp2_with fail
    rw [← hw0]
    clear hw0
    refine (GG.out _ X.out.dsk.dsk).mono ?_
    rintro e w1 ⟨rfl, hb⟩
    have B := Lib.hid (B.out.trans (hb.mono B.out.size))
    clear hb c0 c1 c2 c3 c4 c5 d0 d1
    go_wp2
    go_ret
    exact ⟨rfl, B.out⟩
  have hl2 : ¬ (100 : Int) < (len5 : Int) := by omega
  have hl3 : len5 ≤ 100 := by omega
  have TW := Lib.hid (fun wx hx => twin_any D n c D' n' c' S C wx hx SZ.out)
  have PD := Lib.hid (fun A0 c0 A0' c0' AM cM wx (hx : Dsk wx A0 n c0 A0' n' c0' S C) (hr : Arg wx .u8 AM len5 cM b) => JD.plan P T A M W Q A0 n c0 A0' n' c0' S C a g k AM len5 cM b wx hx SZ.out hg hr BY.out hl3)
  have PR := Lib.hid (fun wx hx (hr : Arg wx .u8 a5 len5 cap5 b) => rplan10_any P T A M W Q D n c D' n' c' S C a g k a5 len5 cap5 b wx hx SZ.out hg hr)
  have TD := Lib.hid (fun AM cM wx (hr : Arg wx .u8 AM len5 cM b) => JD.text g k AM len5 cM b wx hg hr BY.out hl3)
  have TR := Lib.hid (fun wx (hr : Arg wx .u8 a5 len5 cap5 b) => rtext10_any g k hg a5 len5 cap5 b wx hr)
  have SY := Lib.hid (fun A0 c0 A0' c0' wx (hx : Dsk wx A0 n c0 A0' n' c0' S C) hy => same_yes A0 n c0 A0' n' c0' S C D n c D' n' c' wx hx hy)
  unfold PndOut at PD
  unfold PendOut at PR
  unfold TxtOut at TD
  unfold RowOut at TR
  have hlen := jpB_len P T A M W Q S C a g k b
  have HBP := Lib.hid (jpB_byte P T A M W Q S C a g k BY.out)
  obtain ⟨E1, hE1⟩ : ∃ v, v = jpE P T A M W Q S C a k b := ⟨_, rfl⟩
  obtain ⟨p, hp⟩ : ∃ v, v = jpN P T A M W Q S C a k b := ⟨_, rfl⟩
  obtain ⟨t1, ht1⟩ : ∃ v, v = jpB P T A M W Q S C a g k b := ⟨_, rfl⟩
  obtain ⟨E2, hE2⟩ : ∃ v, v = jtE k b := ⟨_, rfl⟩
  obtain ⟨t2, ht2⟩ : ∃ v, v = jtB g k b := ⟨_, rfl⟩
  rw [← hE1, ← hp, ← ht1] at PD PR
  rw [← ht1] at hlen HBP
  rw [← hE2, ← ht2] at TD TR
  obtain ⟨m1, hm1⟩ : ∃ m, m = t1.length := ⟨_, rfl⟩
  rw [← hm1] at PD PR hlen
  obtain ⟨m2, hm2⟩ : ∃ m, m = t2.length := ⟨_, rfl⟩
  rw [← hm2] at TD TR
  have he1 : (E1 == E1) = true := beq_self_eq_true _
  have he2 : (E2 == E2) = true := beq_self_eq_true _
  have hep : (p == p) = true := beq_self_eq_true _
  have hst1 : ((strOfNums t1).toList == (strOfNums t1).toList) = true := beq_self_eq_true _
  have hst2 : ((strOfNums t2).toList == (strOfNums t2).toList) = true := beq_self_eq_true _
  have hst3 : ((strOfNums b).toList == (strOfNums b).toList) = true := beq_self_eq_true _
  clear hE1 hp ht1 hE2 ht2 hm1 hm2 hg hl1 hbl
  go_enter Try.func5, Try.ntmps5
  go_wp2_with fail
  rw [← hw0]
  clear hw0
  refine (GG.out _ X.out.dsk.dsk).mono ?_
  rintro e w1 ⟨rfl, hb⟩
  have B := Lib.hid (B.out.trans (hb.mono B.out.size))
  have X := Lib.hid (X.out.below hb)
  have RB := Lib.hid (RB.out.below hb)
  clear hb c0 c1 c2 c3 c4 c5 d0 d1 GG
  obtain ⟨c0, c1, c2, c3, c4, c5, d0, d1⟩ := X.out.cells
  go_wp2_with fail
  refine (TW.out _ X.out.dsk.dsk).mono ?_
  rintro e w2 ⟨A2, a2, A2', a2', rfl, hown, hb⟩
  have B := Lib.hid (B.out.trans (hb.mono B.out.size))
  have X := Lib.hid (X.out.below hb)
  have RB := Lib.hid (RB.out.below hb)
  have OO := Lib.hid hown
  clear hb c0 c1 c2 c3 c4 c5 d0 d1 TW hown
  obtain ⟨ib, hib, hbz, hb1, hb2⟩ := info_parts byte_info
  have hml : (1000 : Nat) ≤ maxLen := by decide
  go_wp2_with (at_builtin; refine wpList_dup_g w2 rfl (.tmp 34) (.tmp 35) _ rfl 5 ib _ 1 Try.underlying36 hib hbz hb1 hb2 rfl rfl a5 len5 cap5 (ints .u8 b) rfl (by rw [ints_length, RB.out.len]) RB.out.seq (ints_one _ _) (by omega) (by omega) ?_; intro AM cM w5 hown5 hbel5; have O5 := Lib.hid hown5; have B5 := Lib.hid hbel5; clear hown5 hbel5; obtain ⟨o0, o1⟩ := box_disk w5 A2 n a2 A2' n' a2'; have KK : Below w2.heap.size w2 (w5.alloc (.cells #[.slice A2 n a2, .slice A2' n' a2'] 25)) := B5.out.alloc B5.out.size _; obtain ⟨c0, c1, c2, c3, c4, c5, d0, d1⟩ := (X.out.below KK).cells; clear KK)
  have K5 : Below w2.heap.size w2 (w5.alloc (.cells #[.slice A2 n a2, .slice A2' n' a2'] 25)) := B5.out.alloc B5.out.size _
  have X := Lib.hid (X.out.below K5)
  have RB := Lib.hid (RB.out.below K5)
  have O := DBox.new ((Dsk.of_own OO.out).below B5.out)
  have OM := owns_below O5.out (show Below w5.heap.size w5 (w5.alloc (.cells #[.slice A2 n a2, .slice A2' n' a2'] 25)) from (Below.refl _ _).alloc (Nat.le_refl _) _)
  have B := Lib.hid (B.out.trans (K5.mono B.out.size))
  obtain ⟨GO, hGO⟩ : ∃ x, x = w5.heap.size := ⟨_, rfl⟩
  rw [← hGO] at O ⊢
  obtain ⟨w6, hw6⟩ : ∃ x : World, x = w5.alloc (.cells #[.slice A2 n a2, .slice A2' n' a2'] 25) := ⟨_, rfl⟩
  rw [← hw6] at X RB O OM B o0 o1 c0 c1 c2 c3 c4 c5 d0 d1 ⊢
  rw [← hGO] at o0 o1
  have O := Lib.hid O
  have M1 := Lib.hid (Arg.own OM)
  have X6 := Lib.hid X.out
  have RB6 := Lib.hid RB.out
  have O6 := Lib.hid O.out
  have M6 := Lib.hid M1.out
  have B6 := Lib.hid B.out
  clear hGO hw6 K5 OO O5 B5 OM hib hbz hb1 hb2 hl2 B
  go_wp2_with fail
  refine (PD.out A2 a2 A2' a2' AM cM w6 O.out.dsk M1.out).mono ?_
  rintro e w7 ⟨A7, c7, rfl, hown, hb⟩
  have Y7 := Blk.new w7 40 [.int .i64 p, .slice A7 m1 c7]
  have hbk : Below w7.heap.size w7 (w7.alloc (.cells #[.int .i64 p, .slice A7 m1 c7] 40)) := (Below.refl _ _).alloc (Nat.le_refl _) _
  have hb := hb.trans (hbk.mono hb.size)
  have V1 := Lib.hid (hown.below hbk)
  have H := Lib.hid hb
  have X := Lib.hid (X.out.below hb)
  have RB := Lib.hid (RB.out.below hb)
  have O := Lib.hid (O.out.below hb)
  have M1 := Lib.hid (M1.out.below hb)
  clear hb hbk hown c0 c1 c2 c3 c4 c5 d0 d1 o0 o1 PD
  go_upto_region 5 with fail
  obtain ⟨G7, hG⟩ : ∃ x, x = w7.heap.size := ⟨_, rfl⟩
  rw [← hG] at Y7 ⊢
  obtain ⟨w8, hW⟩ : ∃ x : World, x = w7.alloc (.cells #[.int .i64 p, .slice A7 m1 c7] 40) := ⟨_, rfl⟩
  rw [← hW] at Y7 V1 H X RB O M1 ⊢
  clear hW hG
  have Y7 := Lib.hid Y7
  obtain ⟨c0, c1, c2, c3, c4, c5, d0, d1⟩ := X.out.cells
  go_wp2_with fail
  refine (PR.out _ X.out.dsk.dsk RB.out).mono ?_
  rintro e w9 ⟨A9, c9, rfl, hown, hb⟩
  have Y9 := Blk.new w9 40 [.int .i64 p, .slice A9 m1 c9]
  have hbk : Below w9.heap.size w9 (w9.alloc (.cells #[.int .i64 p, .slice A9 m1 c9] 40)) := (Below.refl _ _).alloc (Nat.le_refl _) _
  have hb := hb.trans (hbk.mono hb.size)
  have V2 := Lib.hid ((Arg.own hown).below hbk)
  have V1 := Lib.hid (V1.out.below hb)
  have Y7 := Lib.hid (Y7.out.below hb Y7.out.lt)
  have H := Lib.hid (H.out.trans (hb.mono H.out.size))
  have X := Lib.hid (X.out.below hb)
  have RB := Lib.hid (RB.out.below hb)
  have O := Lib.hid (O.out.below hb)
  have M1 := Lib.hid (M1.out.below hb)
  clear hb hbk hown c0 c1 c2 c3 c4 c5 d0 d1 PR
  go_upto_region 6 with fail
  obtain ⟨G9, hG⟩ : ∃ x, x = w9.heap.size := ⟨_, rfl⟩
  rw [← hG] at Y9 ⊢
  obtain ⟨wA, hW⟩ : ∃ x : World, x = w9.alloc (.cells #[.int .i64 p, .slice A9 m1 c9] 40) := ⟨_, rfl⟩
  rw [← hW] at Y9 Y7 V1 V2 H X RB O M1 ⊢
  clear hW hG
  have Y9 := Lib.hid Y9
  go_wp2_with fail
  refine (TD.out AM cM _ M1.out).mono ?_
  rintro e wB ⟨AB, cB, rfl, hown, hb⟩
  have V3 := Lib.hid hown.arg
  have V1 := Lib.hid (V1.out.below hb)
  have V2 := Lib.hid (V2.out.below hb)
  have Y7 := Lib.hid (Y7.out.below hb Y7.out.lt)
  have Y9 := Lib.hid (Y9.out.below hb Y9.out.lt)
  have H := Lib.hid (H.out.trans (hb.mono H.out.size))
  have X := Lib.hid (X.out.below hb)
  have RB := Lib.hid (RB.out.below hb)
  have O := Lib.hid (O.out.below hb)
  have M1 := Lib.hid (M1.out.below hb)
  clear hb hown TD
  go_wp2_with fail
  refine (TR.out _ RB.out).mono ?_
  rintro e wC ⟨AC, cC, rfl, hown, hb⟩
  have V4 := Lib.hid (Arg.own hown)
  have V1 := Lib.hid (V1.out.below hb)
  have V2 := Lib.hid (V2.out.below hb)
  have V3 := Lib.hid (V3.out.below hb)
  have Y7 := Lib.hid (Y7.out.below hb Y7.out.lt)
  have Y9 := Lib.hid (Y9.out.below hb Y9.out.lt)
  have H := Lib.hid (H.out.trans (hb.mono H.out.size))
  clear hb hown TR X O
  have es1 := str_arg V1.out.arg
  have es2 := str_arg V2.out
  have es3 := str_arg V3.out
  have es4 := str_arg V4.out
  have y0 := Y7.out.cell 0
  have y1 := Y7.out.cell 1
  have z0 := Y9.out.cell 0
  have z1 := Y9.out.cell 1
  simp only [List.getElem?_cons_zero, List.getElem?_cons_succ] at y0 y1 z0 z1
  have hm32 : m1 ≤ 1000 := by omega
  go_wp2
  clear es1 es2 es3 es4 y0 y1 z0 z1
  go_loopw [24] (fun i wr => ∃ x : Nat, x ≤ m1 ∧ i = .int .i64 x ∧ (∃ zs, OwnTxt wr w6.heap.size A7 m1 c7 zs ∧ ∀ z ∈ zs, isByte z) ∧ Blk wr G7 40 [.int .i64 p, .slice A7 m1 c7] ∧ Below w6.heap.size w6 wr) (fun i _ => m1 - (intOf i).toNat)
  case atStart => exact ⟨0, Nat.zero_le _, rfl, ⟨_, V1.out, HBP.out⟩, Y7.out, H.out⟩
  case round =>
    obtain ⟨j, hj, rfl, ⟨zs, ht, hzb⟩, hx, hb⟩ := hrel
    have y0 := hx.cell 0
    have y1 := hx.cell 1
    simp only [List.getElem?_cons_zero, List.getElem?_cons_succ] at y0 y1
    by_cases hjn : j < m1
    · obtain ⟨gb, o, rfl, hbg, hu, hcg, hfg⟩ := ht.at_ hjn
      have hbyte : isByte (zs.getD j 0) := hzb _ (getD_mem _ j (by rw [ht.1]; exact hjn))
      obtain ⟨x, hxx⟩ : ∃ x, x = zs.getD j 0 := ⟨_, rfl⟩
      rw [← hxx] at hcg hbyte
      have hx0 : 0 ≤ x := hbyte.1
      have hx1 : x < 256 := hbyte.2
      have T3 := Lib.hid (ht.touch (g := gb) (k := o + j) ((x + 1) % 256))
      have TB := Lib.hid (touchL_byte (some ⟨gb, o, none⟩) gb (o + j) (z := (x + 1) % 256) (zs := zs) ⟨by omega, by omega⟩ hzb)
      have X3 := Lib.hid (hx.touchedU (by decide) hu (o + j) (.int .u8 ((x + 1) % 256)))
      have B4 := Lib.hid (hb.setCell (p := ⟨gb, o + j, none⟩) hbg (.int .u8 ((x + 1) % 256)))
      have hw2 : IntKind.i64.wrap (j : Int) = (j : Int) := Lib.wrap_i64_small j (by omega)
      have hj1 : (j : Int) < (m1 : Int) := by omega
      clear hxx hbyte ht hb hx hu hzb
      go_wp2
      refine wp_region_still_tail 10 (by kernel_rfl) (by kernel_rfl) ?_
      simp only [List.take_succ_cons, List.take_zero, List.drop_succ_cons, List.drop_zero]
      repeat still_step
      try refine wpStill_nil ?_
      change wpList _ _ _ _ _ wr.drew
      go_wp2
      go_roundw
      case rel =>
        refine ⟨j + 1, by omega, by go_num, ⟨_, T3.out.keep fun _ _ _ => rfl, TB.out⟩, ?_, ?_⟩
        · exact (X3.out.below (below_drewN (Below.refl _ _) 1) X3.out.lt)
        · exact (show Below _ w6 (wr.setCell ⟨gb, o + j, none⟩ (.int .u8 ((x + 1) % 256))).drew from below_drewN B4.out 1)
      case measure => simp [intOf]; omega
    · obtain rfl : j = m1 := by omega
      have HB := Lib.hid hb
      have O7 := Lib.hid (O6.out.below hb)
      have X7 := Lib.hid (X6.out.below hb)
      have M7 := Lib.hid (M6.out.below hb)
      have R7 := Lib.hid (RB6.out.below hb)
      obtain ⟨c0, c1, c2, c3, c4, c5, d0, d1⟩ := X7.out.cells
      obtain ⟨o0, o1⟩ := O7.out.cells
      clear ht hb hx hzb
      go_wp2_with fail
      refine (SY.out A2 a2 A2' a2' _ O7.out.dsk X7.out.dsk.dsk).mono ?_
      rintro e wZ ⟨rfl, hb⟩
      have es5 := str_arg (M7.out.below hb)
      have es6 := str_arg (R7.out.below hb)
      have B := Lib.hid (B6.out.trans ((HB.out.trans (hb.mono HB.out.size)).mono B6.out.size))
      clear hb c0 c1 c2 c3 c4 c5 d0 d1 o0 o1 y0 y1
      go_wp2
      go_ret
      exact ⟨rfl, B.out⟩

end Go.Proofs.Yteapaoefgcnicaa
