/- Layer 10, JournalTells: the walk, given what the program's calls do. -/
import Derived.Test.YteapaoefgcnicaaJrnW
namespace Go.Proofs.Yteapaoefgcnicaa
open Go.RowKit
set_option linter.unusedVariables false

theorem sam4_yes (A : Option Addr) (n c : Nat) (A' : Option Addr) (n' c' : Nat) (L : List Txt) (w : World) (ha : Texts w A n c L) (hb : Texts w A' n' c' L) :
    Calls Try.prog 18 #[.slice A n c, .slice A' n' c'] w fun e w' => e = .returned (.bool true) ∧ Below w.heap.size w w' := by
  have h := sam4_any A n c L A' n' c' L w ha hb
  rw [decide_eq_true rfl] at h
  refine h.mono ?_
  rintro e w' ⟨rfl, q, rfl⟩
  exact ⟨rfl, below_drewN (Below.refl _ _) q⟩

set_option maxRecDepth 100000 in
set_option maxHeartbeats 12800000 in
theorem jtells_of (JD : JrnDoes) (P T A M W Q : Int) (D : Option Addr) (n c : Nat) (D' : Option Addr) (n' c' : Nat) (S : List Sec) (C : List Pnd) (a g : Int) (w : World) (hq : Dsk w D n c D' n' c' S C) (hg : isG g) :
    Calls Try.prog 4 #[cfgV P T A M W Q, diskV D n c D' n' c', .int .i64 a, .int .u64 g] w fun e w' => e = .returned (.bool true) ∧ Below w.heap.size w w' := by
  obtain ⟨x, hbel⟩ := TBox.new P T A M W Q hq
  obtain ⟨w0, hw0⟩ : ∃ x : World, x = (w.alloc (.cells #[.int .i64 P, .int .i64 T, .int .i64 A, .int .i64 M, .int .i64 W, .int .i64 Q] 33)).alloc (.cells #[.slice D n c, .slice D' n' c'] 25) := ⟨_, rfl⟩
  rw [← hw0] at x hbel
  have X := Lib.hid x
  have B := Lib.hid hbel
  obtain ⟨c0, c1, c2, c3, c4, c5, d0, d1⟩ := x.cells
  have gg := fun w hx => great_any D n c D' n' c' S C 300 w hx
  clear x hbel hq
  cases hg1 : greatD S C 300 with
  | true =>
    rw [hg1] at gg
    have GG := Lib.hid gg
    clear gg hg1
    go_enter Try.func4, Try.ntmps4
    go_wp2_with fail
    rw [← hw0]
    clear hw0
    refine (GG.out _ X.out.dsk.dsk).mono ?_
    rintro e w1 ⟨rfl, hb⟩
    have B := Lib.hid (B.out.trans (hb.mono B.out.size))
    clear hb c0 c1 c2 c3 c4 c5 d0 d1
    go_wp2
    go_ret
    exact ⟨rfl, B.out⟩
  | false =>
  rw [hg1] at gg
  have GG := Lib.hid gg
  have SZ := Lib.hid (small_ofD (by decide) (by decide) hg1)
  clear gg hg1
  have TW := Lib.hid (fun wx hx => twin_any D n c D' n' c' S C wx hx SZ.out)
  have SD := Lib.hid (fun A0 c0 A0' c0' wx (hx : Dsk wx A0 n c0 A0' n' c0' S C) => JD.scan P T A M W Q A0 n c0 A0' n' c0' S C a g wx hx SZ.out hg)
  have SR := Lib.hid (fun wx hx => rscan10_any P T A M W Q D n c D' n' c' S C a g wx hx SZ.out hg)
  have SY := Lib.hid (fun A0 c0 A0' c0' wx (hx : Dsk wx A0 n c0 A0' n' c0' S C) hy => same_yes A0 n c0 A0' n' c0' S C D n c D' n' c' wx hx hy)
  unfold ScanOut at SD SR
  obtain ⟨E1, hE1⟩ : ∃ v, v = jaE P T A M W Q S C a := ⟨_, rfl⟩
  obtain ⟨L, hL⟩ : ∃ v, v = jsL P T A M W Q S C a g := ⟨_, rfl⟩
  have hlen : L.length ≤ 1000 := by
    rw [hL]
    unfold jsL
    split
    · rename_i h
      rw [jN_length]
      have hm : mayT P T A M W Q S C := by
        unfold jaE at h
        split at h
        · assumption
        · cases h
      have h1 := jM_le (jf S C A a g) A.toNat
      have h2 := hm.1.2.2.2.2.2.1
      omega
    · simp
  rw [← hE1, ← hL] at SD SR
  obtain ⟨m2, hm2⟩ : ∃ m, m = L.length := ⟨_, rfl⟩
  rw [← hm2] at SD SR hlen
  have SA := Lib.hid (fun A1 c1 A2 c2 wx (h1 : Texts wx A1 m2 c1 L) (h2 : Texts wx A2 m2 c2 L) => sam4_yes A1 m2 c1 A2 m2 c2 L wx h1 h2)
  have he1 : (E1 == E1) = true := beq_self_eq_true _
  clear hE1 hL hm2 hg
  go_enter Try.func4, Try.ntmps4
  go_wp2_with fail
  rw [← hw0]
  clear hw0
  refine (GG.out _ X.out.dsk.dsk).mono ?_
  rintro e w1 ⟨rfl, hb⟩
  have B := Lib.hid (B.out.trans (hb.mono B.out.size))
  have X := Lib.hid (X.out.below hb)
  clear hb c0 c1 c2 c3 c4 c5 d0 d1 GG
  obtain ⟨c0, c1, c2, c3, c4, c5, d0, d1⟩ := X.out.cells
  go_wp2_with fail
  refine (TW.out _ X.out.dsk.dsk).mono ?_
  rintro e w2 ⟨A2, x2, A2', x2', rfl, hown, hb⟩
  have hkA : Below w2.heap.size w2 (w2.alloc (.cells #[.slice A2 n x2, .slice A2' n' x2'] 25)) := (Below.refl _ _).alloc (Nat.le_refl _) _
  have hb3 := hb.trans (hkA.mono hb.size)
  have O := DBox.new (Dsk.of_own hown)
  have B := Lib.hid (B.out.trans (hb3.mono B.out.size))
  have X := Lib.hid (X.out.below hb3)
  clear hb hb3 hkA c0 c1 c2 c3 c4 c5 d0 d1 TW hown
  obtain ⟨G, hG⟩ : ∃ x, x = w2.heap.size := ⟨_, rfl⟩
  go_upto_region 4 with fail
  rw [← hG] at O ⊢
  obtain ⟨w3, hW⟩ : ∃ x : World, x = w2.alloc (.cells #[.slice A2 n x2, .slice A2' n' x2'] 25) := ⟨_, rfl⟩
  rw [← hW] at O X B ⊢
  clear hW hG
  have O := Lib.hid O
  have X3 := Lib.hid X.out
  have O3 := Lib.hid O.out
  have B3 := Lib.hid B.out
  obtain ⟨c0, c1, c2, c3, c4, c5, d0, d1⟩ := X.out.cells
  obtain ⟨o0, o1⟩ := O.out.cells
  go_wp2_with fail
  refine (SD.out A2 x2 A2' x2' _ O.out.dsk).mono ?_
  rintro e w4 ⟨AL, cL, rfl, hown, hb⟩
  have V1 := Lib.hid hown
  have H3 := Lib.hid hb
  have X := Lib.hid (X.out.below hb)
  clear hb hown c0 c1 c2 c3 c4 c5 d0 d1 o0 o1 SD O B
  obtain ⟨c0, c1, c2, c3, c4, c5, d0, d1⟩ := X.out.cells
  go_wp2_with fail
  refine (SR.out _ X.out.dsk.dsk).mono ?_
  rintro e w5 ⟨AM, cM, rfl, hown, hb⟩
  have V1 := Lib.hid (V1.out.below hb)
  have V2 := Lib.hid hown.texts
  have H3 := Lib.hid (H3.out.trans (hb.mono H3.out.size))
  clear hb hown c0 c1 c2 c3 c4 c5 d0 d1 SR X
  go_wp2_with fail
  refine (SA.out AL cL AM cM _ V1.out.texts V2.out).mono ?_
  rintro e w6 ⟨rfl, hb⟩
  have T1 := Lib.hid (V1.out.below hb)
  have H3 := Lib.hid (H3.out.trans (hb.mono H3.out.size))
  have hml : m2 ≤ 1000 := hlen
  clear hb V1 V2 SA hlen
  go_wp2
  go_loopw [15] (fun i wr => ∃ x : Nat, x ≤ m2 ∧ i = .int .i64 x ∧ (∃ zss, OwnTxs wr w3.heap.size AL m2 cL zss) ∧ Below w3.heap.size w3 wr) (fun i _ => m2 - (intOf i).toNat)
  case atStart => exact ⟨0, Nat.zero_le _, rfl, ⟨_, T1.out⟩, H3.out⟩
  case round =>
    obtain ⟨i, him, rfl, ⟨zss, ht⟩, hb⟩ := hrel
    by_cases hin : i < m2
    · have hii : (i : Int) < (m2 : Int) := by omega
      obtain ⟨gL, Ai, ni, ci, e0, hcl, htx, hln, hmx, hbyt⟩ := ht.row hin
      subst e0
      have T2 := Lib.hid ht
      have H4 := Lib.hid hb
      have HLN := Lib.hid hln
      unfold maxLen at hmx
      have hw0 : IntKind.i64.wrap (i : Int) = (i : Int) := Lib.wrap_i64_small i (by omega)
      clear ht hb htx hln hcl hbyt
      go_wp2
      go_loopw [16] (fun x wx => ∃ j : Nat, j ≤ ni ∧ x = .int .i64 j ∧ (∃ zs2, OwnTxs wx w3.heap.size (some ⟨gL, 0, none⟩) m2 cL zs2 ∧ (zs2.getD i []).length = ni) ∧ Below w3.heap.size w3 wx) (fun x _ => ni - (intOf x).toNat)
      case atStart => exact ⟨0, Nat.zero_le _, rfl, ⟨zss, T2.out, HLN.out⟩, H4.out⟩
      case round =>
        obtain ⟨j, hj, rfl, ⟨zs2, ht, hl2⟩, hb⟩ := hrel
        obtain ⟨gM, Aj, nj, cj, e0, hcl, htx, hln, hmx2, hbyt⟩ := ht.row hin
        cases e0
        rw [hl2] at hln
        subst hln
        by_cases hjn : j < ni
        · obtain ⟨g, o, rfl, hbg, hu, hcg, hfg⟩ := htx.at_ hjn
          have hbyte : isByte ((zs2.getD i []).getD j 0) := hbyt _ (getD_mem _ j (by rw [hl2]; exact hjn))
          obtain ⟨x, hxx⟩ : ∃ x, x = (zs2.getD i []).getD j 0 := ⟨_, rfl⟩
          rw [← hxx] at hcg hbyte
          have hx0 : 0 ≤ x := hbyte.1
          have hx1 : x < 256 := hbyte.2
          obtain ⟨zs3, ht3, hl3⟩ := ht.touch hu (o + j) (z := (x + 1) % 256) ⟨by omega, by omega⟩
          have T3 := Lib.hid ht3
          have L3 := Lib.hid ((hl3 i).trans hl2)
          have B4 := Lib.hid (hb.setCell (p := ⟨g, o + j, none⟩) hbg (.int .u8 ((x + 1) % 256)))
          have hw2 : IntKind.i64.wrap (j : Int) = (j : Int) := Lib.wrap_i64_small j (by omega)
          have hj1 : (j : Int) < (ni : Int) := by omega
          clear hxx hbyte ht hb htx hu ht3 hl3 hl2 hbyt
          go_wp2
          refine wp_region_still_tail 14 (by kernel_rfl) (by kernel_rfl) ?_
          simp only [List.take_succ_cons, List.take_zero, List.drop_succ_cons, List.drop_zero]
          repeat still_step
          try refine wpStill_nil ?_
          change wpList _ _ _ _ _ wr.drew
          go_wp2
          go_roundw
          case rel =>
            refine ⟨j + 1, by omega, by go_num, ⟨zs3, ?_, L3.out⟩, ?_⟩
            · obtain ⟨vs, h1, h2, h3, h4⟩ := T3.out
              exact (show OwnTxs (wr.setCell ⟨g, o + j, none⟩ (.int .u8 ((x + 1) % 256))).drew _ _ m2 cL zs3 from ⟨vs, owns_below h1 (below_drewN (Below.refl _ _) 1), h2, h3, fun i hi => by
                obtain ⟨Ai, ni, ci, h5, h6⟩ := h4 i hi
                exact ⟨Ai, ni, ci, h5, h6.keep fun _ _ _ => rfl⟩⟩)
            · exact (show Below _ w3 (wr.setCell ⟨g, o + j, none⟩ (.int .u8 ((x + 1) % 256))).drew from below_drewN B4.out 1)
          case measure => simp [intOf]; omega
        · obtain rfl : j = ni := by omega
          have T4 := Lib.hid ht
          have H5 := Lib.hid hb
          clear ht hb htx hbyt
          go_wp2
          go_roundw
          case rel => exact ⟨i + 1, by omega, by go_num, ⟨zs2, T4.out⟩, H5.out⟩
          case measure => simp [intOf]; omega
    · obtain rfl : i = m2 := by omega
      have HB := Lib.hid hb
      have O6 := Lib.hid (O3.out.below hb)
      have X6 := Lib.hid (X3.out.below hb)
      obtain ⟨c0, c1, c2, c3, c4, c5, d0, d1⟩ := X6.out.cells
      obtain ⟨o0, o1⟩ := O6.out.cells
      clear ht hb
      go_wp2_with fail
      refine (SY.out A2 x2 A2' x2' _ O6.out.dsk X6.out.dsk.dsk).mono ?_
      rintro e w9 ⟨rfl, hb⟩
      have B := Lib.hid (B3.out.trans ((HB.out.trans (hb.mono HB.out.size)).mono B3.out.size))
      clear hb c0 c1 c2 c3 c4 c5 d0 d1 o0 o1
      go_wp2
      go_ret
      exact ⟨rfl, B.out⟩

end Go.Proofs.Yteapaoefgcnicaa
