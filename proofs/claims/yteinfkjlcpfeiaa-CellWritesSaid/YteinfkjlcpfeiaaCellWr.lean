/- Layer 6, the program: Plan. No statement is proved here. -/
/- Layer 6, the program: Write. No statement is proved here. -/
import Derived.Test.YteinfkjlcpfeiaaCellRd
import Derived.Test.YteinfkjlcpfeiaaCellW
namespace Go.Proofs.Yteinfkjlcpfeiaa
open Go.RowKit
set_option linter.unusedVariables false

/-- What Plan answers: its error, and the writes. -/
def cpE (S : List Sec) (C : List Pnd) (at_ wd : Int) (b : Txt) : Int :=
  if cellE S C at_ wd = 0 then (if 24 * wd < (b.length : Int) then 4 else if busyTo S C at_ (2 * wd.toNat) = true then 60 else if countTo (optsOf S C at_ (2 * wd.toNat)) (2 * wd.toNat) = 4294967295 then 9 else 0) else cellE S C at_ wd
def cpT (S : List Sec) (C : List Pnd) (at_ wd : Int) (b : Txt) : List Txt := textsOf (countTo (optsOf S C at_ (2 * wd.toNat)) (2 * wd.toNat) + 1) b wd.toNat
def cpL (S : List Sec) (C : List Pnd) (at_ wd : Int) (b : Txt) : List Pnd :=
  if cpE S C at_ wd b = 0 then writesP (at_ + hF wd.toNat (optsOf S C at_ (2 * wd.toNat)) * wd) (cpT S C at_ wd b) wd.toNat else []
def PlanOut (w : World) (L : List Pnd) (E : Int) (e : Ending) (w' : World) : Prop :=
  ∃ A c, e = .returned (.tuple #[.slice A L.length c, .int .i64 E]) ∧ OwnPnds w' w.heap.size A L.length c L ∧ Below w.heap.size w w'
theorem PlanOut.none (w : World) (L : List Pnd) (E : Int) (w' : World) (hL : L = []) (hb : Below w.heap.size w w') : PlanOut w L E (.returned (.tuple #[.slice none 0 0, .int .i64 E])) w' := by
  subst hL
  exact ⟨Option.none, 0, rfl, OwnPnds.nil _ _, hb⟩
theorem hF_two (m : Nat) (l : List (Option Txt)) : hF m l = 0 ∨ hF m l = 1 := by
  unfold hF
  split
  · exact .inl rfl
  · exact .inr rfl
theorem textsOf_byte {v : Int} {b : Txt} {m : Nat} (hb : ∀ z ∈ b, isByte z) : ∀ t ∈ textsOf v b m, ∀ z ∈ t, isByte z := by
  intro t ht z hz
  unfold textsOf at ht
  obtain ⟨k, _, rfl⟩ := List.mem_map.1 ht
  exact partT_byte _ _ (fun y hy => hb y (List.mem_of_mem_drop (List.mem_of_mem_take hy))) z hz

set_option maxRecDepth 100000 in
set_option maxHeartbeats 6400000 in
theorem plan_any (A : Option Addr) (n c : Nat) (A' : Option Addr) (n' c' : Nat) (S : List Sec) (C : List Pnd) (at_ wd : Int) (Ab : Option Addr) (nb cb : Nat) (b : Txt) (w : World) (hq : Dsk w A n c A' n' c' S C) (hs : SmallD S C) (hb : Arg w .u8 Ab nb cb b) (hby : ∀ z ∈ b, isByte z) (hnb : nb ≤ 1000) :
    Calls Try.prog 39 #[diskV A n c A' n' c', .int .i64 at_, .int .i64 wd, .slice Ab nb cb] w (PlanOut w (cpL S C at_ wd b) (cpE S C at_ wd b)) := by
  have hbel : Below w.heap.size w (w.alloc (.cells #[.slice A n c, .slice A' n' c'] 25)) := (Below.refl _ _).alloc (Nat.le_refl _) _
  have x := DBox.new hq
  have hb1 := hb.below hbel
  obtain ⟨w1, hW⟩ : ∃ x : World, x = w.alloc (.cells #[.slice A n c, .slice A' n' c'] 25) := ⟨_, rfl⟩
  rw [← hW] at hbel x hb1
  obtain ⟨c0, c1⟩ := x.cells
  have B := Lib.hid hbel
  have X := Lib.hid x
  have HB := Lib.hid hb1
  have hbl := hb.len
  by_cases hE : cellE S C at_ wd = 0
  · obtain ⟨hm, a, m, rfl, rfl, hm1, hm4, han⟩ := cellE_zero hE
    have K := Lib.hid (sectors_ok A n c A' n' c' S C a m w1 x.dsk hs hm hm1 hm4 han)
    have hsm := hs.secs
    have BZ := Lib.hid (fun wx (hx : Below w1.heap.size w1 wx) => busy_any A n c A' n' c' S C a (2 * m) wx (x.below hx).dsk hs (by omega) (by omega))
    have hcp : cpE S C a m b = if 24 * (m : Int) < (b.length : Int) then 4 else if busyTo S C a (2 * m) = true then 60 else if countTo (optsOf S C a (2 * m)) (2 * m) = 4294967295 then 9 else 0 := by unfold cpE; rw [if_pos hE, Int.toNat_natCast]
    have hcl : cpE S C a m b ≠ 0 → cpL S C a m b = [] := fun h => if_neg h
    have hcl0 : cpE S C a m b = 0 → cpL S C a m b = writesP ((a : Int) + hF m (optsOf S C a (2 * m)) * (m : Int)) (textsOf (countTo (optsOf S C a (2 * m)) (2 * m) + 1) b m) m := fun h => by unfold cpL cpT; rw [if_pos h, Int.toNat_natCast]
    have hct : 0 ≤ countTo (optsOf S C a (2 * m)) (2 * m) ∧ countTo (optsOf S C a (2 * m)) (2 * m) < 4294967296 := count_bounds (fun i hi T hT => by
      rw [optsOf_get S C a hi] at hT
      unfold optAt at hT
      split at hT
      · rename_i h0
        injection hT with hT
        subst hT
        obtain ⟨h32, hbb⟩ := rd_good h0 hq.secs.byte hq.pnds.byte
        exact ver_bounds (by omega) hbb
      · cases hT) _ (Nat.le_refl _)
    obtain ⟨l, hl⟩ : ∃ l, l = optsOf S C a (2 * m) := ⟨_, rfl⟩
    rw [← hl] at K hcp hcl0 hct
    obtain ⟨q, hqb⟩ : ∃ q, q = busyTo S C a (2 * m) := ⟨_, rfl⟩
    rw [← hqb] at BZ hcp
    have CT := Lib.hid (fun g wx (h : Opts wx (some ⟨g, 0, none⟩) (2 * m) (2 * m) l) => count_any g 0 (2 * m) (2 * m) l wx h (by omega))
    have HE := Lib.hid (fun g wx (h : Opts wx (some ⟨g, 0, none⟩) (2 * m) (2 * m) l) => held_any g 0 (2 * m) (2 * m) m l wx h rfl hm1 (by omega))
    obtain ⟨ct, hcte⟩ : ∃ v, v = countTo l (2 * m) := ⟨_, rfl⟩
    rw [← hcte] at hcp hcl0 hct CT
    obtain ⟨E, hEE⟩ : ∃ E, E = cpE S C a m b := ⟨_, rfl⟩
    obtain ⟨R, hRR⟩ : ∃ R, R = cpL S C a m b := ⟨_, rfl⟩
    rw [← hEE] at hcp hcl hcl0 ⊢
    rw [← hRR] at hcl hcl0 ⊢
    rw [hbl] at hcp
    have hbp : Arg w .u8 Ab nb cb b := hb
    have HBP := Lib.hid hbp
    have HBY := Lib.hid hby
    have HM4 := Lib.hid hm4
    have HA := Lib.hid (show a ≤ 100 by omega)
    have hwm : wrap64 ((m : Int) * 24) = (m : Int) * 24 := by unfold wrap64; omega
    clear hbel x hq hs hb hb1 hbp hE hm han hl hcte hEE hRR hby hbl hqb
    by_cases hmany : 24 * (m : Int) < (nb : Int)
    · rw [if_pos hmany] at hcp
      have hR := hcl (by rw [hcp]; decide)
      have HR := Lib.hid hR
      subst hcp
      have hmn : (m : Int) * 24 < (nb : Int) := by omega
      clear hcl hcl0 hR hmany hct
      go_enter Try.func39, Try.ntmps39
      go_wp2_with fail
      rw [← hW]
      refine K.out.mono ?_
      rintro e w2 ⟨g, rfl, ho, hb⟩
      have B2 := Lib.hid (B.out.trans (hb.mono B.out.size))
      have B12 := Lib.hid hb
      obtain ⟨c0, c1⟩ := (X.out.below hb).cells
      have HO := Lib.hid ho
      clear hb ho K hW B
      go_wp2
      go_ret2
      exact PlanOut.none _ _ _ _ HR.out B2.out
    · rw [if_neg hmany] at hcp
      have hmn : ¬ (m : Int) * 24 < (nb : Int) := by omega
      clear hmany
      cases q with
      | true =>
        rw [if_pos rfl] at hcp
        have hR := hcl (by rw [hcp]; decide)
        have HR := Lib.hid hR
        subst hcp
        clear hcl hcl0 hR hct
        go_enter Try.func39, Try.ntmps39
        go_wp2_with fail
        rw [← hW]
        refine K.out.mono ?_
        rintro e w2 ⟨g, rfl, ho, hb⟩
        have B2 := Lib.hid (B.out.trans (hb.mono B.out.size))
        have B12 := Lib.hid hb
        obtain ⟨c0, c1⟩ := (X.out.below hb).cells
        have HO := Lib.hid ho
        clear hb ho K hW B
        go_wp2_with fail
        refine (BZ.out w2 B12.out).mono ?_
        rintro e w3 ⟨rfl, hb⟩
        have B3 := Lib.hid (B2.out.trans (hb.mono B2.out.size))
        have HO3 := Lib.hid (HO.out.below hb)
        clear hb c0 c1 BZ
        go_wp2
        go_ret2
        exact PlanOut.none _ _ _ _ HR.out B3.out
      | false =>
        rw [if_neg (by decide)] at hcp
        by_cases hfull : ct = 4294967295
        · rw [if_pos hfull] at hcp
          have hR := hcl (by rw [hcp]; decide)
          have HR := Lib.hid hR
          subst hcp
          have hf2 : (ct == 4294967295) = true := beq_iff_eq.2 hfull
          clear hcl hcl0 hR hct hfull
          go_enter Try.func39, Try.ntmps39
          go_wp2_with fail
          rw [← hW]
          refine K.out.mono ?_
          rintro e w2 ⟨g, rfl, ho, hb⟩
          have B2 := Lib.hid (B.out.trans (hb.mono B.out.size))
          have B12 := Lib.hid hb
          obtain ⟨c0, c1⟩ := (X.out.below hb).cells
          have HO := Lib.hid ho
          clear hb ho K hW B
          go_wp2_with fail
          refine (BZ.out w2 B12.out).mono ?_
          rintro e w3 ⟨rfl, hb⟩
          have B3 := Lib.hid (B2.out.trans (hb.mono B2.out.size))
          have HO3 := Lib.hid (HO.out.below hb)
          clear hb c0 c1 BZ
          go_wp2_with fail
          refine (CT.out g w3 HO3.out).mono ?_
          rintro e w4 ⟨rfl, hb⟩
          have B4 := Lib.hid (B3.out.trans (hb.mono B3.out.size))
          have HO4 := Lib.hid (HO3.out.below hb)
          clear hb CT HO3
          go_wp2
          go_ret2
          exact PlanOut.none _ _ _ _ HR.out B4.out
        · rw [if_neg hfull] at hcp
          have hR := hcl0 hcp
          subst hcp
          have hf2 : (ct == 4294967295) = false := beq_eq_false_iff_ne.2 hfull
          have hc0 := hct.1
          have hc1 : ct + 1 < 4294967296 := by omega
          have HCB := Lib.hid (show 0 ≤ ct + 1 ∧ ct + 1 < 4294967296 by omega)
          have ew : IntKind.u32.wrap (ct + 1) = ct + 1 := wraps_u32 _ (by omega) (by omega)
          have hfree := hF_two m l
          obtain ⟨fr, hfr⟩ : ∃ f, f = hF m l := ⟨_, rfl⟩
          rw [← hfr] at HE hR hfree
          clear hcl hcl0 hct hfull hfr
          rcases hfree with rfl | rfl
          · skip
            have HR := Lib.hid (show R = writesP ((a : Nat) : Int) (textsOf (ct + 1) b m) m by rw [hR]; congr 1; omega)
            clear hR
            have hm4' := HM4.out
            have ha' := HA.out
            go_enter Try.func39, Try.ntmps39
            go_wp2_with fail
            rw [← hW]
            refine K.out.mono ?_
            rintro e w2 ⟨g, rfl, ho, hb⟩
            have B2 := Lib.hid (B.out.trans (hb.mono B.out.size))
            have B12 := Lib.hid hb
            obtain ⟨c0, c1⟩ := (X.out.below hb).cells
            have HO := Lib.hid ho
            clear hb ho K hW B
            go_wp2_with fail
            refine (BZ.out w2 B12.out).mono ?_
            rintro e w3 ⟨rfl, hb⟩
            have B3 := Lib.hid (B2.out.trans (hb.mono B2.out.size))
            have HO3 := Lib.hid (HO.out.below hb)
            clear hb c0 c1 BZ
            go_wp2_with fail
            refine (CT.out g w3 HO3.out).mono ?_
            rintro e w4 ⟨rfl, hb⟩
            have B4 := Lib.hid (B3.out.trans (hb.mono B3.out.size))
            have HO4 := Lib.hid (HO3.out.below hb)
            clear hb CT HO3
            go_wp2_with fail
            refine (HE.out g w4 HO4.out).mono ?_
            rintro e w5 ⟨A5, c5, rfl, hown, hb⟩
            have B5 := Lib.hid ((B4.out.trans (hb.mono B4.out.size)).alloc (B4.out.trans (hb.mono B4.out.size)).size (.cells #[.int .u32 (hV m l), .slice A5 (hB m l).length c5] 109))
            obtain ⟨v5, hv5⟩ : ∃ v, v = hV m l := ⟨_, rfl⟩
            obtain ⟨n5, hn5⟩ : ∃ v, v = (hB m l).length := ⟨_, rfl⟩
            rw [← hv5, ← hn5] at B5 ⊢
            clear hown hb HO4 HE hv5 hn5
            obtain ⟨w6, h6⟩ : ∃ x : World, x = w5.alloc (.cells #[.int .u32 v5, .slice A5 n5 c5] 109) := ⟨_, rfl⟩
            rw [← h6] at B5
            have y := Blk.new w6 109 [.int .u32 (ct + 1), .slice Ab nb cb]
            have B6 := Lib.hid (B5.out.alloc B5.out.size (.cells #[.int .u32 (ct + 1), .slice Ab nb cb] 109))
            have p0 := y.cell 0
            have p1 := y.cell 1
            simp only [List.getElem?_cons_zero, List.getElem?_cons_succ] at p0 p1
            rw [h6] at p0 p1 B6
            clear y
            go_wp2_with fail
            refine (texts_any (ct + 1) HCB.out Ab nb cb b m (by omega) _ (HBP.out.below B6.out) (by omega)).mono ?_
            rintro e w7 ⟨G, vs, rfl, hG, hvl, hy, hin, hb7⟩
            have B7 := Lib.hid (B6.out.trans (hb7.mono B6.out.size))
            have WR := Lib.hid (writes_any (a : Nat) G m w.heap.size vs (textsOf (ct + 1) b m) w7 (by omega) (by omega) hvl hy (fun i hi => by
              obtain ⟨g9, e9, o9⟩ := hin i hi
              exact ⟨g9, e9, o9.lower B6.out.size⟩) (textsOf_byte HBY.out) (textsOf_length _ _ _) B7.out.size)
            clear hG hvl hy hin hb7 p0 p1
            go_wp2_with fail
            refine WR.out.mono ?_
            rintro e w8 ⟨P, rfl, hown, hb8⟩
            have B8 := Lib.hid (B7.out.trans (hb8.mono B7.out.size))
            have O8 := Lib.hid hown
            clear hown hb8 WR
            go_wp2
            go_ret2
            have hlen : R.length = m := by rw [HR.out]; exact someP_len _ _ _ _
            refine ⟨some ⟨P, 0, none⟩, m, by rw [hlen]; rfl, ?_, B8.out⟩
            rw [hlen, HR.out]
            exact O8.out
          · skip
            have HR := Lib.hid (show R = writesP ((a + m : Nat) : Int) (textsOf (ct + 1) b m) m by rw [hR]; congr 1; omega)
            clear hR
            have hm4' := HM4.out
            have ha' := HA.out
            have hwam : wrap64 ((a : Int) + (m : Int)) = (a : Int) + (m : Int) := by unfold wrap64; omega
            go_enter Try.func39, Try.ntmps39
            go_wp2_with fail
            rw [← hW]
            refine K.out.mono ?_
            rintro e w2 ⟨g, rfl, ho, hb⟩
            have B2 := Lib.hid (B.out.trans (hb.mono B.out.size))
            have B12 := Lib.hid hb
            obtain ⟨c0, c1⟩ := (X.out.below hb).cells
            have HO := Lib.hid ho
            clear hb ho K hW B
            go_wp2_with fail
            refine (BZ.out w2 B12.out).mono ?_
            rintro e w3 ⟨rfl, hb⟩
            have B3 := Lib.hid (B2.out.trans (hb.mono B2.out.size))
            have HO3 := Lib.hid (HO.out.below hb)
            clear hb c0 c1 BZ
            go_wp2_with fail
            refine (CT.out g w3 HO3.out).mono ?_
            rintro e w4 ⟨rfl, hb⟩
            have B4 := Lib.hid (B3.out.trans (hb.mono B3.out.size))
            have HO4 := Lib.hid (HO3.out.below hb)
            clear hb CT HO3
            go_wp2_with fail
            refine (HE.out g w4 HO4.out).mono ?_
            rintro e w5 ⟨A5, c5, rfl, hown, hb⟩
            have B5 := Lib.hid ((B4.out.trans (hb.mono B4.out.size)).alloc (B4.out.trans (hb.mono B4.out.size)).size (.cells #[.int .u32 (hV m l), .slice A5 (hB m l).length c5] 109))
            obtain ⟨v5, hv5⟩ : ∃ v, v = hV m l := ⟨_, rfl⟩
            obtain ⟨n5, hn5⟩ : ∃ v, v = (hB m l).length := ⟨_, rfl⟩
            rw [← hv5, ← hn5] at B5 ⊢
            clear hown hb HO4 HE hv5 hn5
            obtain ⟨w6, h6⟩ : ∃ x : World, x = w5.alloc (.cells #[.int .u32 v5, .slice A5 n5 c5] 109) := ⟨_, rfl⟩
            rw [← h6] at B5
            have y := Blk.new w6 109 [.int .u32 (ct + 1), .slice Ab nb cb]
            have B6 := Lib.hid (B5.out.alloc B5.out.size (.cells #[.int .u32 (ct + 1), .slice Ab nb cb] 109))
            have p0 := y.cell 0
            have p1 := y.cell 1
            simp only [List.getElem?_cons_zero, List.getElem?_cons_succ] at p0 p1
            rw [h6] at p0 p1 B6
            clear y
            go_wp2_with fail
            refine (texts_any (ct + 1) HCB.out Ab nb cb b m (by omega) _ (HBP.out.below B6.out) (by omega)).mono ?_
            rintro e w7 ⟨G, vs, rfl, hG, hvl, hy, hin, hb7⟩
            have B7 := Lib.hid (B6.out.trans (hb7.mono B6.out.size))
            have WR := Lib.hid (writes_any (a + m : Nat) G m w.heap.size vs (textsOf (ct + 1) b m) w7 (by omega) (by omega) hvl hy (fun i hi => by
              obtain ⟨g9, e9, o9⟩ := hin i hi
              exact ⟨g9, e9, o9.lower B6.out.size⟩) (textsOf_byte HBY.out) (textsOf_length _ _ _) B7.out.size)
            clear hG hvl hy hin hb7 p0 p1
            rw [show ((a + m : Nat) : Int) = (a : Int) + (m : Int) from by omega] at WR
            go_wp2_with fail
            refine WR.out.mono ?_
            rintro e w8 ⟨P, rfl, hown, hb8⟩
            have B8 := Lib.hid (B7.out.trans (hb8.mono B7.out.size))
            have O8 := Lib.hid hown
            clear hown hb8 WR
            go_wp2
            go_ret2
            have hlen : R.length = m := by rw [HR.out]; exact someP_len _ _ _ _
            refine ⟨some ⟨P, 0, none⟩, m, by rw [hlen]; rfl, ?_, B8.out⟩
            rw [hlen, HR.out]
            rw [show ((a + m : Nat) : Int) = (a : Int) + (m : Int) from by omega]
            exact O8.out
  · have hcr : cpE S C at_ wd b = cellE S C at_ wd := by unfold cpE; rw [if_neg hE]
    have hR : cpL S C at_ wd b = [] := by unfold cpL; rw [hcr, if_neg hE]
    have K := Lib.hid (sectors_no A n c A' n' c' S C at_ wd w1 x.dsk hs hE)
    rw [hcr]
    obtain ⟨R, hRR⟩ : ∃ R, R = cpL S C at_ wd b := ⟨_, rfl⟩
    rw [← hRR] at hR ⊢
    obtain ⟨E, hEE⟩ : ∃ E, E = cellE S C at_ wd := ⟨_, rfl⟩
    rw [← hEE] at K hE ⊢
    have hne : (E != 0) = true := bne_iff_ne.2 hE
    have HR := Lib.hid hR
    clear hbel x hq hs hE hcr hEE hRR hR hb hb1 hby hbl
    go_enter Try.func39, Try.ntmps39
    go_wp2_with fail
    rw [← hW]
    refine K.out.mono ?_
    rintro e w2 ⟨rfl, hb⟩
    have B2 := Lib.hid (B.out.trans (hb.mono B.out.size))
    clear hb hW c0 c1 K
    go_wp2
    go_ret2
    exact PlanOut.none _ _ _ _ HR.out B2.out

end Go.Proofs.Yteinfkjlcpfeiaa

namespace Go.Proofs.Yteinfkjlcpfeiaa
open Go.RowKit
set_option linter.unusedVariables false

/-- What Write answers. -/
def cwE (S : List Sec) (C : List Pnd) (at_ wd : Int) (b : Txt) : Int := if cpE S C at_ wd b = 0 then (if 64 < C.length + (cpL S C at_ wd b).length then 9 else 0) else cpE S C at_ wd b
def cwS (S : List Sec) (C : List Pnd) (at_ wd : Int) (b : Txt) : List Sec := if cwE S C at_ wd b = 0 then S else []
def cwC (S : List Sec) (C : List Pnd) (at_ wd : Int) (b : Txt) : List Pnd := if cwE S C at_ wd b = 0 then C ++ cpL S C at_ wd b else []
theorem cpE_zero {S : List Sec} {C : List Pnd} {at_ wd : Int} {b : Txt} (h : cpE S C at_ wd b = 0) : cellE S C at_ wd = 0 ∧ (b.length : Int) ≤ 24 * wd ∧ busyTo S C at_ (2 * wd.toNat) = false ∧ countTo (optsOf S C at_ (2 * wd.toNat)) (2 * wd.toNat) ≠ 4294967295 := by
  unfold cpE at h
  split at h
  · rename_i h1
    split at h
    · cases h
    · rename_i h2
      split at h
      · cases h
      · rename_i h3
        split at h
        · cases h
        · rename_i h4
          exact ⟨h1, by omega, by simpa using h3, h4⟩
  · rename_i h1; exact absurd h h1
/-- The writes that Plan tells: how many, and that each may be. -/
theorem cpL_good {S : List Sec} {C : List Pnd} {at_ wd : Int} {b : Txt} (h : cpE S C at_ wd b = 0) (hb : ∀ z ∈ b, isByte z) : (cpL S C at_ wd b).length = wd.toNat ∧ 1 ≤ wd.toNat ∧ wd.toNat ≤ 4 ∧ mayD S C = true ∧
    ∀ p ∈ cpL S C at_ wd b, (0 ≤ p.1 ∧ p.1 < (S.length : Int) ∧ p.2.length = 32) ∧ ∀ z ∈ p.2, isByte z := by
  obtain ⟨hE, h24, _, _⟩ := cpE_zero h
  obtain ⟨hm, a, m, rfl, rfl, hm1, hm4, han⟩ := cellE_zero hE
  have hL : cpL S C a m b = writesP ((a : Int) + hF m (optsOf S C a (2 * m)) * (m : Int)) (cpT S C a m b) m := by unfold cpL; rw [if_pos h, Int.toNat_natCast]
  rw [hL, Int.toNat_natCast]
  refine ⟨someP_len _ _ _ _, hm1, hm4, hm, fun p hp => ?_⟩
  unfold writesP someP at hp
  obtain ⟨i, hi, rfl⟩ := List.mem_map.1 hp
  have hi := List.mem_range.1 hi
  rw [if_pos hi]
  have hT : (cpT S C a m b).getD i [] = partT (countTo (optsOf S C a (2 * m)) (2 * m) + 1) i (chunk b i) := by
    unfold cpT
    rw [Int.toNat_natCast]
    exact textsOf_get _ _ hi
  dsimp only
  rw [hT]
  have hf := hF_two m (optsOf S C a (2 * m))
  refine ⟨⟨?_, ?_, partT_length _ _ (by unfold chunk; rw [List.length_take]; omega)⟩, partT_byte _ _ (fun y hy => hb y (List.mem_of_mem_drop (List.mem_of_mem_take hy)))⟩
  · rcases hf with h | h <;> rw [h] <;> omega
  · rcases hf with h | h <;> rw [h] <;> omega
theorem may_more {S : List Sec} {C L : List Pnd} (hm : mayD S C = true) (hL : ∀ p ∈ L, (0 ≤ p.1 ∧ p.1 < (S.length : Int) ∧ p.2.length = 32) ∧ ∀ z ∈ p.2, isByte z) {k : Nat} (hk : k ≤ L.length) (h64 : C.length + k ≤ 64) : mayD S (C ++ L.take k) = true := by
  have h := (mayD_iff _ _).1 hm
  rw [mayD_iff]
  refine ⟨⟨h.1.1, h.1.2.1, by rw [List.length_append, List.length_take]; omega⟩, h.2.1, fun p hp => ?_⟩
  rcases List.mem_append.1 hp with hp | hp
  · exact h.2.2 p hp
  · exact (hL p (List.mem_of_mem_take hp)).1
theorem wr_next {S : List Sec} {C L : List Pnd} (hm : mayD S C = true) (hL : ∀ p ∈ L, (0 ≤ p.1 ∧ p.1 < (S.length : Int) ∧ p.2.length = 32) ∧ ∀ z ∈ p.2, isByte z) {k : Nat} (hk : k < L.length) (h64 : C.length + k ≤ 64) :
    wrE S (C ++ L.take k) (L.getD k (0, [])).1 (L.getD k (0, [])).2 = (if 64 ≤ C.length + k then 9 else 0) := by
  have hmm := may_more hm hL (Nat.le_of_lt hk) h64
  have hp := (hL (L.getD k (0, [])) (by rw [List.getD_eq_getElem?_getD, List.getElem?_eq_getElem hk]; exact List.getElem_mem hk)).1
  have ha : askE S (C ++ L.take k) (L.getD k (0, [])).1 = 0 := by rw [ask_may hmm, if_neg (by omega)]
  have hl : (C ++ L.take k).length = C.length + k := by rw [List.length_append, List.length_take]; omega
  unfold wrE
  rw [if_pos ha, if_pos hp.2.2, hl]
theorem wr_nextS {S : List Sec} {C L : List Pnd} {k : Nat} (hk : k < L.length) (h : wrE S (C ++ L.take k) (L.getD k (0, [])).1 (L.getD k (0, [])).2 = 0) : wrS S (C ++ L.take k) (L.getD k (0, [])).1 (L.getD k (0, [])).2 = S ∧ wrC S (C ++ L.take k) (L.getD k (0, [])).1 (L.getD k (0, [])).2 = C ++ L.take (k + 1) := by
  refine ⟨if_pos h, (if_pos h).trans ?_⟩
  rw [take_snoc hk ((0, []) : Pnd), List.append_assoc]
theorem small_more {S : List Sec} {C L : List Pnd} (hs : SmallD S C) (hL : ∀ p ∈ L, (0 ≤ p.1 ∧ p.1 < (S.length : Int) ∧ p.2.length = 32) ∧ ∀ z ∈ p.2, isByte z) {k : Nat} (h64 : C.length + k ≤ 64) : SmallD S (C ++ L.take k) :=
  ⟨hs.secs, by rw [List.length_append, List.length_take]; omega, hs.long, fun p hp => by
    rcases List.mem_append.1 hp with hp | hp
    · exact hs.wide p hp
    · have := (hL p (List.mem_of_mem_take hp)).1.2.2
      omega⟩

theorem DiskOut.as {w : World} {S S' : List Sec} {C C' : List Pnd} {E E' : Int} {e : Ending} {w' : World} (x : DiskOut w S C E e w') {n n' : Nat} (hS : S = S') (hC : C = C') (hE : E = E') (hn : S'.length = n) (hn' : C'.length = n') :
    ∃ A c A' c', e = .returned (.tuple #[diskV A n c A' n' c', .int .i64 E']) ∧ OwnDsk w' w.heap.size A n c A' n' c' S' C' ∧ Below w.heap.size w w' := by
  subst hS; subst hC; subst hE; subst hn; subst hn'; exact x

set_option maxRecDepth 100000 in
set_option maxHeartbeats 6400000 in
theorem cwrite_any (A : Option Addr) (n c : Nat) (A' : Option Addr) (n' c' : Nat) (S : List Sec) (C : List Pnd) (at_ wd : Int) (Ab : Option Addr) (nb cb : Nat) (b : Txt) (w : World) (hq : Dsk w A n c A' n' c' S C) (hs : SmallD S C) (hb : Arg w .u8 Ab nb cb b) (hby : ∀ z ∈ b, isByte z) (hnb : nb ≤ 1000) :
    Calls Try.prog 41 #[diskV A n c A' n' c', .int .i64 at_, .int .i64 wd, .slice Ab nb cb] w (DiskOut w (cwS S C at_ wd b) (cwC S C at_ wd b) (cwE S C at_ wd b)) := by
  have hb0 : Below w.heap.size w (w.alloc (.cells #[.slice A n c, .slice A' n' c'] 25)) := (Below.refl _ _).alloc (Nat.le_refl _) _
  have x := DBox.new hq
  have hbz : Below (w.alloc (.cells #[.slice A n c, .slice A' n' c'] 25)).heap.size (w.alloc (.cells #[.slice A n c, .slice A' n' c'] 25)) ((w.alloc (.cells #[.slice A n c, .slice A' n' c'] 25)).alloc (.cells #[.slice none 0 0, .slice none 0 0] 25)) := (Below.refl _ _).alloc (Nat.le_refl _) _
  have z := Blk.new (w.alloc (.cells #[.slice A n c, .slice A' n' c'] 25)) 25 [.slice none 0 0, .slice none 0 0]
  rw [World.size_alloc] at z
  have hbel := hb0.trans (hbz.mono hb0.size)
  have x := x.below hbz
  have hb1 := hb.below hbel
  obtain ⟨w1, hW⟩ : ∃ x : World, x = (w.alloc (.cells #[.slice A n c, .slice A' n' c'] 25)).alloc (.cells #[.slice none 0 0, .slice none 0 0] 25) := ⟨_, rfl⟩
  rw [← hW] at hbel x hb1 z
  obtain ⟨c0, c1⟩ := x.cells
  have K := Lib.hid (plan_any A n c A' n' c' S C at_ wd Ab nb cb b w1 x.dsk hs hb1 hby hnb)
  have B := Lib.hid hbel
  have X := Lib.hid x
  have Z := Lib.hid z
  have hpl := fun h => cpL_good (S := S) (C := C) (at_ := at_) (wd := wd) (b := b) h hby
  have hwE : cwE S C at_ wd b = if cpE S C at_ wd b = 0 then (if 64 < C.length + (cpL S C at_ wd b).length then 9 else 0) else cpE S C at_ wd b := rfl
  have hwS : cwS S C at_ wd b = if cwE S C at_ wd b = 0 then S else [] := rfl
  have hwC : cwC S C at_ wd b = if cwE S C at_ wd b = 0 then C ++ cpL S C at_ wd b else [] := rfl
  have hL0 : cpE S C at_ wd b ≠ 0 → cpL S C at_ wd b = [] := fun h => if_neg h
  obtain ⟨E, hEE⟩ : ∃ E, E = cpE S C at_ wd b := ⟨_, rfl⟩
  obtain ⟨R, hRR⟩ : ∃ R, R = cpL S C at_ wd b := ⟨_, rfl⟩
  rw [← hEE, ← hRR] at K
  rw [← hRR] at hpl
  rw [← hEE] at hpl
  rw [← hEE, ← hRR] at hwE
  rw [← hRR] at hwC
  rw [← hEE, ← hRR] at hL0
  obtain ⟨E2, hE2⟩ : ∃ E, E = cwE S C at_ wd b := ⟨_, rfl⟩
  rw [← hE2] at hwE hwS hwC ⊢
  obtain ⟨S2, hS2⟩ : ∃ E, E = cwS S C at_ wd b := ⟨_, rfl⟩
  obtain ⟨C2, hC2⟩ : ∃ E, E = cwC S C at_ wd b := ⟨_, rfl⟩
  rw [← hS2] at hwS ⊢
  rw [← hC2] at hwC ⊢
  have hln := hq.secs.len
  have hln' := hq.pnds.len
  have HLN := Lib.hid hln
  have HLN' := Lib.hid hln'
  have hlt := x.lt
  clear hb0 hbz hbel x z hb1 hb hby hEE hRR hE2 hS2 hC2
  by_cases hE : E = 0
  · subst hE
    rw [if_pos rfl] at hwE
    obtain ⟨hRl, hm1, hm4, hmay, hgood⟩ := hpl rfl
    obtain ⟨m, hm⟩ : ∃ m, m = wd.toNat := ⟨_, rfl⟩
    rw [← hm] at hRl hm1 hm4
    have hc64 : C.length ≤ 64 := ((mayD_iff _ _).1 hmay).1.2.2
    have hn'64 : n' ≤ 64 := by omega
    have HG := Lib.hid hgood
    have HMAY := Lib.hid hmay
    have HS := Lib.hid hs
    have HRL := Lib.hid hRl
    have HWE := Lib.hid hwE
    have HWS := Lib.hid hwS
    have HWC := Lib.hid hwC
    have HM4 := Lib.hid hm4
    have HM1 := Lib.hid hm1
    have HC := Lib.hid hc64
    clear hgood hmay hs hwE hwS hwC hpl hL0 hm hq hln hln'
    go_enter Try.func41, Try.ntmps41
    go_wp2_with fail
    rw [← hW]
    refine K.out.mono ?_
    rintro e w2 ⟨Al, cl, rfl, hown, hb⟩
    rw [hRl] at hown ⊢
    have B2 := Lib.hid (B.out.trans (hb.mono B.out.size))
    have X2 := Lib.hid (X.out.below hb)
    have Z2 := Lib.hid (Z.out.below hb Z.out.lt)
    have O2 := Lib.hid (hown.lower B.out.size)
    clear hown hb K hW c0 c1 hRl hm4 hm1 hc64 B X Z hlt
    go_wp2
    go_loopw [28, 13, 11] (fun i _ _ wr => ∃ (k : Nat) (A1 : Option Addr) (c1 : Nat) (A1' : Option Addr) (c1' : Nat), k ≤ m ∧ i = .int .i64 k ∧ Blk wr w.heap.size 25 [.slice A1 n c1, .slice A1' (n' + k) c1'] ∧ Dsk wr A1 n c1 A1' (n' + k) c1' S (C ++ R.take k) ∧ (k = 0 ∨ OwnDsk wr w.heap.size A1 n c1 A1' (n' + k) c1' S (C ++ R.take k)) ∧ Blk wr (w.heap.size + 1) 25 [.slice none 0 0, .slice none 0 0] ∧ OwnPnds wr w.heap.size Al m cl R ∧ Below w.heap.size w wr ∧ C.length + k ≤ 64) (fun i _ _ _ => m - (intOf i).toNat)
    case atStart => exact ⟨0, A, c, A', c', Nat.zero_le _, rfl, X2.out.blk, by rw [List.take_zero, List.append_nil]; exact X2.out.dsk, .inl rfl, Z2.out, O2.out, B2.out, HC.out⟩
    case round =>
      obtain ⟨k, A1, c1, A1', c1', hk, rfl, hx, hd, hod, hz, hol, hbw, h64⟩ := hrel
      have hm4 := HM4.out
      by_cases hkm : k < m
      · have hki : (k : Int) < (m : Int) := by omega
        have hkR : k < R.length := by rw [HRL.out]; exact hkm
        obtain ⟨bk, ok, Ak, nk, ck, eA, hlt, hcs, hci, hak⟩ := (Pnds.of_own hol).at_ k hkm
        subst eA
        have hnext := wr_next HMAY.out HG.out hkR h64
        have hgk := HG.out (R.getD k (0, [])) (by rw [List.getD_eq_getElem?_getD, List.getElem?_eq_getElem hkR]; exact List.getElem_mem hkR)
        have hns := fun h => wr_nextS (S := S) (C := C) hkR h
        have hsm := small_more HS.out HG.out h64
        obtain ⟨pk, hpk⟩ : ∃ p, p = R.getD k (0, []) := ⟨_, rfl⟩
        rw [← hpk] at hci hak hnext hgk hns
        obtain ⟨pa, Tk⟩ := pk
        dsimp only at hci hak hnext hgk hns
        have hbA : Below wr.heap.size wr (wr.alloc (.cells #[.int .i64 pa, .slice Ak nk ck] 63)) := (Below.refl _ _).alloc (Nat.le_refl _) _
        have y := Blk.new wr 63 [.int .i64 pa, .slice Ak nk ck]
        have x2 := hx.below hbA hx.lt
        have z2 := hz.below hbA hz.lt
        have y0 := y.cell 0
        have y1 := y.cell 1
        have d0 := x2.cell 0
        have d1 := x2.cell 1
        simp only [List.getElem?_cons_zero, List.getElem?_cons_succ] at y0 y1 d0 d1
        obtain ⟨wX, hX⟩ : ∃ x : World, x = wr.alloc (.cells #[.int .i64 pa, .slice Ak nk ck] 63) := ⟨_, rfl⟩
        rw [← hX] at hbA x2 z2 y0 y1 d0 d1
        have W := Lib.hid (dsk_does.write A1 n c1 A1' (n' + k) c1' S (C ++ R.take k) pa Ak nk ck Tk wX (hd.below hbA) hsm (hak.below hbA) hgk.2 (by rw [hgk.1.2.2]; decide))
        have HX := Lib.hid x2
        have HZ := Lib.hid z2
        have HOL := Lib.hid (hol.below hbA)
        have HBW := Lib.hid (hbw.trans (hbA.mono hbw.size))
        have HNE := Lib.hid hnext
        have HNS := Lib.hid hns
        have HH := Lib.hid h64
        rw [hX] at y0 y1 d0 d1
        clear hx hd hod hz hol hbw hbA y x2 z2 hak hnext hgk hns hsm hpk
        go_wp2_with fail
        rw [← hX]
        clear y0 y1 d0 d1 hX
        refine W.out.mono ?_
        intro e w4 hout
        by_cases hf : 64 ≤ C.length + k
        · have hE9 : wrE S (C ++ R.take k) pa Tk = 9 := HNE.out.trans (if_pos hf)
          obtain ⟨A9, c9, A9', c9', rfl, hown, hb4⟩ := DiskOut.as hout (S' := []) (C' := []) (E' := 9) (n := 0) (n' := 0) (if_neg (by rw [hE9]; decide)) (if_neg (by rw [hE9]; decide)) hE9 rfl rfl
          have x4 := HX.out.below hb4 HX.out.lt
          have z4 := HZ.out.below hb4 HZ.out.lt
          have p0 := x4.cell 0
          have p1 := x4.cell 1
          have f0 := x4.free 0
          have f1 := x4.free 1
          have z5 := (z4.away (show w.heap.size + 1 ≠ w.heap.size by omega) 0 (.slice A9 0 c9)).away (show w.heap.size + 1 ≠ w.heap.size by omega) 1 (.slice A9' 0 c9')
          have q0 := z5.cell 0
          have q1 := z5.cell 1
          have g0 := z5.free 0
          have g1 := z5.free 1
          simp only [List.getElem?_cons_zero, List.getElem?_cons_succ] at p0 p1 q0 q1
          have Z5 := Lib.hid z5
          have BF := Lib.hid (below_two (below_two (HBW.out.trans (hb4.mono HBW.out.size)) (Nat.le_refl _) (.slice A9 0 c9) (.slice A9' 0 c9')) (Nat.le_succ w.heap.size) (.slice none 0 0) (.slice none 0 0))
          have HFIN := Lib.hid (show E2 = 9 ∧ S2 = [] ∧ C2 = [] by
            have h1 : E2 = 9 := by rw [HWE.out, if_pos (by rw [HRL.out]; omega)]
            refine ⟨h1, ?_, ?_⟩
            · rw [HWS.out, h1]; rfl
            · rw [HWC.out, h1]; rfl)
          clear hout hown hb4 x4 z4 z5 HWE HWS HWC hE9 hf W
          go_wp2
          have r := Z5.out.two (.slice none 0 0) (.slice none 0 0)
          have r0 := r.cell 0
          have r1 := r.cell 1
          simp only [List.getElem?_cons_zero, List.getElem?_cons_succ] at r0 r1
          obtain ⟨h1, h2, h3⟩ := HFIN.out
          refine bodyPost_ret (v := .tuple #[diskV none 0 0 none 0 0, .int .i64 9]) ?_ rfl (by rw [h1, h2, h3]; exact ⟨none, 0, none, 0, rfl, OwnDsk.nil _ _, BF.out⟩)
          clear p0 p1 f0 f1 q0 q1 g0 g1
          simp [results, Try.f41, go_sem, r0, r1]
        · have hE0 : wrE S (C ++ R.take k) pa Tk = 0 := HNE.out.trans (if_neg hf)
          have hns := HNS.out hE0
          obtain ⟨A9, c9, A9', c9', rfl, hown, hb4⟩ := DiskOut.as hout (S' := S) (C' := C ++ R.take (k + 1)) (E' := 0) (n := n) (n' := n' + (k + 1)) hns.1 hns.2 hE0 HLN.out (by rw [List.length_append, List.length_take, HLN'.out, HRL.out]; omega)
          have x4 := HX.out.below hb4 HX.out.lt
          have z4 := HZ.out.below hb4 HZ.out.lt
          have p0 := x4.cell 0
          have p1 := x4.cell 1
          have f0 := x4.free 0
          have f1 := x4.free 1
          simp only [List.getElem?_cons_zero, List.getElem?_cons_succ] at p0 p1
          have HX4 := Lib.hid x4
          have HO4 := Lib.hid ((hown.lower HBW.out.size).two x4 (.slice A9 n c9) (.slice A9' (n' + (k + 1)) c9'))
          have HZ4 := Lib.hid ((z4.away (show w.heap.size + 1 ≠ w.heap.size by omega) 0 (.slice A9 n c9)).away (show w.heap.size + 1 ≠ w.heap.size by omega) 1 (.slice A9' (n' + (k + 1)) c9'))
          have HL4 := Lib.hid (((HOL.out.below hb4).box x4 (by decide) (by decide) 0 (.slice A9 n c9)).box (x4.set 0 (.slice A9 n c9)) (by decide) (by decide) 1 (.slice A9' (n' + (k + 1)) c9'))
          have HB4 := Lib.hid (below_two (HBW.out.trans (hb4.mono HBW.out.size)) (Nat.le_refl _) (.slice A9 n c9) (.slice A9' (n' + (k + 1)) c9'))
          have HH2 := Lib.hid (show C.length + (k + 1) ≤ 64 by omega)
          clear hout hown hb4 x4 z4 hE0 hf hns W HNS HNE
          go_wp2
          go_roundw
          case rel => exact ⟨k + 1, A9, c9, A9', c9', by omega, by go_num, HX4.out.two _ _, Dsk.of_own HO4.out, .inr HO4.out, HZ4.out, HL4.out, HB4.out, HH2.out⟩
          all_goals (try case measure => simp [intOf]; omega)
      · obtain rfl : k = m := by omega
        have hm1 := HM1.out
        have ho := hod.resolve_left (by omega)
        rw [List.take_of_length_le (Nat.le_of_eq HRL.out)] at ho
        have d0 := hx.cell 0
        have d1 := hx.cell 1
        have q0 := hz.cell 0
        have q1 := hz.cell 1
        have g0 := hz.free 0
        have g1 := hz.free 1
        simp only [List.getElem?_cons_zero, List.getElem?_cons_succ] at d0 d1 q0 q1
        have Z5 := Lib.hid hz
        have O5 := Lib.hid (ho.two hz (.slice A1 n c1) (.slice A1' (n' + k) c1'))
        have BF := Lib.hid (below_two hbw (Nat.le_succ w.heap.size) (.slice A1 n c1) (.slice A1' (n' + k) c1'))
        have HFIN := Lib.hid (show E2 = 0 ∧ S2 = S ∧ C2 = C ++ R by
          have h1 : E2 = 0 := by rw [HWE.out, if_neg (by rw [HRL.out]; omega)]
          refine ⟨h1, ?_, ?_⟩
          · rw [HWS.out, h1]; rfl
          · rw [HWC.out, h1]; rfl)
        have HLL := Lib.hid (show (C ++ R).length = n' + k by rw [List.length_append, HLN'.out, HRL.out])
        clear hx hd hod hz hol hbw ho HWE HWS HWC
        go_wp2
        have r := Z5.out.two (.slice A1 n c1) (.slice A1' (n' + k) c1')
        have r0 := r.cell 0
        have r1 := r.cell 1
        simp only [List.getElem?_cons_zero, List.getElem?_cons_succ] at r0 r1
        obtain ⟨h1, h2, h3⟩ := HFIN.out
        refine bodyPost_ret (v := .tuple #[diskV A1 n c1 A1' (n' + k) c1', .int .i64 0]) ?_ rfl (by rw [h1, h2, h3]; exact ⟨A1, c1, A1', c1', by rw [HLN.out, HLL.out], by rw [HLN.out, HLL.out]; exact O5.out, BF.out⟩)
        clear d0 d1 q0 q1 g0 g1
        simp [results, Try.f41, go_sem, r0, r1]
  · rw [if_neg hE] at hwE
    have hne : (E != 0) = true := bne_iff_ne.2 hE
    have hR := hL0 hE
    rw [hwE] at hwS hwC
    rw [if_neg hE] at hwS hwC
    rw [hwE, hwS, hwC]
    rw [hR] at K
    clear hwE hwS hwC hR hL0 hpl hq hs hE hln hln' HLN HLN'
    go_enter Try.func41, Try.ntmps41
    go_wp2_with fail
    rw [← hW]
    refine K.out.mono ?_
    rintro e w2 ⟨Al, cl, rfl, hown, hb⟩
    have z4 := Z.out.below hb Z.out.lt
    have q0 := z4.cell 0
    have q1 := z4.cell 1
    have g0 := z4.free 0
    have g1 := z4.free 1
    simp only [List.getElem?_cons_zero, List.getElem?_cons_succ] at q0 q1
    have Z5 := Lib.hid z4
    have BF := Lib.hid (below_two (B.out.trans (hb.mono B.out.size)) (Nat.le_succ w.heap.size) (.slice none 0 0) (.slice none 0 0))
    clear z4 hown hb K hW c0 c1 B X Z hlt
    go_wp2
    have r := Z5.out.two (.slice none 0 0) (.slice none 0 0)
    have r0 := r.cell 0
    have r1 := r.cell 1
    simp only [List.getElem?_cons_zero, List.getElem?_cons_succ] at r0 r1
    refine bodyPost_ret (v := .tuple #[diskV none 0 0 none 0 0, .int .i64 E]) ?_ rfl ⟨none, 0, none, 0, rfl, OwnDsk.nil _ _, BF.out⟩
    clear q0 q1 g0 g1
    simp [results, Try.f41, go_sem, r0, r1]

end Go.Proofs.Yteinfkjlcpfeiaa
