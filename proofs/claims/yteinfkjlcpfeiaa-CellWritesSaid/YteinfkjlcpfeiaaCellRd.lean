/- Layer 6, the program: Read. No statement is proved here. -/
import Derived.Test.YteinfkjlcpfeiaaCellS
import Derived.Test.YteinfkjlcpfeiaaCellP9
import Derived.BigQuiet
namespace Go.Proofs.Yteinfkjlcpfeiaa
open Go.RowKit
set_option linter.unusedVariables false

/-- What Read answers: its error, version and bytes. -/
def crE (S : List Sec) (C : List Pnd) (at_ wd : Int) : Int := if cellE S C at_ wd = 0 then (if hV wd.toNat (optsOf S C at_ (2 * wd.toNat)) = 0 then 6 else 0) else cellE S C at_ wd
def crV (S : List Sec) (C : List Pnd) (at_ wd : Int) : Int := if crE S C at_ wd = 0 then hV wd.toNat (optsOf S C at_ (2 * wd.toNat)) else 0
def crB (S : List Sec) (C : List Pnd) (at_ wd : Int) : Txt := if crE S C at_ wd = 0 then hB wd.toNat (optsOf S C at_ (2 * wd.toNat)) else []
def CRead (w : World) (b : Txt) (v E : Int) (e : Ending) (w' : World) : Prop :=
  ∃ A c, e = .returned (.tuple #[.slice A b.length c, .int .u32 v, .int .i64 E]) ∧ w'.ownsRow w.heap.size 5 1 (.slice A b.length c) b.length (ints .u8 b) ∧ Below w.heap.size w w'
theorem cellE_zero {S : List Sec} {C : List Pnd} {at_ wd : Int} (h : cellE S C at_ wd = 0) : mayD S C = true ∧ ∃ a m : Nat, at_ = a ∧ wd = m ∧ 1 ≤ m ∧ m ≤ 4 ∧ a + 2 * m ≤ S.length := by
  unfold cellE at h
  split at h
  · rename_i hm
    split at h
    · rename_i h1
      exact ⟨hm, at_.toNat, wd.toNat, by omega, by omega, by omega, by omega, by omega⟩
    · cases h
  · cases h

set_option maxRecDepth 100000 in
set_option maxHeartbeats 3200000 in
theorem cread_any (A : Option Addr) (n c : Nat) (A' : Option Addr) (n' c' : Nat) (S : List Sec) (C : List Pnd) (at_ wd : Int) (w : World) (hq : Dsk w A n c A' n' c' S C) (hs : SmallD S C) :
    Calls Try.prog 37 #[diskV A n c A' n' c', .int .i64 at_, .int .i64 wd] w (CRead w (crB S C at_ wd) (crV S C at_ wd) (crE S C at_ wd)) := by
  have hbel : Below w.heap.size w (w.alloc (.cells #[.slice A n c, .slice A' n' c'] 25)) := (Below.refl _ _).alloc (Nat.le_refl _) _
  have x := DBox.new hq
  obtain ⟨w1, hW⟩ : ∃ x : World, x = w.alloc (.cells #[.slice A n c, .slice A' n' c'] 25) := ⟨_, rfl⟩
  rw [← hW] at hbel x
  obtain ⟨c0, c1⟩ := x.cells
  have B := Lib.hid hbel
  by_cases hE : cellE S C at_ wd = 0
  · obtain ⟨hm, a, m, rfl, rfl, hm1, hm4, han⟩ := cellE_zero hE
    have K := Lib.hid (sectors_ok A n c A' n' c' S C a m w1 x.dsk hs hm hm1 hm4 han)
    have hcr : crE S C a m = if hV m (optsOf S C a (2 * m)) = 0 then 6 else 0 := by unfold crE; rw [if_pos hE, Int.toNat_natCast]
    have hcv : crV S C a m = if crE S C a m = 0 then hV m (optsOf S C a (2 * m)) else 0 := by unfold crV; rw [Int.toNat_natCast]
    have hcb : crB S C a m = if crE S C a m = 0 then hB m (optsOf S C a (2 * m)) else [] := by unfold crB; rw [Int.toNat_natCast]
    obtain ⟨l, hl⟩ : ∃ l, l = optsOf S C a (2 * m) := ⟨_, rfl⟩
    rw [← hl] at K hcr hcv hcb
    have HE := Lib.hid (fun b wx (h : Opts wx (some ⟨b, 0, none⟩) (2 * m) (2 * m) l) => held_any b 0 (2 * m) (2 * m) m l wx h rfl hm1 (by omega))
    obtain ⟨v, hv⟩ : ∃ v, v = hV m l := ⟨_, rfl⟩
    obtain ⟨bb, hbb⟩ : ∃ v, v = hB m l := ⟨_, rfl⟩
    obtain ⟨ff, hff⟩ : ∃ v, v = hF m l := ⟨_, rfl⟩
    rw [← hv, ← hbb, ← hff] at HE
    rw [← hv] at hcr hcv
    rw [← hbb] at hcb
    obtain ⟨nb, hnb⟩ : ∃ v, v = bb.length := ⟨_, rfl⟩
    rw [← hnb] at HE
    have HNB := Lib.hid hnb
    clear hbel x hq hs hE hm hm1 hm4 han hl hv hbb hff hnb
    by_cases hz : v = 0
    · rw [if_pos hz] at hcr
      have hz2 : (v == 0) = true := beq_iff_eq.2 hz
      rw [hcr, if_neg (by decide)] at hcv hcb
      rw [hcr, hcv, hcb]
      clear hcr hcv hcb hz
      go_enter Try.func37, Try.ntmps37
      go_wp2_with fail
      rw [← hW]
      refine K.out.mono ?_
      rintro e w2 ⟨g, rfl, ho, hb⟩
      have B2 := Lib.hid (B.out.trans (hb.mono B.out.size))
      have H2 := Lib.hid (HE.out g w2 ho)
      clear hb hW c0 c1 K HE ho
      go_wp2_with fail
      refine H2.out.mono ?_
      rintro e w3 ⟨A3, c3, rfl, hown, hb⟩
      have y := Blk.new w3 109 [.int .u32 v, .slice A3 nb c3]
      have p0 := y.cell 0
      have p1 := y.cell 1
      simp only [List.getElem?_cons_zero, List.getElem?_cons_succ] at p0 p1
      have B3 := Lib.hid ((B2.out.trans (hb.mono B2.out.size)).alloc (B2.out.trans (hb.mono B2.out.size)).size (.cells #[.int .u32 v, .slice A3 nb c3] 109))
      clear y hown hb
      go_wp2
      go_ret3
      exact ⟨none, 0, rfl, World.ownsRow_nil _ _ _ _, B3.out⟩
    · rw [if_neg hz] at hcr
      have hz2 : (v == 0) = false := beq_eq_false_iff_ne.2 hz
      rw [hcr, if_pos rfl] at hcv hcb
      rw [hcr, hcv, hcb]
      clear hcr hcv hcb hz
      go_enter Try.func37, Try.ntmps37
      go_wp2_with fail
      rw [← hW]
      refine K.out.mono ?_
      rintro e w2 ⟨g, rfl, ho, hb⟩
      have B2 := Lib.hid (B.out.trans (hb.mono B.out.size))
      have H2 := Lib.hid (HE.out g w2 ho)
      clear hb hW c0 c1 K HE ho
      go_wp2_with fail
      refine H2.out.mono ?_
      rintro e w3 ⟨A3, c3, rfl, hown, hb⟩
      have y := Blk.new w3 109 [.int .u32 v, .slice A3 nb c3]
      have p0 := y.cell 0
      have p1 := y.cell 1
      simp only [List.getElem?_cons_zero, List.getElem?_cons_succ] at p0 p1
      have hb4 : Below w3.heap.size w3 (w3.alloc (.cells #[.int .u32 v, .slice A3 nb c3] 109)) := (Below.refl _ _).alloc (Nat.le_refl _) _
      have B3 := Lib.hid ((B2.out.trans (hb.mono B2.out.size)).alloc (B2.out.trans (hb.mono B2.out.size)).size (.cells #[.int .u32 v, .slice A3 nb c3] 109))
      have O3 := Lib.hid (owns_base (owns_below hown hb4) B2.out.size)
      obtain ⟨w4, hV⟩ : ∃ x : World, x = w3.alloc (.cells #[.int .u32 v, .slice A3 nb c3] 109) := ⟨_, rfl⟩
      rw [← hV] at p0 p1 B3 O3
      clear y hown hb hb4
      go_upto_region 7 with fail
      rw [← hV]
      clear hV
      go_quiet (fail)
      go_wp2
      go_ret3
      refine ⟨A3, c3, by rw [← HNB.out]; rfl, ?_, below_drewN B3.out _⟩
      rw [← HNB.out]
      exact owns_below O3.out (below_drewN (Below.refl _ _) _)
  · have hcr : crE S C at_ wd = cellE S C at_ wd := by unfold crE; rw [if_neg hE]
    have hcv : crV S C at_ wd = 0 := by unfold crV; rw [hcr, if_neg hE]
    have hcb : crB S C at_ wd = [] := by unfold crB; rw [hcr, if_neg hE]
    have K := Lib.hid (sectors_no A n c A' n' c' S C at_ wd w1 x.dsk hs hE)
    rw [hcr, hcv, hcb]
    obtain ⟨E, hEE⟩ : ∃ E, E = cellE S C at_ wd := ⟨_, rfl⟩
    rw [← hEE] at K hE ⊢
    have hne : (E != 0) = true := bne_iff_ne.2 hE
    clear hbel x hq hs hE hcr hcv hcb hEE
    go_enter Try.func37, Try.ntmps37
    go_wp2_with fail
    rw [← hW]
    refine K.out.mono ?_
    rintro e w2 ⟨rfl, hb⟩
    have B2 := Lib.hid (B.out.trans (hb.mono B.out.size))
    clear hb hW c0 c1 K
    go_wp2
    go_ret3
    exact ⟨none, 0, rfl, World.ownsRow_nil _ _ _ _, B2.out⟩

end Go.Proofs.Yteinfkjlcpfeiaa
