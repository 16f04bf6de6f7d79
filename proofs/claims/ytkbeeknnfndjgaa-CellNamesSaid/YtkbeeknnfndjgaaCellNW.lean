/- Layer 6, CellNames: the walk. -/
import Derived.Test.YtkbeeknnfndjgaaCellA4
import Derived.Test.YtkbeeknnfndjgaaCellApp
namespace Go.Proofs.Ytkbeeknnfndjgaa
open Go.RowKit
set_option linter.unusedVariables false

def nC : List Pnd := cwC fS [] 0 2 []
def bL : List Pnd := cpL fS [] 0 2 [98]
abbrev lastT : Txt := [255, 255, 255, 255, 0, 0, 0, 0] ++ List.replicate 24 0
def lC : List Pnd := wrC d4S [] 3 lastT
def zS : List Sec := flS d4S lC
theorem m_read : (crE d4S [] 0 2 = 6 ∧ crB d4S [] 0 2 = [] ∧ crV d4S [] 0 2 = 0) ∧ (crE d4S [] 1 2 = 2 ∧ crB d4S [] 1 2 = [] ∧ crV d4S [] 1 2 = 0) ∧ (crE d4S [] 0 5 = 2 ∧ crB d4S [] 0 5 = [] ∧ crV d4S [] 0 5 = 0) := ⟨⟨by kernel_rfl, by kernel_rfl, by kernel_rfl⟩, ⟨by kernel_rfl, by kernel_rfl, by kernel_rfl⟩, ⟨by kernel_rfl, by kernel_rfl, by kernel_rfl⟩⟩
theorem m_many : cpE fS [] 0 2 (List.replicate 49 97) = 4 ∧ cpL fS [] 0 2 (List.replicate 49 97) = [] := ⟨by kernel_rfl, by kernel_rfl⟩
theorem m_nil : cwE fS [] 0 2 [] = 0 ∧ cwS fS [] 0 2 [] = fS ∧ nC.length = 2 := ⟨by kernel_rfl, by kernel_rfl, by kernel_rfl⟩
theorem m_busy : cpE fS nC 0 2 [] = 60 ∧ cpL fS nC 0 2 [] = [] := ⟨by kernel_rfl, by kernel_rfl⟩
theorem m_b : cpE fS [] 0 2 [98] = 0 ∧ bL.length = 2 ∧ (bL.getD 0 (0, [])).1 = 2 ∧ (bL.getD 1 (0, [])).1 = 3 ∧ (bL.getD 0 (0, [])).2.length = 32 ∧ (bL.getD 0 (0, [])).2.take 9 = [0, 0, 0, 2, 0, 1, 0, 0, 98] := ⟨by kernel_rfl, by kernel_rfl, by kernel_rfl, by kernel_rfl, by kernel_rfl, by kernel_rfl⟩
theorem m_last : wrE d4S [] 3 lastT = 0 ∧ wrS d4S [] 3 lastT = d4S ∧ lC.length = 1 := ⟨by kernel_rfl, by kernel_rfl, by kernel_rfl⟩
theorem m_flush : chkD d4S lC = 0 ∧ zS.length = 4 := ⟨by kernel_rfl, by kernel_rfl⟩
theorem m_full : cpE zS [] 0 2 [] = 9 ∧ cpL zS [] 0 2 [] = [] := ⟨by kernel_rfl, by kernel_rfl⟩
theorem m_has : crE fS nC 0 2 = 0 ∧ crB fS nC 0 2 = [] ∧ crV fS nC 0 2 = 2 := ⟨by kernel_rfl, by kernel_rfl, by kernel_rfl⟩
theorem none_byteJ : ∀ z ∈ ([] : Txt), isByte z := by simp
theorem few_bytesJ (l : List Int) (h : l.all (fun z => decide (0 ≤ z ∧ z < 256)) = true) : ∀ z ∈ l, isByte z := by
  intro z hz
  have h1 := List.all_eq_true.1 h z hz
  exact (of_decide_eq_true h1 : 0 ≤ z ∧ z < 256)
theorem bL_cells {w : World} {A : Option Addr} {c : Nat} (P : Pnds w A 2 c bL) : ∃ g o g1 o1 cp, A = some ⟨g, o, none⟩ ∧ g < w.heap.size ∧ w.cell? ⟨g, o + 1, none⟩ = some (.slice (some ⟨g1, o1, none⟩) 32 cp) ∧ w.cell? ⟨g, o, none⟩ = some (.int .i64 2) ∧ w.cell? ⟨g, o + 2, none⟩ = some (.int .i64 3) ∧ Arg w .u8 (some ⟨g1, o1, none⟩) 9 cp [0, 0, 0, 2, 0, 1, 0, 0, 98] ∧ 32 ≤ cp := by
  obtain ⟨b, o, Ap, np, cp, e, hlt, p0, p1, ap⟩ := P.at_ 0 (by decide)
  obtain ⟨b', o', Ar, nr, cr, e', _, r0, r1, ar⟩ := P.at_ 1 (by decide)
  rw [e] at e'
  injection e' with e'
  injection e' with e1 e2 _
  subst e1
  subst e2
  have hl : np = 32 := by rw [← ap.len]; exact m_b.2.2.2.2.1
  subst hl
  obtain ⟨g1, o1, eg, _, _⟩ := ap.seq.at_ (by rw [ints_length]; have := m_b.2.2.2.2.1; omega)
  subst eg
  have a9 := ap.first (m := 9) (by decide)
  rw [m_b.2.2.2.2.2] at a9
  rw [m_b.2.2.1] at p1
  rw [m_b.2.2.2.1] at r1
  exact ⟨b, o, g1, o1, cp, e, hlt, by simpa using p0, by simpa using p1, by simpa using r1, a9, ap.cap⟩
theorem str_nine : (strOfNums [0, 0, 0, 2, 0, 1, 0, 0, 98]).toList = ([0, 0, 0, 2, 0, 1, 0, 0, 98] : List UInt8) := by kernel_rfl
theorem PlanOut.as {w : World} {L L' : List Pnd} {E E' : Int} {e : Ending} {w' : World} (x : PlanOut w L E e w') {n : Nat} (hL : L = L') (hE : E = E') (hn : L'.length = n) :
    ∃ A c, e = .returned (.tuple #[.slice A n c, .int .i64 E']) ∧ OwnPnds w' w.heap.size A n c L' ∧ Below w.heap.size w w' := by
  subst hL; subst hE; subst hn; exact x

set_option maxRecDepth 100000 in
set_option maxHeartbeats 12800000 in
theorem cnames_of (w : World) : Calls Try.prog 8 #[] w fun e w' => e = .returned (.bool true) ∧ Below w.heap.size w w' := by
  have B := Lib.hid (Below.refl w.heap.size w)
  go_enter Try.func8, Try.ntmps8
  go_wp2_with fail
  refine (dsk_does.new 4 w (.inl (by decide))).mono ?_
  intro e w1 hout
  obtain ⟨A1, c1, A1', c1', rfl, hown, hb⟩ := DiskOut.as hout (S' := d4S) (C' := []) (E' := 0) (n := 4) (n' := 0) (by kernel_rfl) rfl (by kernel_rfl) rfl rfl
  have hb2 := hb.alloc hb.size (.cells #[.slice A1 4 c1, .slice A1' 0 c1'] 25)
  have X1 := Lib.hid (DBox.new (Dsk.of_own hown))
  have B := Lib.hid (B.out.trans (hb2.mono B.out.size))
  clear hown hb hb2 hout
  go_upto_region 2 with fail
  obtain ⟨b1, hB⟩ : ∃ x, x = w1.heap.size := ⟨_, rfl⟩
  rw [← hB] at X1 ⊢
  obtain ⟨v1, hW⟩ : ∃ x : World, x = w1.alloc (.cells #[.slice A1 4 c1, .slice A1' 0 c1'] 25) := ⟨_, rfl⟩
  rw [← hW] at X1 B ⊢
  clear hW hB
  obtain ⟨k0, k1⟩ := X1.out.cells
  go_wp2_with fail
  have m := cread_any A1 4 c1 A1' 0 c1' d4S [] 0 2 v1 X1.out.dsk (few_smallJ (by kernel_rfl))
  rw [m_read.1.1, m_read.1.2.1, m_read.1.2.2] at m
  refine m.mono ?_
  rintro e u2 ⟨A_, c_, rfl, hown, hb⟩
  have X1 := Lib.hid (X1.out.below hb)
  have B := Lib.hid (B.out.trans (hb.mono B.out.size))
  clear hown hb m k0 k1
  go_upto_region 3 with fail
  obtain ⟨k0, k1⟩ := X1.out.cells
  go_wp2_with fail
  have m := cread_any A1 4 c1 A1' 0 c1' d4S [] 1 2 u2 X1.out.dsk (few_smallJ (by kernel_rfl))
  rw [m_read.2.1.1, m_read.2.1.2.1, m_read.2.1.2.2] at m
  refine m.mono ?_
  rintro e u3 ⟨A_, c_, rfl, hown, hb⟩
  have X1 := Lib.hid (X1.out.below hb)
  have B := Lib.hid (B.out.trans (hb.mono B.out.size))
  clear hown hb m k0 k1
  go_upto_region 4 with fail
  obtain ⟨k0, k1⟩ := X1.out.cells
  go_wp2_with fail
  have m := cread_any A1 4 c1 A1' 0 c1' d4S [] 0 5 u3 X1.out.dsk (few_smallJ (by kernel_rfl))
  rw [m_read.2.2.1, m_read.2.2.2.1, m_read.2.2.2.2] at m
  refine m.mono ?_
  rintro e u4 ⟨A_, c_, rfl, hown, hb⟩
  have X1 := Lib.hid (X1.out.below hb)
  have B := Lib.hid (B.out.trans (hb.mono B.out.size))
  clear hown hb m k0 k1
  go_wp2_with fail
  refine (first_of u4).mono ?_
  rintro e w12 ⟨A12, c12, A12', c12', rfl, hown, hb⟩
  have hb2 := hb.alloc hb.size (.cells #[.slice A12 4 c12, .slice A12' 0 c12'] 25)
  have X12 := Lib.hid (DBox.new (Dsk.of_own hown))
  have X1 := Lib.hid (X1.out.below hb2)
  have B := Lib.hid (B.out.trans (hb2.mono B.out.size))
  clear hown hb hb2
  go_upto_region 6 with fail
  obtain ⟨b12, hB⟩ : ∃ x, x = w12.heap.size := ⟨_, rfl⟩
  rw [← hB] at X12 ⊢
  obtain ⟨v12, hW⟩ : ∃ x : World, x = w12.alloc (.cells #[.slice A12 4 c12, .slice A12' 0 c12'] 25) := ⟨_, rfl⟩
  rw [← hW] at X1 X12 B ⊢
  clear hW hB
  go_cut [14, 15] from 55 to 60 (fun x e wx => e = .int .i64 4 ∧ Below v12.heap.size v12 wx)
  case first =>
    have hcur : Below v12.heap.size v12 v12.drew := below_drewN (Below.refl _ _) 1
    have keepX : ∀ wx, Below v12.heap.size v12 wx → wx.cell? ⟨b12, 0, none⟩ = some (.slice A12 4 c12) ∧ wx.cell? ⟨b12, 1, none⟩ = some (.slice A12' 0 c12') := fun wx hx => (X12.out.below hx).cells
    have hkX := keepX _ hcur
    go_region_held3 (fun w' => w'.cell? ⟨b12, 0, none⟩ = some (.slice A12 4 c12) ∧ w'.cell? ⟨b12, 1, none⟩ = some (.slice A12' 0 c12'))
      (first | exact hkX | go_keep)
      (first
        | (go_at_call 40; with_reducible refine (ofi_any 97 49 49 rfl (by decide) v12.drew).mono ?_; rintro e wO ⟨gO, rfl, hownO, hbO⟩; have hcur := hcur.trans (hbO.mono hcur.size); have hkX := keepX _ hcur)
        | (go_at_call 39; with_reducible refine (plan_any A12 4 c12 A12' 0 c12' fS [] 0 2 (some ⟨gO, 0, none⟩) 49 49 (List.replicate 49 97) _ (X12.out.below hcur).dsk (few_smallJ (by kernel_rfl)) (Arg.own hownO) (full_byteJ (by decide) (by decide)) (by decide)).mono ?_; intro e w2 hout; obtain ⟨A_, c_, rfl, hown, hb⟩ := PlanOut.as hout (n := 0) m_many.2 m_many.1 rfl; have hcur := hcur.trans (hb.mono hcur.size); have hkX := keepX _ hcur))
    all_goals (go_wp2_with fail; go_meet; exact ⟨rfl, hcur⟩)
  case rest =>
    obtain ⟨rfl, hb⟩ := hcut
    have X1 := Lib.hid (X1.out.below hb)
    have X12 := Lib.hid (X12.out.below hb)
    have B := Lib.hid (B.out.trans (hb.mono B.out.size))
    clear hb
    obtain ⟨k0, k1⟩ := X12.out.cells
    go_wp2_with fail
    refine (cwrite_any A12 4 c12 A12' 0 c12' fS [] 0 2 none 0 0 [] wc X12.out.dsk (few_smallJ (by kernel_rfl)) (Arg.nil _ _) none_byteJ (by decide)).mono ?_
    intro e w16 hout
    obtain ⟨A16, c16, A16', c16', rfl, hown, hb⟩ := DiskOut.as hout (S' := fS) (C' := nC) (E' := 0) (n := 4) (n' := 2) m_nil.2.1 rfl m_nil.1 n_flush.2 m_nil.2.2
    clear k0 k1
    have hb2 := hb.alloc hb.size (.cells #[.slice A16 4 c16, .slice A16' 2 c16'] 25)
    have X16 := Lib.hid (DBox.new (Dsk.of_own hown))
    have X1 := Lib.hid (X1.out.below hb2)
    have X12 := Lib.hid (X12.out.below hb2)
    have B := Lib.hid (B.out.trans (hb2.mono B.out.size))
    clear hown hb hb2 hout
    go_upto_region 8 with fail
    obtain ⟨b16, hB⟩ : ∃ x, x = w16.heap.size := ⟨_, rfl⟩
    rw [← hB] at X16 ⊢
    obtain ⟨v16, hW⟩ : ∃ x : World, x = w16.alloc (.cells #[.slice A16 4 c16, .slice A16' 2 c16'] 25) := ⟨_, rfl⟩
    rw [← hW] at X1 X12 X16 B ⊢
    clear hW hB
    obtain ⟨k0, k1⟩ := X16.out.cells
    go_wp2_with fail
    refine (plan_any A16 4 c16 A16' 2 c16' fS nC 0 2 none 0 0 [] v16 X16.out.dsk (few_smallJ (by kernel_rfl)) (Arg.nil _ _) none_byteJ (by decide)).mono ?_
    intro e u8 hout
    obtain ⟨A18, c18, rfl, hown, hb⟩ := PlanOut.as hout (n := 0) m_busy.2 m_busy.1 rfl
    have X1 := Lib.hid (X1.out.below hb)
    have X12 := Lib.hid (X12.out.below hb)
    have X16 := Lib.hid (X16.out.below hb)
    have B := Lib.hid (B.out.trans (hb.mono B.out.size))
    clear k0 k1 hown hb hout
    go_upto_region 9 with fail
    obtain ⟨k0, k1⟩ := X12.out.cells
    have kd := conv_litJ u8 98
    have hl := Lib.hid (lit_convJ u8 98)
    have hbl : Below u8.heap.size u8 (u8.alloc (.cells #[.int .u8 98] 5 (1, 2))) := (Below.refl _ _).alloc (Nat.le_refl _) _
    have X1 := Lib.hid (X1.out.below hbl)
    have X12 := Lib.hid (X12.out.below hbl)
    have X16 := Lib.hid (X16.out.below hbl)
    have B := Lib.hid (B.out.trans (hbl.mono B.out.size))
    clear hbl
    go_wp2_with fail
    refine (plan_any A12 4 c12 A12' 0 c12' fS [] 0 2 (some ⟨u8.heap.size, 0, none⟩) 1 1 [98] _ X12.out.dsk (few_smallJ (by kernel_rfl)) hl.out (one_byteJ (by decide)) (by decide)).mono ?_
    intro e u9 hout
    obtain ⟨A20, c20, rfl, hown, hb⟩ := PlanOut.as hout (L' := bL) (n := 2) rfl m_b.1 m_b.2.1
    have P := Lib.hid (Pnds.of_own hown)
    have X1 := Lib.hid (X1.out.below hb)
    have X12 := Lib.hid (X12.out.below hb)
    have X16 := Lib.hid (X16.out.below hb)
    have B := Lib.hid (B.out.trans (hb.mono B.out.size))
    clear k0 k1 hown hb hout kd hl
    go_upto_region 10 with fail
    obtain ⟨G, cg, wG, hrun, hlast, hbG⟩ := app_last u9
    have X1 := Lib.hid (X1.out.below hbG)
    have X12 := Lib.hid (X12.out.below hbG)
    have X16 := Lib.hid (X16.out.below hbG)
    have P := Lib.hid (P.out.below hbG)
    have B := Lib.hid (B.out.trans (hbG.mono B.out.size))
    have LA := Lib.hid hlast
    clear hlast hbG
    obtain ⟨k0, k1⟩ := X1.out.cells
    have HRUN := Lib.hid hrun
    clear hrun
    go_wp2_with (at_builtin; refine wpList_app_eq rfl (.tmp 78) (.const (.int .i64 24)) 31 3 rfl rfl rfl HRUN.out ?_)
    refine (dsk_does.write A1 4 c1 A1' 0 c1' d4S [] 3 (some ⟨G, 0, none⟩) 32 cg lastT wG X1.out.dsk (few_smallJ (by kernel_rfl)) LA.out (few_bytesJ _ (by kernel_rfl)) (by decide)).mono ?_
    intro e w23 hout
    obtain ⟨A23, c23, A23', c23', rfl, hown, hb⟩ := DiskOut.as hout (S' := d4S) (C' := lC) (E' := 0) (n := 4) (n' := 1) m_last.2.1 rfl m_last.1 rfl m_last.2.2
    clear k0 k1
    have hb2 := hb.alloc hb.size (.cells #[.slice A23 4 c23, .slice A23' 1 c23'] 25)
    have X23 := Lib.hid (DBox.new (Dsk.of_own hown))
    have X1 := Lib.hid (X1.out.below hb2)
    have X12 := Lib.hid (X12.out.below hb2)
    have X16 := Lib.hid (X16.out.below hb2)
    have P := Lib.hid (P.out.below hb2)
    have LA := Lib.hid (LA.out.below hb2)
    have B := Lib.hid (B.out.trans (hb2.mono B.out.size))
    clear hown hb hb2 hout
    go_upto_region 12 with fail
    obtain ⟨b23, hB⟩ : ∃ x, x = w23.heap.size := ⟨_, rfl⟩
    rw [← hB] at X23 ⊢
    obtain ⟨v23, hW⟩ : ∃ x : World, x = w23.alloc (.cells #[.slice A23 4 c23, .slice A23' 1 c23'] 25) := ⟨_, rfl⟩
    rw [← hW] at X1 X12 X16 P LA X23 B ⊢
    clear hW hB
    obtain ⟨k0, k1⟩ := X23.out.cells
    go_wp2_with fail
    refine (dsk_does.flush A23 4 c23 A23' 1 c23' d4S lC v23 X23.out.dsk (few_smallJ (by kernel_rfl))).mono ?_
    intro e w25 hout
    obtain ⟨A25, c25, A25', c25', rfl, hown, hb⟩ := DiskOut.as hout (S' := zS) (C' := []) (E' := 0) (n := 4) (n' := 0) rfl rfl m_flush.1 m_flush.2 rfl
    clear k0 k1
    have hb2 := hb.alloc hb.size (.cells #[.slice A25 4 c25, .slice A25' 0 c25'] 25)
    have X25 := Lib.hid (DBox.new (Dsk.of_own hown))
    have X1 := Lib.hid (X1.out.below hb2)
    have X12 := Lib.hid (X12.out.below hb2)
    have X16 := Lib.hid (X16.out.below hb2)
    have P := Lib.hid (P.out.below hb2)
    have LA := Lib.hid (LA.out.below hb2)
    have X23 := Lib.hid (X23.out.below hb2)
    have B := Lib.hid (B.out.trans (hb2.mono B.out.size))
    clear hown hb hb2 hout
    go_upto_region 13 with fail
    obtain ⟨b25, hB⟩ : ∃ x, x = w25.heap.size := ⟨_, rfl⟩
    rw [← hB] at X25 ⊢
    obtain ⟨v25, hW⟩ : ∃ x : World, x = w25.alloc (.cells #[.slice A25 4 c25, .slice A25' 0 c25'] 25) := ⟨_, rfl⟩
    rw [← hW] at X1 X12 X16 P LA X23 X25 B ⊢
    clear hW hB
    obtain ⟨k0, k1⟩ := X25.out.cells
    go_wp2_with fail
    refine (plan_any A25 4 c25 A25' 0 c25' zS [] 0 2 none 0 0 [] v25 X25.out.dsk (few_smallJ (by kernel_rfl)) (Arg.nil _ _) none_byteJ (by decide)).mono ?_
    intro e u13 hout
    obtain ⟨A27, c27, rfl, hown, hb⟩ := PlanOut.as hout (n := 0) m_full.2 m_full.1 rfl
    have X1 := Lib.hid (X1.out.below hb)
    have X12 := Lib.hid (X12.out.below hb)
    have X16 := Lib.hid (X16.out.below hb)
    have P := Lib.hid (P.out.below hb)
    have LA := Lib.hid (LA.out.below hb)
    have X23 := Lib.hid (X23.out.below hb)
    have X25 := Lib.hid (X25.out.below hb)
    have B := Lib.hid (B.out.trans (hb.mono B.out.size))
    clear k0 k1 hown hb hout
    obtain ⟨g20, o20, g1, o1, cp, hA, hlt, p0, p1, r0, ap, h32⟩ := bL_cells P.out
    subst hA
    have AP := Lib.hid ap
    have h9 : (9 : Int) ≤ (cp : Int) := by omega
    have h32i : (32 : Int) ≤ (cp : Int) := by omega
    clear ap h32
    go_wp2_with fail
    refine (alive_cell u13).mono ?_
    rintro e ua ⟨rfl, hb⟩
    have X1 := Lib.hid (X1.out.below hb)
    have X12 := Lib.hid (X12.out.below hb)
    have X16 := Lib.hid (X16.out.below hb)
    have P := Lib.hid (P.out.below hb)
    have LA := Lib.hid (LA.out.below hb)
    have X23 := Lib.hid (X23.out.below hb)
    have X25 := Lib.hid (X25.out.below hb)
    have B := Lib.hid (B.out.trans (hb.mono B.out.size))
    have p0 := (hb.cell (p := ⟨g20, o20 + 1, none⟩) hlt).trans p0
    have p1 := (hb.cell (p := ⟨g20, o20, none⟩) hlt).trans p1
    have r0 := (hb.cell (p := ⟨g20, o20 + 2, none⟩) hlt).trans r0
    have hlt := Nat.lt_of_lt_of_le hlt hb.size
    have AP := Lib.hid (AP.out.below hb)
    clear hb
    obtain ⟨k0, k1⟩ := X16.out.cells
    go_wp2_with fail
    refine (has_any A16 4 c16 A16' 2 c16' fS nC none 0 0 [] 2 ua X16.out.dsk (few_smallJ (by kernel_rfl)) (Arg.nil _ _) m_has.1 m_has.2.1 m_has.2.2).mono ?_
    rintro e ub ⟨rfl, hb⟩
    have X1 := Lib.hid (X1.out.below hb)
    have X12 := Lib.hid (X12.out.below hb)
    have X16 := Lib.hid (X16.out.below hb)
    have P := Lib.hid (P.out.below hb)
    have LA := Lib.hid (LA.out.below hb)
    have X23 := Lib.hid (X23.out.below hb)
    have X25 := Lib.hid (X25.out.below hb)
    have B := Lib.hid (B.out.trans (hb.mono B.out.size))
    have p0 := (hb.cell (p := ⟨g20, o20 + 1, none⟩) hlt).trans p0
    have p1 := (hb.cell (p := ⟨g20, o20, none⟩) hlt).trans p1
    have r0 := (hb.cell (p := ⟨g20, o20 + 2, none⟩) hlt).trans r0
    have hlt := Nat.lt_of_lt_of_le hlt hb.size
    have AP := Lib.hid (AP.out.below hb)
    have es := str_arg AP.out
    have hst := str_nine
    clear hb k0 k1
    go_wp2
    go_ret
    exact ⟨rfl, B.out⟩

end Go.Proofs.Ytkbeeknnfndjgaa
