/- Layer 15, FrameNames: the walk, told of what the program's calls do. -/
import Derived.Test.YtdgfofemogmmkaaFrA
import Derived.Test.YtdgfofemogmmkaaCrcG
import Derived.Test.YtdgfofemogmmkaaNghts
import Derived.Deep.CutRange
namespace Go.Proofs.Ytdgfofemogmmkaa
open Go.RowKit Go.OpenShut
set_option linter.unusedVariables false
set_option maxRecDepth 100000

section
variable {w : World} {g G : Nat} {t : TypeId} {cs : List Value}
theorem two_a (h : Blk w g t cs) (hg : g ≠ G) (o : Obj) (u v : Value) : Blk (((w.alloc o).setCell ⟨G, 2, none⟩ u).setCell ⟨G, 4, none⟩ v).drew g t cs :=
  (((h.below ((Below.refl _ _).alloc (Nat.le_refl _) o) h.lt).away hg 2 u).away hg 4 v)
theorem two_b (h : Blk w g t cs) (hg : g ≠ G) (o : Obj) (u v : Value) : Blk (((w.setCell ⟨G, 2, none⟩ u).alloc o).setCell ⟨G, 4, none⟩ v).drew g t cs := by
  have h2 := h.away hg 2 u
  exact (h2.below ((Below.refl _ _).alloc (Nat.le_refl _) o) h2.lt).away hg 4 v
theorem put_a (h : Blk w G t cs) (o : Obj) (u v : Value) : Blk (((w.alloc o).setCell ⟨G, 2, none⟩ u).setCell ⟨G, 4, none⟩ v).drew G t ((cs.set 2 u).set 4 v) :=
  (((h.below ((Below.refl _ _).alloc (Nat.le_refl _) o) h.lt).set 2 u).set 4 v)
theorem put_b (h : Blk w G t cs) (o : Obj) (u v : Value) : Blk (((w.setCell ⟨G, 2, none⟩ u).alloc o).setCell ⟨G, 4, none⟩ v).drew G t ((cs.set 2 u).set 4 v) := by
  have h2 := h.set 2 u
  exact (h2.below ((Below.refl _ _).alloc (Nat.le_refl _) o) h2.lt).set 4 v
theorem bel_a {w0 : World} {B : Nat} (h : Below B w0 w) (hB : B ≤ w.heap.size) (hG : B ≤ G) (o : Obj) (u v : Value) : Below B w0 (((w.alloc o).setCell ⟨G, 2, none⟩ u).setCell ⟨G, 4, none⟩ v).drew :=
  below_drewN (((h.alloc hB o).setCell (p := ⟨G, 2, none⟩) hG u).setCell (p := ⟨G, 4, none⟩) hG v) 1
theorem bel_b {w0 : World} {B : Nat} (h : Below B w0 w) (hB : B ≤ w.heap.size) (hG : B ≤ G) (o : Obj) (u v : Value) : Below B w0 (((w.setCell ⟨G, 2, none⟩ u).alloc o).setCell ⟨G, 4, none⟩ v).drew :=
  below_drewN (((h.setCell (p := ⟨G, 2, none⟩) hG u).alloc (by simpa [World.setCell] using hB) o).setCell (p := ⟨G, 4, none⟩) hG v) 1
theorem two_a_new {u v : Value} (zs : List Int) (hG : G < w.heap.size) : Blk (((w.alloc (.cells (ints .u8 zs).toArray 5)).setCell ⟨G, 2, none⟩ u).setCell ⟨G, 4, none⟩ v).drew w.heap.size 5 (ints .u8 zs) :=
  (((Blk.new w 5 (ints .u8 zs)).away (show w.heap.size ≠ G by omega) 2 u).away (show w.heap.size ≠ G by omega) 4 v)
theorem two_b_new {u v : Value} (zs : List Int) (hG : G < w.heap.size) : Blk (((w.setCell ⟨G, 2, none⟩ u).alloc (.cells (ints .u8 zs).toArray 5)).setCell ⟨G, 4, none⟩ v).drew w.heap.size 5 (ints .u8 zs) := by
  have h0 := Blk.new (w.setCell ⟨G, 2, none⟩ u) 5 (ints .u8 zs)
  rw [show (w.setCell ⟨G, 2, none⟩ u).heap.size = w.heap.size by simp [World.setCell]] at h0
  exact h0.away (by omega) 4 v
end

set_option maxHeartbeats 25600000 in
theorem fnames_of (FD : FrameDoes) (w : World) : Calls Try.prog 3 #[] w fun e w' => e = .returned (.bool true) ∧ Below w.heap.size w w' := by
  have HH := Lib.hid hello_any
  go_enter Try.func3, Try.ntmps3
  go_wp2_with fail
  refine (HH.out _).mono ?_
  rintro e w1 ⟨rfl, hb1⟩
  go_wp2_with fail
  refine (HH.out _).mono ?_
  rintro e w2 ⟨rfl, hb2⟩
  go_wp2_with fail
  refine (HH.out _).mono ?_
  rintro e w3 ⟨rfl, hb3⟩
  have B := Lib.hid (hb1.trans ((hb2.trans (hb3.mono hb2.size)).mono hb1.size))
  clear hb1 hb2 hb3
  go_upto_region 3 with fail
  have a1 := Blk.new w3 25 (frmL 4096 0 0 0 (some ⟨w3.heap.size + 1 + 1 + 1, 0, none⟩) 1 1)
  have a2 := Blk.new (w3.alloc (.cells (frmL 4096 0 0 0 (some ⟨w3.heap.size + 1 + 1 + 1, 0, none⟩) 1 1).toArray 25)) 25 (frmL 4096 0 1 0 none 0 0)
  have a3 := Blk.new ((w3.alloc (.cells (frmL 4096 0 0 0 (some ⟨w3.heap.size + 1 + 1 + 1, 0, none⟩) 1 1).toArray 25)).alloc (.cells (frmL 4096 0 1 0 none 0 0).toArray 25)) 25 (frmL 0 0 0 0 none 0 0)
  have b1 := ((a1.grown (World.grownBy_alloc _ (.cells (frmL 4096 0 1 0 none 0 0).toArray 25) none) (by simp)).grown (World.grownBy_alloc _ (.cells (frmL 0 0 0 0 none 0 0).toArray 25) none) (by simp)).grown (World.grownBy_alloc _ (.cells #[.int .u8 1] 5) none) (by simp)
  have b2 := (a2.grown (World.grownBy_alloc _ (.cells (frmL 0 0 0 0 none 0 0).toArray 25) none) (by simp)).grown (World.grownBy_alloc _ (.cells #[.int .u8 1] 5) none) (by simp)
  have b3 := a3.grown (World.grownBy_alloc _ (.cells #[.int .u8 1] 5) none) (by simp)
  simp only [World.size_alloc] at b2 b3
  have hb4 : Below w3.heap.size w3 ((((w3.alloc (.cells #[.int .u32 4096, .int .u32 0, .int .u32 0, .int .u32 0, .slice (some ⟨w3.heap.size + 1 + 1 + 1, 0, none⟩) 1 1] 25)).alloc (.cells #[.int .u32 4096, .int .u32 0, .int .u32 1, .int .u32 0, .slice none 0 0] 25)).alloc (.cells #[.int .u32 0, .int .u32 0, .int .u32 0, .int .u32 0, .slice none 0 0] 25)).alloc (.cells #[.int .u8 1] 5)) := ((((Below.refl _ _).alloc (Nat.le_refl _) _).alloc (by simp) _).alloc (by simp; omega) _).alloc (by simp; omega) _
  obtain ⟨w4, hw4⟩ : ∃ x : World, x = ((((w3.alloc (.cells #[.int .u32 4096, .int .u32 0, .int .u32 0, .int .u32 0, .slice (some ⟨w3.heap.size + 1 + 1 + 1, 0, none⟩) 1 1] 25)).alloc (.cells #[.int .u32 4096, .int .u32 0, .int .u32 1, .int .u32 0, .slice none 0 0] 25)).alloc (.cells #[.int .u32 0, .int .u32 0, .int .u32 0, .int .u32 0, .slice none 0 0] 25)).alloc (.cells #[.int .u8 1] 5)) := ⟨_, rfl⟩
  change Blk ((((w3.alloc (.cells #[.int .u32 4096, .int .u32 0, .int .u32 0, .int .u32 0, .slice (some ⟨w3.heap.size + 1 + 1 + 1, 0, none⟩) 1 1] 25)).alloc (.cells #[.int .u32 4096, .int .u32 0, .int .u32 1, .int .u32 0, .slice none 0 0] 25)).alloc (.cells #[.int .u32 0, .int .u32 0, .int .u32 0, .int .u32 0, .slice none 0 0] 25)).alloc (.cells #[.int .u8 1] 5)) _ _ _ at b1
  change Blk ((((w3.alloc (.cells #[.int .u32 4096, .int .u32 0, .int .u32 0, .int .u32 0, .slice (some ⟨w3.heap.size + 1 + 1 + 1, 0, none⟩) 1 1] 25)).alloc (.cells #[.int .u32 4096, .int .u32 0, .int .u32 1, .int .u32 0, .slice none 0 0] 25)).alloc (.cells #[.int .u32 0, .int .u32 0, .int .u32 0, .int .u32 0, .slice none 0 0] 25)).alloc (.cells #[.int .u8 1] 5)) _ _ _ at b2
  change Blk ((((w3.alloc (.cells #[.int .u32 4096, .int .u32 0, .int .u32 0, .int .u32 0, .slice (some ⟨w3.heap.size + 1 + 1 + 1, 0, none⟩) 1 1] 25)).alloc (.cells #[.int .u32 4096, .int .u32 0, .int .u32 1, .int .u32 0, .slice none 0 0] 25)).alloc (.cells #[.int .u32 0, .int .u32 0, .int .u32 0, .int .u32 0, .slice none 0 0] 25)).alloc (.cells #[.int .u8 1] 5)) _ _ _ at b3
  rw [← hw4] at b1 b2 b3 hb4 ⊢
  obtain ⟨G1, hG1⟩ : ∃ y, y = w3.heap.size := ⟨_, rfl⟩
  rw [← hG1] at b1 b2 b3 ⊢
  obtain ⟨L1, hL1⟩ : ∃ y : Option Addr, y = some ⟨G1 + 1 + 1 + 1, 0, none⟩ := ⟨_, rfl⟩
  rw [← hL1] at b1
  clear hL1
  have T1 := Lib.hid b1
  have T2 := Lib.hid b2
  have T3 := Lib.hid b3
  have B := Lib.hid (B.out.trans (hb4.mono B.out.size))
  clear hw4 hG1 a1 a2 a3 b1 b2 b3 hb4
  go_wp2_with fail
  refine (HH.out _).mono ?_
  rintro e w5 ⟨rfl, hb1⟩
  go_wp2_with fail
  refine (HH.out _).mono ?_
  rintro e w6 ⟨rfl, hb2⟩
  have hb := hb1.trans (hb2.mono hb1.size)
  obtain ⟨x, y, hbk⟩ := box_frms w6 4096 0 0 0 none 0 0 4096 0 0 0 none 0 0
  have B6S := Lib.hid (B.out.trans (hb.mono B.out.size)).size
  have T3S := Lib.hid (T3.out.below hb T3.out.lt).lt
  have hb := hb.trans (hbk.mono hb.size)
  have T1 := Lib.hid (T1.out.below hb T1.out.lt)
  have T2 := Lib.hid (T2.out.below hb T2.out.lt)
  have T3 := Lib.hid (T3.out.below hb T3.out.lt)
  have B := Lib.hid (B.out.trans (hb.mono B.out.size))
  clear hb hb1 hb2 hbk
  have HG := Lib.hid (show w.heap.size ≤ w6.heap.size from B6S.out)
  have HT := Lib.hid (show G1 + 1 + 1 < w6.heap.size from T3S.out)
  go_upto_region 4 with fail
  obtain ⟨w7, hw7⟩ : ∃ x : World, x = ((w6.alloc (.cells #[.int .u32 4096, .int .u32 0, .int .u32 0, .int .u32 0, .slice none 0 0] 25)).alloc (.cells #[.int .u32 4096, .int .u32 0, .int .u32 0, .int .u32 0, .slice none 0 0] 25)) := ⟨_, rfl⟩
  rw [← hw7] at x y T1 T2 T3 B ⊢
  obtain ⟨G4, hG4⟩ : ∃ y, y = w6.heap.size := ⟨_, rfl⟩
  rw [← hG4] at x y HG HT ⊢
  have T4 := Lib.hid x
  have T5 := Lib.hid y
  clear hw7 hG4 x y
  have hT := HT.out
  obtain ⟨R65, hR65⟩ : ∃ y, y = List.replicate 65 (0 : Int) := ⟨_, rfl⟩
  have HL65 := Lib.hid (show R65.length = 65 by rw [hR65]; rfl)
  have hmk : ∀ wx : World, (Instr.makeSlice 23 (.int .i64 65) (.int .i64 65)).run Try.prog wx = .ok (.slice (some ⟨wx.heap.size, 0, none⟩) 65 65) (wx.alloc (.cells (ints .u8 R65).toArray 5)) := fun wx => by rw [hR65]; exact make_row15 65 (by decide) wx
  have HR65 := Lib.hid hR65
  clear hR65
  obtain ⟨c0, c1, c2, c3, c4⟩ := T4.out.frm
  have f2 := T4.out.free 2
  have f4 := T4.out.free 4
  have Tq := T4.out.below ((Below.refl _ _).alloc (Nat.le_refl _) (.cells (ints .u8 R65).toArray 5)) T4.out.lt
  obtain ⟨k0, k1, k2, k3, k4⟩ := Tq.frm
  have h2 := Tq.free 2
  have h4 := Tq.free 4
  have Tr := (T4.out.set 2 (.int .u32 1)).below ((Below.refl _ _).alloc (Nat.le_refl _) (.cells (ints .u8 R65).toArray 5)) (T4.out.set 2 (.int .u32 1)).lt
  have m4 : ((w7.setCell ⟨G4, 2, none⟩ (.int .u32 1)).alloc (.cells (ints .u8 R65).toArray 5)).cell? ⟨G4, 4, none⟩ = some (.slice none 0 0) := Tr.cell 4
  have n4 := Tr.free 4
  clear Tq Tr
  go_cut [27] from 27 to 29 (fun x wx => ∃ G : Nat, x = .slice (some ⟨G, 0, none⟩) 65 65 ∧ Blk wx G4 25 (frmL 4096 0 1 0 (some ⟨G, 0, none⟩) 65 65) ∧ Blk wx G 5 (ints .u8 R65) ∧ G4 + 1 < G ∧ Blk wx G1 25 (frmL 4096 0 0 0 L1 1 1) ∧ Blk wx (G1 + 1) 25 (frmL 4096 0 1 0 none 0 0) ∧ Blk wx (G1 + 1 + 1) 25 (frmL 0 0 0 0 none 0 0) ∧ Blk wx (G4 + 1) 25 (frmL 4096 0 0 0 none 0 0) ∧ Below w.heap.size w wx)
  case first =>
    go_region
    all_goals (go_wp2_with fail; go_meet)
    · exact ⟨_, rfl, put_a T4.out _ _ _, two_a_new _ T4.out.lt, T5.out.lt, two_a T1.out (by omega) _ _ _, two_a T2.out (by omega) _ _ _, two_a T3.out (by omega) _ _ _, two_a T5.out (by omega) _ _ _, bel_a B.out B.out.size HG.out _ _ _⟩
    · exact ⟨_, rfl, put_b T4.out _ _ _, two_b_new _ T4.out.lt, T5.out.lt, two_b T1.out (by omega) _ _ _, two_b T2.out (by omega) _ _ _, two_b T3.out (by omega) _ _ _, two_b T5.out (by omega) _ _ _, bel_b B.out B.out.size HG.out _ _ _⟩
  case rest =>
    obtain ⟨w8, hw8⟩ : ∃ y, y = wc := ⟨_, rfl⟩
    rw [← hw8] at hcut ⊢
    obtain ⟨A65, rfl, t4, x65, a65, t1, t2, t3, t5, b⟩ := hcut
    have T1 := Lib.hid t1
    have T2 := Lib.hid t2
    have T3 := Lib.hid t3
    have T4 := Lib.hid t4
    have T5 := Lib.hid t5
    have X65 := Lib.hid x65
    have B := Lib.hid b
    have HG := Lib.hid (show w.heap.size ≤ G4 + 1 by have := HG.out; omega)
    clear hw8 t1 t2 t3 t4 t5 x65 b c0 c1 c2 c3 c4 f2 f4 k0 k1 k2 k3 k4 h2 h4 m4 n4 hmk
    go_upto_region 5 with fail
    obtain ⟨R64, hR64⟩ : ∃ y, y = List.replicate 64 (0 : Int) := ⟨_, rfl⟩
    have HL64 := Lib.hid (show R64.length = 64 by rw [hR64]; rfl)
    have hmk : ∀ wx : World, (Instr.makeSlice 23 (.int .i64 64) (.int .i64 64)).run Try.prog wx = .ok (.slice (some ⟨wx.heap.size, 0, none⟩) 64 64) (wx.alloc (.cells (ints .u8 R64).toArray 5)) := fun wx => by rw [hR64]; exact make_row15 64 (by decide) wx
    have HR64 := Lib.hid hR64
    clear hR64
    obtain ⟨c0, c1, c2, c3, c4⟩ := T5.out.frm
    have f2 := T5.out.free 2
    have f4 := T5.out.free 4
    have Tq := T5.out.below ((Below.refl _ _).alloc (Nat.le_refl _) (.cells (ints .u8 R64).toArray 5)) T5.out.lt
    obtain ⟨k0, k1, k2, k3, k4⟩ := Tq.frm
    have h2 := Tq.free 2
    have h4 := Tq.free 4
    have Tr := (T5.out.set 2 (.int .u32 1)).below ((Below.refl _ _).alloc (Nat.le_refl _) (.cells (ints .u8 R64).toArray 5)) (T5.out.set 2 (.int .u32 1)).lt
    have m4 : ((w8.setCell ⟨(G4 + 1), 2, none⟩ (.int .u32 1)).alloc (.cells (ints .u8 R64).toArray 5)).cell? ⟨(G4 + 1), 4, none⟩ = some (.slice none 0 0) := Tr.cell 4
    have n4 := Tr.free 4
    clear Tq Tr
    go_cut [30] from 30 to 32 (fun x wx => ∃ G : Nat, x = .slice (some ⟨G, 0, none⟩) 64 64 ∧ Blk wx (G4 + 1) 25 (frmL 4096 0 1 0 (some ⟨G, 0, none⟩) 64 64) ∧ Blk wx G 5 (ints .u8 R64) ∧ G4 + 1 < G ∧ Blk wx G1 25 (frmL 4096 0 0 0 L1 1 1) ∧ Blk wx (G1 + 1) 25 (frmL 4096 0 1 0 none 0 0) ∧ Blk wx (G1 + 1 + 1) 25 (frmL 0 0 0 0 none 0 0) ∧ Blk wx G4 25 (frmL 4096 0 1 0 (some ⟨A65, 0, none⟩) 65 65) ∧ Blk wx A65 5 (ints .u8 R65) ∧ Below w.heap.size w wx)
    case first =>
      go_region
      all_goals (go_wp2_with fail; go_meet)
      · exact ⟨_, rfl, put_a T5.out _ _ _, two_a_new _ T5.out.lt, T5.out.lt, two_a T1.out (by omega) _ _ _, two_a T2.out (by omega) _ _ _, two_a T3.out (by omega) _ _ _, two_a T4.out (by omega) _ _ _, two_a X65.out (by omega) _ _ _, bel_a B.out B.out.size HG.out _ _ _⟩
      · exact ⟨_, rfl, put_b T5.out _ _ _, two_b_new _ T5.out.lt, T5.out.lt, two_b T1.out (by omega) _ _ _, two_b T2.out (by omega) _ _ _, two_b T3.out (by omega) _ _ _, two_b T4.out (by omega) _ _ _, two_b X65.out (by omega) _ _ _, bel_b B.out B.out.size HG.out _ _ _⟩
    case rest =>
      obtain ⟨w9, hw9⟩ : ∃ y, y = wc := ⟨_, rfl⟩
      rw [← hw9] at hcut ⊢
      obtain ⟨A64, rfl, t5, x64, a64, t1, t2, t3, t4, x65, b⟩ := hcut
      have T1 := Lib.hid t1
      have T2 := Lib.hid t2
      have T3 := Lib.hid t3
      have T4 := Lib.hid t4
      have T5 := Lib.hid t5
      have X65 := Lib.hid x65
      have X64 := Lib.hid x64
      have B := Lib.hid b
      clear hw9 t1 t2 t3 t4 t5 x65 x64 b c0 c1 c2 c3 c4 f2 f4 k0 k1 k2 k3 k4 h2 h4 m4 n4 hmk
      obtain ⟨q0, q1, q2, q3, q4⟩ := T5.out.frm
      have I64 : isF (4096, 0, 1, 0, R64) := ⟨isV4096, isV0, (show isV 1 from ⟨by decide, by decide⟩), isV0, fun z hz => by rw [HR64.out] at hz; rw [List.eq_of_mem_replicate hz]; exact ⟨by decide, by decide⟩⟩
      have M64 : mayF (4096, 0, 1, 0, R64) := ⟨show (4096 : Int) ≠ 0 by decide, by rw [if_neg (show ¬ (1 : Int) = 0 by decide)]; show 1 ≤ R64.length ∧ R64.length ≤ 64; rw [HL64.out]; decide⟩
      have W1 := FD.write 4096 0 1 0 (some ⟨A64, 0, none⟩) 64 64 R64 w9 (Arg.own (X64.out.owns (base := 0) (Nat.zero_le _) (by simpa [ints] using HL64.out) (by decide))) I64.2.2.2.2 isV4096 isV0 (show isV 1 from ⟨by decide, by decide⟩) isV0
      rw [(frB_yes M64).1, (frB_yes M64).2] at W1
      have W1 := Lib.hid W1
      have FB := Lib.hid (frT_byte I64)
      have FL := Lib.hid (show (frT (4096, 0, 1, 0, R64)).length = 84 by rw [frT_length]; show 20 + R64.length = 84; rw [HL64.out])
      obtain ⟨t84, ht84⟩ : ∃ y, y = frT (4096, 0, 1, 0, R64) := ⟨_, rfl⟩
      rw [← ht84] at W1 FB FL
      have Ht84 := Lib.hid ht84
      clear ht84 I64 M64
      go_wp2_with fail
      refine W1.out.mono ?_
      intro e w10 h
      obtain ⟨A84, c84, rfl, hown, hb⟩ := h.len rfl FL.out
      have O84 := Lib.hid hown
      have B9 := Lib.hid hb
      clear h hb hown W1 q0 q1 q2 q3 q4 T5 X64
      go_upto_region 7 with fail
      obtain ⟨i0, hi0, hz0, hz1, hz2⟩ := info_parts byte_info
      have F85 : fdE (t84 ++ [0]) = 150 := by
        unfold fdE
        rw [if_neg (by rw [List.length_append, FL.out]; decide), if_pos (by rw [List.length_append, FL.out]; decide)]
      have V85 : fdV (t84 ++ [0]) = zFr := by
        unfold fdV
        rw [F85]
        exact if_neg (by decide)
      have RD := Lib.hid (fun (A : Option Addr) (c : Nat) (wx : World) (hx : Arg wx .u8 A 85 c (t84 ++ [0])) => FD.read A 85 c (t84 ++ [0]) wx hx (fun z hz => by rcases List.mem_append.mp hz with hz | hz; exact FB.out z hz; rw [List.mem_singleton.mp hz]; exact ⟨by decide, by decide⟩) (by decide))
      rw [F85, V85] at RD
      unfold FrdOut zFr at RD
      dsimp only at RD
      have RD := Lib.hid RD.out
      clear F85 V85
      have hnew := Blk.new w10 5 [.int .u8 0]
      have hbn : Below w9.heap.size w9 (w10.alloc (.cells #[.int .u8 0] 5)) := B9.out.alloc B9.out.size _
      have hO := O84.out
      have HBN := Lib.hid hbn
      have HSQ := Lib.hid (show Seq (w10.alloc (.cells #[.int .u8 0] 5)) (w10.heap.size + 1) (some ⟨w10.heap.size, 0, none⟩) (ints .u8 [0]) from Seq.more (hnew.seq 0 1) (Nat.lt_succ_self _))
      have HL84 := Lib.hid (show (ints .u8 t84).length = 84 by simpa [ints] using FL.out)
      clear hO hbn hnew
      go_wp2_with (at_builtin; go_must (refine wpList_behind_g w9 _ rfl (.tmp 39) (.tmp 40) _ rfl w9.heap.size 5 i0 _ 1 Try.underlying23 hi0 hz0 hz1 hz2 rfl A84 84 c84 (ints .u8 t84) rfl (O84.out.allocated _) (w10.heap.size + 1) (some ⟨w10.heap.size, 0, none⟩) 1 1 (ints .u8 [0]) rfl rfl HSQ.out (ints_one _ _) (by decide) (by decide) HBN.out (Nat.le_refl _) ?_); intro A85 c85 w11 hown11 hb11; have R85 := RD.out A85 c85 w11 (Arg.own (by simpa [ints] using hown11)))
      refine R85.mono ?_
      rintro e w12 ⟨A8, k8, rfl, hown, hb12⟩
      obtain ⟨hbox, hbx⟩ := box_frm w12 0 0 0 0 A8 0 k8
      have hb := (hb11.trans (hb12.mono hb11.size))
      have hb := hb.trans (hbx.mono hb.size)
      go_upto_region 8 with fail
      obtain ⟨w13, hw13⟩ : ∃ x : World, x = w12.alloc (.cells #[.int .u32 0, .int .u32 0, .int .u32 0, .int .u32 0, .slice A8 0 k8] 25) := ⟨_, rfl⟩
      rw [← hw13] at hb ⊢
      have T1 := Lib.hid (T1.out.below hb T1.out.lt)
      have T2 := Lib.hid (T2.out.below hb T2.out.lt)
      have T3 := Lib.hid (T3.out.below hb T3.out.lt)
      have T4 := Lib.hid (T4.out.below hb T4.out.lt)
      have X65 := Lib.hid (X65.out.below hb X65.out.lt)
      have B := Lib.hid (B.out.trans (hb.mono B.out.size))
      clear hw13 hb hbx hbox hb12 hown hb11 hown11 R85 RD O84 HBN HSQ B9 hi0 hz0 hz1 hz2
      have hmk : (Instr.makeSlice 23 (.int .i64 19) (.int .i64 19)).run Try.prog w13 = .ok (.slice (some ⟨w13.heap.size, 0, none⟩) 19 19) (w13.alloc (.cells (ints .u8 (List.replicate 19 0)).toArray 5)) := make_row15 19 (by decide) w13
      have RD := FD.read (some ⟨w13.heap.size, 0, none⟩) 19 19 (List.replicate 19 0) (w13.alloc (.cells (ints .u8 (List.replicate 19 0)).toArray 5)) (Arg.own (own_row15 19 (by decide) w13)) (fun z hz => by rw [List.eq_of_mem_replicate hz]; exact ⟨by decide, by decide⟩) (by decide)
      have F19 : fdE (List.replicate 19 0) = 10 := by unfold fdE; rw [List.length_replicate, if_pos (by decide)]
      have V19 : fdV (List.replicate 19 0) = zFr := by unfold fdV; rw [F19]; exact if_neg (by decide)
      rw [F19, V19] at RD
      unfold FrdOut zFr at RD
      dsimp only at RD
      have hal : Below w13.heap.size w13 (w13.alloc (.cells (ints .u8 (List.replicate 19 0)).toArray 5)) := (Below.refl _ _).alloc (Nat.le_refl _) _
      obtain ⟨w14, hw14⟩ : ∃ x : World, x = w13.alloc (.cells (ints .u8 (List.replicate 19 0)).toArray 5) := ⟨_, rfl⟩
      rw [← hw14] at hmk RD hal
      clear F19 V19 hw14
      go_wp2_with fail
      refine RD.mono ?_
      rintro e w15 ⟨A10, k10, rfl, hown, hb15⟩
      obtain ⟨hbox, hbx⟩ := box_frm w15 0 0 0 0 A10 0 k10
      have hb := (hal.trans (hb15.mono hal.size))
      have hb := hb.trans (hbx.mono hb.size)
      go_upto_region 9 with fail
      obtain ⟨w16, hw16⟩ : ∃ x : World, x = w15.alloc (.cells #[.int .u32 0, .int .u32 0, .int .u32 0, .int .u32 0, .slice A10 0 k10] 25) := ⟨_, rfl⟩
      rw [← hw16] at hb ⊢
      have T1 := Lib.hid (T1.out.below hb T1.out.lt)
      have T2 := Lib.hid (T2.out.below hb T2.out.lt)
      have T3 := Lib.hid (T3.out.below hb T3.out.lt)
      have T4 := Lib.hid (T4.out.below hb T4.out.lt)
      have X65 := Lib.hid (X65.out.below hb X65.out.lt)
      have B := Lib.hid (B.out.trans (hb.mono B.out.size))
      clear hw16 hb hbx hbox hb15 hown hal hmk RD
      obtain ⟨R20, hR20⟩ : ∃ y : List Int, y = [1] ++ List.replicate 19 0 := ⟨_, rfl⟩
      have FO20 : opE R20 = 20 := by rw [hR20]; kernel_rfl
      have FL20 : R20.length = 20 := by rw [hR20]; rfl
      have F20 : fdE R20 = 20 := by
        unfold fdE
        rw [FL20, FO20, if_neg (by decide), if_neg (by decide), if_neg (by decide)]
      have V20 : fdV R20 = zFr := by unfold fdV; rw [F20]; exact if_neg (by decide)
      have RD := Lib.hid (fun (A : Option Addr) (c : Nat) (wx : World) (hx : Arg wx .u8 A 20 c R20) => FD.read A 20 c R20 wx hx (fun z hz => by rw [hR20] at hz; rcases List.mem_append.mp hz with hz | hz; rw [List.mem_singleton.mp hz]; exact ⟨by decide, by decide⟩; rw [List.eq_of_mem_replicate hz]; exact ⟨by decide, by decide⟩) (by decide))
      rw [F20, V20] at RD
      unfold FrdOut zFr at RD
      dsimp only at RD
      have RD := Lib.hid RD.out
      have HE20 := Lib.hid (show (ints .u8 [1] ++ List.replicate 19 (.int .u8 0)) = ints .u8 R20 by rw [hR20]; simp [ints])
      clear FO20 FL20 F20 V20 hR20
      have hbn : Below w16.heap.size w16 (w16.alloc (.cells #[.int .u8 1] 5)) := (Below.refl _ _).alloc (Nat.le_refl _) _
      have hO := (Blk.new w16 5 (ints .u8 [1])).owns (base := w16.heap.size) (Nat.le_refl _) (show (ints .u8 [1]).length = 1 from rfl) (by decide)
      have hsz := hbn.size
      have O := Lib.hid hO
      have BN := Lib.hid hbn
      clear hbn hO
      go_wp2_with (at_builtin; (refine wpList_noughts15 _ rfl (.tmp 51) (.const (.int .i64 19)) rfl w16.heap.size _ 1 _ rfl O.out 19 rfl (by decide) (by decide) hsz ?_); intro v17 w17 hown17 hg17 hob17; obtain ⟨A17, c17, rfl⟩ := owns_slice hown17; have HL17 := Lib.hid (O.out.lt); have O17 := Lib.hid hown17; have hb17 := BN.out.grown hg17 hsz (fun g e => (HL17.out g e).1); clear hg17 hob17; have R1 := RD.out A17 c17 w17 (Arg.own (by rw [← HE20.out]; exact hown17)))
      refine R1.mono ?_
      rintro e w18 ⟨A12, k12, rfl, hown, hb18⟩
      obtain ⟨hbox, hbx⟩ := box_frm w18 0 0 0 0 A12 0 k12
      have hb := (hb17.trans (hb18.mono hb17.size))
      have hb := hb.trans (hbx.mono hb.size)
      go_upto_region 10 with fail
      obtain ⟨w19, hw19⟩ : ∃ x : World, x = w18.alloc (.cells #[.int .u32 0, .int .u32 0, .int .u32 0, .int .u32 0, .slice A12 0 k12] 25) := ⟨_, rfl⟩
      rw [← hw19] at hb ⊢
      have T1 := Lib.hid (T1.out.below hb T1.out.lt)
      have T2 := Lib.hid (T2.out.below hb T2.out.lt)
      have T3 := Lib.hid (T3.out.below hb T3.out.lt)
      have T4 := Lib.hid (T4.out.below hb T4.out.lt)
      have X65 := Lib.hid (X65.out.below hb X65.out.lt)
      have B := Lib.hid (B.out.trans (hb.mono B.out.size))
      clear hw19 hb hbx hbox hb18 hown hown17 hb17 HL17 O17 R1 HE20 O BN hsz
      obtain ⟨Z16, hZ16⟩ : ∃ y : List Int, y = List.replicate 16 0 := ⟨_, rfl⟩
      have F16 : fdE (seB Z16) = 150 := by rw [hZ16]; kernel_rfl
      have E16 : seE Z16 = 0 := by rw [hZ16]; rfl
      have L16 : (seB Z16).length = 20 := by rw [hZ16]; rfl
      have Z16b : ∀ z ∈ Z16, isByte z := fun z hz => by rw [hZ16] at hz; rw [List.eq_of_mem_replicate hz]; exact ⟨by decide, by decide⟩
      have Y16 : ∀ z ∈ seB Z16, isByte z := fun z hz => by
        unfold seB at hz
        rw [if_neg (by rw [hZ16, List.length_replicate]; decide)] at hz
        exact sealed_byte Z16b z hz
      have V16 : fdV (seB Z16) = zFr := by unfold fdV; rw [F16]; exact if_neg (by decide)
      have hmk : (Instr.makeSlice 23 (.int .i64 16) (.int .i64 16)).run Try.prog w19 = .ok (.slice (some ⟨w19.heap.size, 0, none⟩) 16 16) (w19.alloc (.cells (ints .u8 Z16).toArray 5)) := by rw [hZ16]; exact make_row15 16 (by decide) w19
      have SG := seal_gen (some ⟨w19.heap.size, 0, none⟩) 16 16 Z16 (w19.alloc (.cells (ints .u8 Z16).toArray 5)) (by rw [hZ16]; exact Arg.own (own_row15 16 (by decide) w19)) Z16b
      rw [E16] at SG
      obtain ⟨S16, hS16⟩ : ∃ y, y = seB Z16 := ⟨_, rfl⟩
      rw [← hS16] at SG F16 L16 Y16 V16
      have RD := Lib.hid (fun (A : Option Addr) (c : Nat) (wx : World) (hx : Arg wx .u8 A 20 c S16) => FD.read A 20 c S16 wx hx Y16 (by decide))
      rw [F16, V16] at RD
      unfold FrdOut zFr at RD
      dsimp only at RD
      have RD := Lib.hid RD.out
      have FL := Lib.hid L16
      have hal : Below w19.heap.size w19 (w19.alloc (.cells (ints .u8 Z16).toArray 5)) := (Below.refl _ _).alloc (Nat.le_refl _) _
      obtain ⟨w20, hw20⟩ : ∃ x : World, x = w19.alloc (.cells (ints .u8 Z16).toArray 5) := ⟨_, rfl⟩
      rw [← hw20] at hmk SG hal
      clear F16 V16 Y16 L16 E16 hS16 hw20 hZ16 Z16b
      go_wp2_with fail
      refine SG.mono ?_
      intro e w21 h
      obtain ⟨A14, c14, rfl, hown, hb21⟩ := h.len rfl FL.out
      have R1 := RD.out A14 c14 w21 (Arg.own hown)
      go_upto_region 11 with fail
      go_wp2_with fail
      refine R1.mono ?_
      rintro e w22 ⟨A16, k16, rfl, hown22, hb22⟩
      obtain ⟨hbox, hbx⟩ := box_frm w22 0 0 0 0 A16 0 k16
      have hb := (hal.trans (hb21.mono hal.size))
      have hb := hb.trans (hb22.mono hb.size)
      have hb := hb.trans (hbx.mono hb.size)
      go_upto_region 12 with fail
      obtain ⟨w23, hw23⟩ : ∃ x : World, x = w22.alloc (.cells #[.int .u32 0, .int .u32 0, .int .u32 0, .int .u32 0, .slice A16 0 k16] 25) := ⟨_, rfl⟩
      rw [← hw23] at hb ⊢
      have T1 := Lib.hid (T1.out.below hb T1.out.lt)
      have T2 := Lib.hid (T2.out.below hb T2.out.lt)
      have T3 := Lib.hid (T3.out.below hb T3.out.lt)
      have T4 := Lib.hid (T4.out.below hb T4.out.lt)
      have X65 := Lib.hid (X65.out.below hb X65.out.lt)
      have B := Lib.hid (B.out.trans (hb.mono B.out.size))
      clear hw23 hb hbx hbox hb22 hb21 hown hown22 hal h hmk SG R1 RD
      go_wp2_with fail
      refine (alive15_any FD _).mono ?_
      rintro e v0 ⟨rfl, hb⟩
      have T1 := Lib.hid (T1.out.below hb T1.out.lt)
      have T2 := Lib.hid (T2.out.below hb T2.out.lt)
      have T3 := Lib.hid (T3.out.below hb T3.out.lt)
      have T4 := Lib.hid (T4.out.below hb T4.out.lt)
      have B := Lib.hid (B.out.trans (hb.mono B.out.size))
      clear hb
      obtain ⟨d0, d1, d2, d3, d4⟩ := T1.out.frm
      have C1 := FD.check 4096 0 0 0 L1 1 1 v0 isV4096 isV0 isV0 isV0 (by decide)
      rw [show (if mayN 4096 0 1 then (0 : Int) else 150) = 150 from by decide] at C1
      go_wp2_with fail
      refine C1.mono ?_
      rintro e v1 ⟨rfl, hb⟩
      clear d0 d1 d2 d3 d4 C1
      have T2 := Lib.hid (T2.out.below hb T2.out.lt)
      have T3 := Lib.hid (T3.out.below hb T3.out.lt)
      have T4 := Lib.hid (T4.out.below hb T4.out.lt)
      have B := Lib.hid (B.out.trans (hb.mono B.out.size))
      clear hb
      obtain ⟨d0, d1, d2, d3, d4⟩ := T2.out.frm
      have C1 := FD.check 4096 0 1 0 none 0 0 v1 isV4096 isV0 (show isV 1 from ⟨by decide, by decide⟩) isV0 (by decide)
      rw [show (if mayN 4096 1 0 then (0 : Int) else 150) = 150 from by decide] at C1
      go_wp2_with fail
      refine C1.mono ?_
      rintro e v2 ⟨rfl, hb⟩
      clear d0 d1 d2 d3 d4 C1
      have T3 := Lib.hid (T3.out.below hb T3.out.lt)
      have T4 := Lib.hid (T4.out.below hb T4.out.lt)
      have B := Lib.hid (B.out.trans (hb.mono B.out.size))
      clear hb
      obtain ⟨d0, d1, d2, d3, d4⟩ := T3.out.frm
      have C1 := FD.check 0 0 0 0 none 0 0 v2 isV0 isV0 isV0 isV0 (by decide)
      rw [show (if mayN 0 0 0 then (0 : Int) else 150) = 150 from by decide] at C1
      go_wp2_with fail
      refine C1.mono ?_
      rintro e v3 ⟨rfl, hb⟩
      clear d0 d1 d2 d3 d4 C1
      have T4 := Lib.hid (T4.out.below hb T4.out.lt)
      have B := Lib.hid (B.out.trans (hb.mono B.out.size))
      clear hb
      obtain ⟨d0, d1, d2, d3, d4⟩ := T4.out.frm
      have C1 := FD.check 4096 0 1 0 (some ⟨A65, 0, none⟩) 65 65 v3 isV4096 isV0 (show isV 1 from ⟨by decide, by decide⟩) isV0 (by decide)
      rw [show (if mayN 4096 1 65 then (0 : Int) else 150) = 150 from by decide] at C1
      go_wp2_with fail
      refine C1.mono ?_
      rintro e v4 ⟨rfl, hb⟩
      clear d0 d1 d2 d3 d4 C1
      
      have B := Lib.hid (B.out.trans (hb.mono B.out.size))
      clear hb
      go_wp2
      go_ret
      exact ⟨rfl, B.out⟩
  
end Go.Proofs.Ytdgfofemogmmkaa
