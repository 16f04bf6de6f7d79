/- Layer 15, the law's alive, told of what the program's calls do. No statement is proved here. -/
import Derived.Test.YtdgfofemogmmkaaFrD
import Derived.Deep.RegionHeld3
namespace Go.Proofs.Ytdgfofemogmmkaa
open Go.RowKit
set_option linter.unusedVariables false
set_option maxRecDepth 100000

theorem make_row15 (m : Nat) (h2 : m ≤ 100) (w : World) :
    (Instr.makeSlice 23 (.int .i64 (m : Nat)) (.int .i64 (m : Nat))).run Try.prog w = .ok (.slice (some ⟨w.heap.size, 0, none⟩) m m) (w.alloc (.cells (ints .u8 (List.replicate m 0)).toArray 5)) := by
  obtain ⟨i0, hi0, hz0, hz1, hz2⟩ := info_parts byte_info
  have hmk := run_make1 (P := Try.prog) 23 5 i0 _ Try.underlying23 hi0 hz0 hz1 rfl m (by rw [hz2]; omega) (by simp only [maxLen]; omega) w
  have hrep : rep m (.int .u8 0) = (ints .u8 (List.replicate m 0)).toArray := by simp [rep, ints]
  rwa [hrep] at hmk
theorem own_row15 (m : Nat) (h2 : m ≤ 100) (w : World) : (w.alloc (.cells (ints .u8 (List.replicate m 0)).toArray 5)).ownsRow w.heap.size 5 1 (.slice (some ⟨w.heap.size, 0, none⟩) m m) m (ints .u8 (List.replicate m 0)) :=
  (Blk.new w 5 (ints .u8 (List.replicate m 0))).owns (Nat.le_refl _) (by simp [ints]) (Nat.le_trans h2 (by decide))
def cv27 : Op := .convert 23 9 (.tmp 26)
def s16 : ByteArray := strOfNums [0, 0, 16, 0, 0, 0, 0, 0, 0, 0, 0, 0, 0, 0, 0, 0]
def s12 : ByteArray := strOfNums (List.replicate 12 0)

set_option maxHeartbeats 6400000 in
theorem alive15_any (FD : FrameDoes) (w : World) : Calls Try.prog 11 #[] w fun e w' => e = .returned (.bool true) ∧ Below w.heap.size w w' := by
  have HE := Lib.hid (hello_any w)
  have HH := Lib.hid hello_any
  have WR := Lib.hid (fun wx => FD.write 4096 0 0 0 none 0 0 [] wx (Arg.nil _ _) (fun x hx => by cases hx) isV4096 isV0 isV0 isV0)
  rw [show ((4096, 0, 0, 0, []) : Fr) = hel from rfl, (frB_yes hel_may).1, (frB_yes hel_may).2] at WR
  have HL := Lib.hid (show (frT hel).length = 20 by rw [frT_length]; rfl)
  have TB := Lib.hid (frT_byte hel_is)
  have RD := Lib.hid (fun A k wx hx => FD.read A 20 k (frT hel) wx hx TB.out (by decide))
  rw [(fr_back hel_is hel_may).1, (fr_back hel_is hel_may).2] at RD
  have SA := Lib.hid (fun A2 k2 wx (hx : Arg wx .u8 A2 0 k2 []) => rsameF_any 4096 0 0 0 A2 0 k2 [] 4096 0 0 0 none 0 0 [] wx hx (Arg.nil _ _) (fun x hx => by cases hx) (fun x hx => by cases hx))
  rw [show decide (((4096, 0, 0, 0, []) : Fr) = (4096, 0, 0, 0, [])) = true from decide_eq_true rfl] at SA
  have T16 := Lib.hid (show (frT hel).take 16 = [0, 0, 16, 0, 0, 0, 0, 0, 0, 0, 0, 0, 0, 0, 0, 0] by
    have e := frT_take hel hel_is
    rw [hel_W] at e
    exact e)
  obtain ⟨T, hT⟩ : ∃ y, y = frT hel := ⟨_, rfl⟩
  rw [← hT] at WR HL TB RD T16
  unfold FrdOut hel at RD
  dsimp only at RD
  clear hT
  go_enter Try.func11, Try.ntmps11
  go_wp2_with fail
  refine HE.out.mono ?_
  rintro e w1 ⟨rfl, hb⟩
  have B := Lib.hid hb
  clear hb HE
  go_wp2_with fail
  refine (WR.out _).mono ?_
  intro e w2 hout
  obtain ⟨A2, k2, rfl, hown, hb⟩ := hout.len rfl HL.out
  have B := Lib.hid (B.out.trans (hb.mono B.out.size))
  obtain ⟨g, rfl, _⟩ := owns_int_at hown (show 0 < 20 by decide)
  have RT := Lib.hid (Arg.own hown)
  clear hout hown hb WR
  have hcap := RT.out.cap
  have hc16 : (16 : Int) ≤ (k2 : Int) := by omega
  go_wp2_with fail
  refine (RD.out _ _ _ RT.out).mono ?_
  rintro e w3 ⟨A3, k3, rfl, hown, hb⟩
  obtain ⟨x, hbx⟩ := box_frm w3 4096 0 0 0 A3 0 k3
  have hb4 := hb.trans (hbx.mono hb.size)
  have B := Lib.hid (B.out.trans (hb4.mono B.out.size))
  have RT := Lib.hid (RT.out.below hb4)
  have RB := Lib.hid ((Arg.own hown).below hbx)
  clear hown hb hb4 RD
  obtain ⟨w4, hw4⟩ : ∃ x : World, x = w3.alloc (.cells #[.int .u32 4096, .int .u32 0, .int .u32 0, .int .u32 0, .slice A3 0 k3] 25) := ⟨_, rfl⟩
  obtain ⟨GF, hGF⟩ : ∃ y, y = w3.heap.size := ⟨_, rfl⟩
  rw [← hw4] at x B RT RB
  rw [← hGF] at x
  have X := Lib.hid x
  clear x hbx
  go_upto_region 3 with fail
  change Code.wp _ _ _ _ (w3.alloc (.cells #[.int .u32 4096, .int .u32 0, .int .u32 0, .int .u32 0, .slice A3 0 k3] 25))
  rw [← hw4, ← hGF]
  clear hw4 hGF
  have hcur : Below w4.heap.size w4 w4.drew := below_drewN (Below.refl _ _) 1
  have RT16 := Lib.hid (show ∀ wx, Below w4.heap.size w4 wx → Arg wx .u8 (some ⟨g, 0, none⟩) 16 k2 [0, 0, 16, 0, 0, 0, 0, 0, 0, 0, 0, 0, 0, 0, 0, 0] from fun wx hx => by
    have h1 := RT.out.below hx
    have h3 := h1.seq.take 16
    unfold ints at h3
    rw [← List.map_take, T16.out] at h3
    exact ⟨h3, rfl, by omega, h1.max⟩)
  have keepX : ∀ wx, Below w4.heap.size w4 wx → wx.cell? ⟨GF, 0, none⟩ = some (.int .u32 4096) ∧ wx.cell? ⟨GF, 1, none⟩ = some (.int .u32 0) ∧ wx.cell? ⟨GF, 2, none⟩ = some (.int .u32 0) ∧ wx.cell? ⟨GF, 3, none⟩ = some (.int .u32 0) ∧ wx.cell? ⟨GF, 4, none⟩ = some (.slice A3 0 k3) ∧ (convert 23 9 (.slice (some ⟨g, 0, none⟩) 16 k2)).run Try.prog wx = .ok (.string s16) wx := fun wx hx => by
    obtain ⟨c0, c1, c2, c3, c4⟩ := (X.out.below hx X.out.lt).frm
    exact ⟨c0, c1, c2, c3, c4, str_arg15 (RT16.out _ hx)⟩
  have hkX := keepX _ hcur
  have hmk : ∀ wx : World, (Instr.makeSlice 23 (.int .i64 12) (.int .i64 12)).run Try.prog wx = .ok (.slice (some ⟨wx.heap.size, 0, none⟩) 12 12) (wx.alloc (.cells (ints .u8 (List.replicate 12 0)).toArray 5)) := fun wx => make_row15 12 (by decide) wx
  have hq12 : (convert 23 9 (.slice (some ⟨w4.heap.size, 0, none⟩) 12 12)).run Try.prog (World.drew (w4.alloc (.cells (ints .u8 [0, 0, 0, 0, 0, 0, 0, 0, 0, 0, 0, 0]).toArray 5))) = .ok (.string s12) (World.drew (w4.alloc (.cells (ints .u8 [0, 0, 0, 0, 0, 0, 0, 0, 0, 0, 0, 0]).toArray 5))) := str_arg15 ((Arg.own (own_row15 12 (by decide) w4)).below (below_drewN (Below.refl _ _) 1))
  have hz12 : s12.size = 12 := rfl
  have hst : (s16.toList == (({ data := #[0, 0, 16, 0] } : ByteArray) ++ s12).toList) = true := by kernel_rfl
  rw [show Op.convert 23 9 (Operand.tmp 26) = cv27 from rfl]
  have hcv : cv27 = Op.convert 23 9 (Operand.tmp 26) := rfl
  go_region_held3 (fun w' => w'.cell? ⟨GF, 0, none⟩ = some (.int .u32 4096) ∧ w'.cell? ⟨GF, 1, none⟩ = some (.int .u32 0) ∧ w'.cell? ⟨GF, 2, none⟩ = some (.int .u32 0) ∧ w'.cell? ⟨GF, 3, none⟩ = some (.int .u32 0) ∧ w'.cell? ⟨GF, 4, none⟩ = some (.slice A3 0 k3) ∧ (convert 23 9 (.slice (some ⟨g, 0, none⟩) 16 k2)).run Try.prog w' = .ok (.string s16) w')
    (first | exact hkX | exact keepX _ (hcur.alloc hcur.size _) | go_keep)
    (first
      | (go_at_call 7; (with_reducible refine (HH.out _).mono ?_); rintro e w5 ⟨rfl, hb5⟩; have hcur := (hcur.alloc hcur.size _).trans (hb5.mono (Nat.le_trans hcur.size (by simp))); have hkX := keepX _ hcur)
      | (go_at_call 17; (with_reducible refine (SA.out _ _ _ (RB.out.below hcur)).mono ?_); rintro e w6 ⟨rfl, hb6⟩; have hcur := hcur.trans (hb6.mono hcur.size); have hkX := keepX _ hcur))
  have hfin := B.out.trans (hcur.mono B.out.size)
  have FIN := Lib.hid hfin
  clear hcur hkX hfin keepX
  go_wp2
  go_ret
  exact ⟨rfl, FIN.out⟩
end Go.Proofs.Ytdgfofemogmmkaa
