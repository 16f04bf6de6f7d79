/- Layer 1, NumNames: the walk: the limit's and errors' numbers, and the examples. -/
import Derived.Test.YtkmimecakpghhaaNumL
namespace Go.Proofs.Ytkmimecakpghhaa
open Go.RowKit
set_option linter.unusedVariables false

theorem int_info : (Try.prog.info? 3).map (fun i => (i.zero, i.size, i.bytes)) = some (some (.int .i64 0), 1, 8) := by kernel_rfl
def maxWord : Int := 18446744073709551615
theorem row_max : rowTo [maxWord, 0] [8, 2] 2 = [255, 255, 255, 255, 255, 255, 255, 255, 0, 0] := by decide +kernel
theorem fits_max : fitsTo [maxWord, 0] [8, 2] 2 = true := by decide +kernel
theorem word_max : ∀ z ∈ [maxWord, 0], isWord z := by simp [isWord, maxWord]

set_option maxHeartbeats 1600000 in
theorem walk_NumNames (w : World) : Calls Try.prog 3 #[] w fun e w' => e = .returned (.bool true) ∧ Below w.heap.size w w' := by
  obtain ⟨i0, hi0, hz0, hz1, hz2⟩ := info_parts int_info
  have hmk : ∀ wx : World, (Instr.makeSlice 28 (.int .i64 17) (.int .i64 17)).run Try.prog wx = .ok (.slice (some ⟨wx.heap.size, 0, none⟩) 17 17) (wx.alloc (.cells (rep 17 (.int .i64 0)) 3)) :=
    fun wx => run_make1 (P := Try.prog) 28 3 i0 _ Try.underlying28 hi0 hz0 hz1 rfl 17 (by rw [hz2]; decide) (by decide) wx
  clear hi0 hz0 hz1 hz2
  go_enter Try.func3, Try.ntmps3
  go_wp2_with fail
  refine (write_ok (some ⟨w.heap.size, 0, none⟩) (some ⟨w.heap.size + 1, 0, none⟩) 1 1 1 1 [256] [1] _ ?_ rfl (by decide) ?_ rfl rfl (by simp [isWord])).mono ?_
  · exact lit_row _ _ .i64 [1] _ _ _ rfl (by simp) (by simp)
  · exact ((lit_row w _ .u64 [256] _ _ _ rfl rfl (Nat.lt_succ_self _)).alloc (by simp) _).more (by simp)
  intro e w1 hout
  obtain ⟨rfl, hbel⟩ := hout.no (by decide)
  have HB1 := Lib.hid (((((Below.refl w.heap.size w).alloc (Nat.le_refl _) _).alloc (by simp) _).trans (hbel.mono (by simp; omega))))
  clear hout hbel
  go_wp2_with fail
  refine (write_arg (some ⟨w1.heap.size, 0, none⟩) (some ⟨w1.heap.size + 1, 0, none⟩) 1 1 1 1 [9] _ (w1.heap.size + 2) ?_ rfl (by decide) (by decide)).mono ?_
  · exact lit_row _ _ .i64 [9] _ _ _ rfl (by simp) (by simp)
  rintro e w2 ⟨rfl, rfl⟩
  go_wp2_with fail
  refine (read_short _ (some ⟨w1.heap.size + 3, 0, none⟩) 1 1 1 1 [2] _ (w1.heap.size + 4) ?_ rfl (by decide) (by decide) (by decide)).mono ?_
  · exact lit_row _ _ .i64 [2] _ _ _ rfl (by simp) (by simp)
  rintro e w2 ⟨rfl, rfl⟩
  go_wp2_with fail
  refine (write_many _ none 1 1 0 0 [] _ 0 Seq.empty rfl (by decide) (by decide) (by decide)).mono ?_
  rintro e w2 ⟨rfl, rfl⟩
  go_wp2_with fail
  refine (size_no (some ⟨w1.heap.size + 1 + 1 + 1 + 1 + 1, 0, none⟩) 17 17 (List.replicate 17 0) _ (w1.heap.size + 6) ?_ (by decide) (by decide) (by decide)).mono ?_
  · exact lit_row _ _ .i64 (List.replicate 17 0) _ _ _ (by simp [rep, ints]) (by simp) (by simp)
  rintro e w2 ⟨rfl, rfl⟩
  go_wp2_with fail
  refine (write_ok (some ⟨w1.heap.size + 1 + 1 + 1 + 1 + 1 + 1, 0, none⟩) (some ⟨w1.heap.size + 1 + 1 + 1 + 1 + 1 + 1 + 1, 0, none⟩) 2 2 2 2 [maxWord, 0] [8, 2] _ ?_ rfl (by decide) ?_ rfl rfl word_max).mono ?_
  · exact lit_row _ _ .i64 [8, 2] _ _ _ rfl (by simp) (by simp)
  · exact ((lit_row _ _ .u64 [maxWord, 0] _ _ _ rfl (by simp) (Nat.lt_succ_self _)).alloc (by simp) _).more (by simp)
  intro e w2 hout
  obtain ⟨A, c, rfl, hown, hbel⟩ := (hout.yes fits_max).len row_max rfl
  have hb2 := HB1.out.trans ((((((((((Below.refl w1.heap.size w1).alloc (by simp) _).alloc (by simp <;> omega) _).alloc (by simp <;> omega) _).alloc (by simp <;> omega) _).alloc (by simp <;> omega) _).alloc (by simp <;> omega) _).alloc (by simp <;> omega) _).alloc (by simp <;> omega) _).trans (hbel.mono (by simp; omega)) |>.mono HB1.out.size)
  have HB2 := Lib.hid hb2
  have HS2 := Lib.hid (Seq.own hown)
  clear hown hbel hb2 hout
  go_wp2_with fail
  refine (write_ok none none 0 0 0 0 [] [] _ Seq.empty rfl (by decide) Seq.empty rfl rfl (by simp)).mono ?_
  intro e w3 hout
  obtain ⟨A3, c3, rfl, hown, hbel⟩ := (hout.yes rfl).len (zs' := []) rfl rfl
  have HB3 := Lib.hid (HB2.out.trans (hbel.mono HB2.out.size))
  have HS3 := Lib.hid ((HS2.out.below hbel).more hbel.size)
  clear hown hbel hout
  go_wp2_with fail
  refine (alive_any w3).mono ?_
  rintro e w4 ⟨rfl, hbel⟩
  have HB4 := Lib.hid (HB3.out.trans (hbel.mono HB3.out.size))
  have hst := run_str (P := Try.prog) w4 22 9 5 Try.underlying22 Try.underlying5 Try.underlying9 (c := c) (HS3.out.below hbel) (n := 10) rfl
  have e1 : strOfNums [255, 255, 255, 255, 255, 255, 255, 255, 0, 0] = ⟨#[255, 255, 255, 255, 255, 255, 255, 255, 0, 0]⟩ := by decide
  rw [e1] at hst
  clear e1 hbel
  go_wp2
  go_ret
  exact ⟨rfl, HB4.out⟩

end Go.Proofs.Ytkmimecakpghhaa
