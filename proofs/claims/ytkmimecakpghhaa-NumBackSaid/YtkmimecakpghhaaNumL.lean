/- Layer 1: the statements' own helper functions: the examples hold; the lesser of two lists. -/
import Derived.Test.YtkmimecakpghhaaNumR4
namespace Go.Proofs.Ytkmimecakpghhaa
open Go.RowKit
set_option linter.unusedVariables false

set_option maxHeartbeats 800000 in
theorem alive_any (w : World) : Calls Try.prog 11 #[] w fun e w' => e = .returned (.bool true) ∧ Below w.heap.size w w' := by
  go_enter Try.func11, Try.ntmps11
  go_wp2_with fail
  refine (write_ok (some ⟨w.heap.size, 0, none⟩) (some ⟨w.heap.size + 1, 0, none⟩) 2 2 2 2 [258, 7] [2, 1] _ ?_ rfl (by decide) ?_ rfl rfl (by simp [isWord])).mono ?_
  · exact lit_row _ _ .i64 [2, 1] _ _ _ rfl (by simp) (by simp)
  · exact ((lit_row w _ .u64 [258, 7] _ _ _ rfl rfl (Nat.lt_succ_self _)).alloc (by simp) _).more (by simp)
  intro e w1 hout
  obtain ⟨A, c, rfl, hown, hbel⟩ := (hout.yes (by decide)).len (zs' := [1, 2, 7]) (by decide) rfl
  have hb1 : Below w.heap.size w w1 := ((((Below.refl _ _).alloc (Nat.le_refl _) _).alloc (by simp) _).trans (hbel.mono (by simp; omega)))
  have HB1 := Lib.hid hb1
  have HS1 := Lib.hid (Seq.own hown)
  have hz1 := hb1.size
  clear hown hbel hb1 hout
  go_wp2_with fail
  refine (read_ok (some ⟨w1.heap.size, 0, none⟩) (some ⟨w1.heap.size + 1, 0, none⟩) 3 3 2 2 [1, 2, 7] [2, 1] _ ?_ rfl (by decide) ?_ rfl (by decide) (by omega) (by decide) (by simp [isByte])).mono ?_
  · exact lit_row _ _ .i64 [2, 1] _ _ _ rfl (by simp) (by simp)
  · exact ((lit_row w1 _ .u8 [1, 2, 7] _ _ _ rfl rfl (Nat.lt_succ_self _)).alloc (by simp) _).more (by simp)
  intro e w2 hout
  obtain ⟨A2, c2, rfl, hown, hbel⟩ := hout.len (zs' := [258, 7]) (by decide) rfl
  have hb2 : Below w1.heap.size w1 w2 := ((((Below.refl _ _).alloc (Nat.le_refl _) _).alloc (by simp) _).trans (hbel.mono (by simp; omega)))
  have HB2 := Lib.hid (HB1.out.trans (hb2.mono hz1))
  have HS2 := Lib.hid (Seq.own hown)
  have hz2 := hb2.size
  have hst := fun wx (hx : Below w1.heap.size w1 wx) => run_str (P := Try.prog) wx 22 9 5 Try.underlying22 Try.underlying5 Try.underlying9 (c := c) (HS1.out.below hx) (show [1, 2, 7].length = 3 from rfl)
  have hst2 := hst w2 hb2
  have e1 : strOfNums [1, 2, 7] = ⟨#[1, 2, 7]⟩ := by decide
  rw [e1] at hst2
  clear hown hbel hb2 hout hst e1
  go_wp2_with fail
  refine (same_self A2 (some ⟨w2.heap.size, 0, none⟩) 2 c2 2 [258, 7] _ (w2.heap.size + 1) ?_ ?_ rfl (by decide)).mono ?_
  · exact (HS2.out.alloc (Nat.le_refl _) _).more (by omega)
  · exact lit_row _ _ .u64 [258, 7] _ _ _ rfl rfl (by omega)
  rintro e w3 ⟨rfl, q, rfl⟩
  go_wp2
  go_ret
  exact ⟨rfl, below_drewN (HB2.out.alloc HB2.out.size _) q⟩

end Go.Proofs.Ytkmimecakpghhaa
