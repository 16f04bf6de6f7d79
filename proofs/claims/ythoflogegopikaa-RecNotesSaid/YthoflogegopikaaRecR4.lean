/- Layer 11: the document's Of, Put. -/
import Derived.Test.YthoflogegopikaaRecR3
import Derived.StillTailTactics
import Derived.Deep.Cut
import Derived.Deep.CutBlock
import Derived.Deep.CutRange
namespace Go.Proofs.Ythoflogegopikaa
open Go.RowKit
set_option linter.unusedVariables false

theorem Arg.cut {w : World} {b o c n lo hi : Nat} {t : Txt} (h : Arg w .u8 (some ⟨b, o, none⟩) n c t) (h1 : lo ≤ hi) (h2 : hi ≤ n) : Seq w w.heap.size (some ⟨b, o + lo, none⟩) (ints .u8 ((t.drop lo).take (hi - lo))) := by
  have h3 := (h.seq.drop lo).take (hi - lo)
  unfold ints at h3 ⊢
  rwa [← List.map_drop, ← List.map_take] at h3
/-- What Of answers. -/
def OfOut (w : World) (t : Txt) (e : Ending) (w' : World) : Prop := ((isN t ∧ e = .returned (.tuple #[recV (rawR t), .bool true])) ∨ (¬ isN t ∧ ∃ s, e = .returned (.tuple #[recV s, .bool false]))) ∧ Below w.heap.size w w'
theorem Arg.at_ {w : World} {A : Option Addr} {n c : Nat} {t : Txt} (h : Arg w .u8 A n c t) (hn : 0 < n) : ∃ b o, A = some ⟨b, o, none⟩ ∧ ∀ j, j < n → w.cell? ⟨b, o + j, none⟩ = some (.int .u8 (t.getD j 0)) := by
  have hl := h.len
  obtain ⟨b, o, e, _, hc⟩ := h.seq.at_ (by rw [ints_length]; omega)
  exact ⟨b, o, e, fun j hj => hc j _ (ints_getD .u8 t j (by omega))⟩
theorem of_short (A : Option Addr) (n c : Nat) (t : Txt) (w : World) (ht : Arg w .u8 A n c t) (h : n ≠ 14) : Calls Try.prog 41 #[.slice A n c] w (OfOut w t) := by
  have hlen := ht.len
  have HN := Lib.hid (show ¬ isN t from fun k => h (hlen.symm.trans k.1))
  obtain ⟨x, hbel⟩ := rec_box w zR
  have hbel : Below w.heap.size w (w.alloc (.cells #[.int .i64 0, .int .u32 0, .int .u32 0, .int .i64 0, .int .u8 0, .int .i64 0, .bool false, .bool false] 24)) := hbel
  have X := Lib.hid x
  obtain ⟨c0, c1, c2, c3, c4, c5, c6, c7⟩ := x.rec
  have f0 := x.free 0
  have f1 := x.free 1
  have f2 := x.free 2
  have f3 := x.free 3
  have f4 := x.free 4
  have f5 := x.free 5
  have f6 := x.free 6
  have f7 := x.free 7
  have B := Lib.hid hbel
  unfold zR at c0 c1 c2 c3 c4 c5 c6 c7 f0 f1 f2 f3 f4 f5 f6 f7
  dsimp only at c0 c1 c2 c3 c4 c5 c6 c7 f0 f1 f2 f3 f4 f5 f6 f7
  have hb : ((n : Int) != 14) = true := by rw [bne_iff_ne]; omega
  clear x hbel ht h hlen
  go_enter Try.func41, Try.ntmps41
  go_wp2
  refine bodyPost_ret (v := .tuple #[recV zR, .bool false]) ?_ rfl ⟨.inr ⟨HN.out, zR, rfl⟩, B.out⟩
  simp [results, Try.f41, go_sem, zR, c0, c1, c2, c3, c4, c5, c6, c7]

theorem of_head (A : Option Addr) (c : Nat) (t : Txt) (w : World) (ht : Arg w .u8 A 14 c t) (h : ¬ (t.getD 0 0 = 1 ∧ t.getD 13 0 ≤ 3)) : Calls Try.prog 41 #[.slice A 14 c] w (OfOut w t) := by
  have HN := Lib.hid (show ¬ isN t from fun k => h ⟨k.2.1, k.2.2.1⟩)
  obtain ⟨x, hbel⟩ := rec_box w zR
  have hbel : Below w.heap.size w (w.alloc (.cells #[.int .i64 0, .int .u32 0, .int .u32 0, .int .i64 0, .int .u8 0, .int .i64 0, .bool false, .bool false] 24)) := hbel
  have X := Lib.hid x
  obtain ⟨c0, c1, c2, c3, c4, c5, c6, c7⟩ := x.rec
  have f0 := x.free 0
  have f1 := x.free 1
  have f2 := x.free 2
  have f3 := x.free 3
  have f4 := x.free 4
  have f5 := x.free 5
  have f6 := x.free 6
  have f7 := x.free 7
  have B := Lib.hid hbel
  unfold zR at c0 c1 c2 c3 c4 c5 c6 c7 f0 f1 f2 f3 f4 f5 f6 f7
  dsimp only at c0 c1 c2 c3 c4 c5 c6 c7 f0 f1 f2 f3 f4 f5 f6 f7
  obtain ⟨b, o, rfl, hc⟩ := (ht.below hbel).at_ (by decide)
  have t0 := hc 0 (by decide)
  have t13 := hc 13 (by decide)
  rw [Nat.add_zero] at t0
  obtain ⟨x0, hx0⟩ : ∃ x, x = t.getD 0 0 := ⟨_, rfl⟩
  obtain ⟨x13, hx13⟩ : ∃ x, x = t.getD 13 0 := ⟨_, rfl⟩
  rw [← hx0] at t0 h
  rw [← hx13] at t13 h
  clear x hbel ht hc hx0 hx13
  by_cases h0 : x0 = 1
  · have h3 : 3 < x13 := by
      rcases Int.lt_or_le 3 x13 with k | k
      · exact k
      · exact absurd ⟨h0, k⟩ h
    subst h0
    clear h
    go_enter Try.func41, Try.ntmps41
    go_wp2
    refine bodyPost_ret (v := .tuple #[recV zR, .bool false]) ?_ rfl ⟨.inr ⟨HN.out, zR, rfl⟩, B.out⟩
    simp [results, Try.f41, go_sem, zR, c0, c1, c2, c3, c4, c5, c6, c7]
  · have hb : (x0 != 1) = true := by rw [bne_iff_ne]; exact h0
    clear h h0
    go_enter Try.func41, Try.ntmps41
    go_wp2
    refine bodyPost_ret (v := .tuple #[recV zR, .bool false]) ?_ rfl ⟨.inr ⟨HN.out, zR, rfl⟩, B.out⟩
    simp [results, Try.f41, go_sem, zR, c0, c1, c2, c3, c4, c5, c6, c7]
end Go.Proofs.Ythoflogegopikaa
