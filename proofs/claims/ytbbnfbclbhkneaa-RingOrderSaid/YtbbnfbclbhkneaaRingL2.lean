/- Layer 4, package ring: List, at all arguments. -/
import Derived.Test.YtbbnfbclbhkneaaRingL
namespace Go.Proofs.Ytbbnfbclbhkneaa
open Go.RowKit
set_option linter.unusedVariables false

theorem chkQ_yes {q : List Text} {h m : Int} (hR : mayB q h m = true) : chkQ q h m = 0 := by unfold chkQ; rw [hR]; rfl
theorem chkQ_no {q : List Text} {h m : Int} (hR : mayB q h m = false) : chkQ q h m = 8 := by unfold chkQ; rw [hR]; rfl

theorem plist_any (A : Option Addr) (n c : Nat) (h m : Int) (q : List Text) (w : World) (hq : Texts w A n c q) (hs : Small q) :
    Calls Try.prog 16 #[queueV A n c h m] w (TextsOut w (listT q h m) (chkQ q h m)) := by
  cases hR : mayB q h m with
  | true =>
    obtain ⟨H, M, rfl, rfl, h1, h2, h3, h4, _⟩ := mayB_nat hR
    rw [hq.len] at h1 h2 h3 h4
    have hC := chkQ_yes hR
    have hl : listT q (H : Int) (M : Int) = (upN 0 M).map (itm q H) := by
      unfold listT
      rw [if_pos hR, Int.toNat_natCast, Int.toNat_natCast]
      congr 1
      unfold upN
      simp
    have hlen : ((upN 0 M).map (itm q H)).length = M := by rw [List.length_map, upN_length]
    rw [hC, hl]
    refine (callsIn_wide.1 (list_in A n c H M q w hq hs h1 h2 h3 h4 hC)).mono ?_
    rintro e w' ⟨A', c', rfl, hO, hb⟩
    exact ⟨A', c', by rw [hlen], by rw [hlen]; exact hO, hb⟩
  | false =>
    have hbel : Below w.heap.size w (w.alloc (.cells #[.slice A n c, .int .i64 h, .int .i64 m] 24)) := (Below.refl _ _).alloc (Nat.le_refl _) _
    have C := pcheck_any A n c h m q _ (hq.below hbel) hs
    obtain ⟨c0, c1, c2⟩ := box_queue w A n c h m
    rw [chkQ_no hR] at C ⊢
    have hl : listT q h m = [] := by unfold listT; rw [hR]; rfl
    rw [hl]
    have C := Lib.hid C
    have BEL := Lib.hid hbel
    clear hq hs hR hbel hl
    go_enter Try.func16, Try.ntmps16
    go_wp2_with fail
    refine C.out.mono ?_
    rintro e w2 ⟨rfl, hb2⟩
    have B2 := Lib.hid (BEL.out.trans (hb2.mono BEL.out.size))
    clear hb2
    go_wp2
    go_ret2
    exact ⟨none, 0, rfl, OwnTexts.nil _ _, B2.out⟩

end Go.Proofs.Ytbbnfbclbhkneaa
