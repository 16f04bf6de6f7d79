/- Texts of layers 1 to 12, joined. -/
import Derived.Test.YtifgcfepbenpjaaGreatOa32
import Derived.Deep.RegionWith
import Derived.Deep.RegionHeld3
import Derived.Deep.Cut
import Derived.WalkKit
import Derived.BigQuiet
set_option maxRecDepth 100000
set_option maxHeartbeats 12800000
set_option linter.unusedVariables false
namespace Go.Proofs.YtifgcfepbenpjaaGreat
open Go.RowKit
abbrev metV (v a g n u : Int) (A : Option Addr) (k c : Nat) : Value := .agg #[.int .u32 v, .int .i64 a, .int .u64 g, .int .i64 n, .int .i64 u, .slice A k c]
abbrev metL (v a g n u : Int) (A : Option Addr) (k c : Nat) : List Value := [.int .u32 v, .int .i64 a, .int .u64 g, .int .i64 n, .int .i64 u, .slice A k c]
structure CMBox (w : World) (G : Nat) (P T A M W Q : Int) (v a g n u : Int) (B : Option Addr) (k c : Nat) (t : List Rc) : Prop where
 cfg : Blk w G 36 [.int .i64 P, .int .i64 T, .int .i64 A, .int .i64 M, .int .i64 W, .int .i64 Q]
 met : Blk w (G + 1) 32 (metL v a g n u B k c)
 tab : Recs w B k c t
section
variable {w w' : World} {G : Nat} {P T A M W Q v a g n u : Int} {B : Option Addr} {k c : Nat} {t : List Rc}
theorem CMBox.below (x : CMBox w G P T A M W Q v a g n u B k c t) (hb : Below w.heap.size w w') : CMBox w' G P T A M W Q v a g n u B k c t := ⟨x.cfg.below hb x.cfg.lt, x.met.below hb x.met.lt, x.tab.below hb⟩
theorem CMBox.new (P T A M W Q v a g n u : Int) (h : Recs w B k c t) : CMBox ((w.alloc (.cells #[.int .i64 P, .int .i64 T, .int .i64 A, .int .i64 M, .int .i64 W, .int .i64 Q] 36)).alloc (.cells #[.int .u32 v, .int .i64 a, .int .u64 g, .int .i64 n, .int .i64 u, .slice B k c] 32)) w.heap.size P T A M W Q v a g n u B k c t ∧ Below w.heap.size w ((w.alloc (.cells #[.int .i64 P, .int .i64 T, .int .i64 A, .int .i64 M, .int .i64 W, .int .i64 Q] 36)).alloc (.cells #[.int .u32 v, .int .i64 a, .int .u64 g, .int .i64 n, .int .i64 u, .slice B k c] 32)) := by
 have h1 := (Below.refl w.heap.size w).alloc (Nat.le_refl _) (.cells #[.int .i64 P, .int .i64 T, .int .i64 A, .int .i64 M, .int .i64 W, .int .i64 Q] 36)
 have b1 := Blk.new w 36 [.int .i64 P, .int .i64 T, .int .i64 A, .int .i64 M, .int .i64 W, .int .i64 Q]
 have h2 := (Below.refl (w.alloc (.cells #[.int .i64 P, .int .i64 T, .int .i64 A, .int .i64 M, .int .i64 W, .int .i64 Q] 36)).heap.size _).alloc (Nat.le_refl _) (.cells #[.int .u32 v, .int .i64 a, .int .u64 g, .int .i64 n, .int .i64 u, .slice B k c] 32)
 have b2 := Blk.new (w.alloc (.cells #[.int .i64 P, .int .i64 T, .int .i64 A, .int .i64 M, .int .i64 W, .int .i64 Q] 36)) 32 (metL v a g n u B k c)
 rw [World.size_alloc] at b2
 have hb := h1.trans (h2.mono h1.size)
 exact ⟨⟨b1.below h2 b1.lt, b2, h.below hb⟩, hb⟩
theorem CMBox.cells (x : CMBox w G P T A M W Q v a g n u B k c t) :
  (w.cell? ⟨G, 0, none⟩ = some (.int .i64 P) ∧ w.cell? ⟨G, 1, none⟩ = some (.int .i64 T) ∧ w.cell? ⟨G, 2, none⟩ = some (.int .i64 A) ∧ w.cell? ⟨G, 3, none⟩ = some (.int .i64 M) ∧ w.cell? ⟨G, 4, none⟩ = some (.int .i64 W) ∧ w.cell? ⟨G, 5, none⟩ = some (.int .i64 Q)) ∧
  w.cell? ⟨G + 1, 0, none⟩ = some (.int .u32 v) ∧ w.cell? ⟨G + 1, 1, none⟩ = some (.int .i64 a) ∧ w.cell? ⟨G + 1, 2, none⟩ = some (.int .u64 g) ∧ w.cell? ⟨G + 1, 3, none⟩ = some (.int .i64 n) ∧ w.cell? ⟨G + 1, 4, none⟩ = some (.int .i64 u) ∧ w.cell? ⟨G + 1, 5, none⟩ = some (.slice B k c) :=
 ⟨⟨x.cfg.cell 0, x.cfg.cell 1, x.cfg.cell 2, x.cfg.cell 3, x.cfg.cell 4, x.cfg.cell 5⟩, x.met.cell 0, x.met.cell 1, x.met.cell 2, x.met.cell 3, x.met.cell 4, x.met.cell 5⟩
end
theorem may12_iff {P T A M W Q v a g n u : Int} {t : List Rc} : mayM P T A M W Q ⟨(v, a, g), n, u, t⟩ ↔ mayC P T A M W Q ∧ 0 ≤ a ∧ a ≤ 1 ∧ 0 ≤ n ∧ n ≤ A ∧ 0 ≤ u ∧ u ≤ 65535 ∧ mayTab t := by
 unfold mayM arS
 constructor
 ·rintro ⟨h1, h2, ⟨h3, h4⟩, ⟨h5, h6⟩, h7⟩
  dsimp only at h2 h3 h4 h5 h6 h7
  exact ⟨h1, by omega, by omega, h3, h4, h5, h6, h7⟩
 ·rintro ⟨h1, h2, h2', h3, h4, h5, h6, h7⟩
  dsimp only
  exact ⟨h1, by omega, ⟨h3, h4⟩, ⟨h5, h6⟩, h7⟩
theorem rmay12_any (P T A M W Q v a g n u : Int) (B : Option Addr) (k c : Nat) (t : List Rc) (w : World) (ht : Recs w B k c t) (hk : k ≤ 100000) :
  Calls Tryz.prog 54 #[cfgV P T A M W Q, metV v a g n u B k c] w fun e w' => e = .returned (.bool (decide (mayM P T A M W Q ⟨(v, a, g), n, u, t⟩))) ∧ Below w.heap.size w w' := by
 obtain ⟨x, hbel⟩ := CMBox.new P T A M W Q v a g n u ht
 obtain ⟨w0, hw0⟩ : ∃ x : World, x = ((w.alloc (.cells #[.int .i64 P, .int .i64 T, .int .i64 A, .int .i64 M, .int .i64 W, .int .i64 Q] 36)).alloc (.cells #[.int .u32 v, .int .i64 a, .int .u64 g, .int .i64 n, .int .i64 u, .slice B k c] 32)) := ⟨_, rfl⟩
 rw [← hw0] at x hbel
 have X := Lh x
 have BB := Lh hbel
 have MC := Lh (fun wx => rmay_any P T A M W Q wx)
 have MT := Lh (fun wx hx => rmayAll_any B k c t wx hx hk)
 obtain ⟨⟨c0, c1, c2, c3, c4, c5⟩, d0, d1, d2, d3, d4, d5⟩ := x.cells
 clear ht hk x hbel
 by_cases h0 : mayC P T A M W Q
 ·by_cases h1 : 0 ≤ a
  ·by_cases h2 : a ≤ 1
   ·by_cases h3 : 0 ≤ n
    ·by_cases h4 : n ≤ A
     ·by_cases h5 : 0 ≤ u
      ·by_cases h6 : u ≤ 65535
       ·by_cases h7 : mayTab t
        ·have hd : decide (mayM P T A M W Q ⟨(v, a, g), n, u, t⟩) = true := decide_eq_true (may12_iff.2 ⟨h0, h1, h2, h3, h4, h5, h6, h7⟩)
         rw [hd]
         clear hd
         rw [decide_eq_true h0] at MC
         rw [decide_eq_true h7] at MT
         clear h0 h7
         go_enter Tryz.func54, Tryz.ntmps54
         go_wp2_with fail
         rw [← hw0]
         clear hw0
         refine (MC.out _).mono ?_
         rintro e w1 ⟨rfl, hb⟩
         have BB := Lh (BB.out.trans (hb.mono BB.out.size))
         have X := Lh (X.out.below hb)
         clear hb MC c0 c1 c2 c3 c4 c5 d0 d1 d2 d3 d4 d5
         obtain ⟨⟨c0, c1, c2, c3, c4, c5⟩, d0, d1, d2, d3, d4, d5⟩ := X.out.cells
         go_wp2_with fail
         refine (MT.out _ X.out.tab).mono ?_
         rintro e w2 ⟨rfl, hb⟩
         have BB := Lh (BB.out.trans (hb.mono BB.out.size))
         clear hb MT
         go_wp2
         go_ret
         exact ⟨rfl, BB.out⟩
        ·have hd : decide (mayM P T A M W Q ⟨(v, a, g), n, u, t⟩) = false := decide_eq_false fun q => by obtain ⟨q0, q1, q2, q3, q4, q5, q6, q7⟩ := may12_iff.1 q; exact h7 q7
         rw [hd]
         clear hd
         rw [decide_eq_true h0] at MC
         rw [decide_eq_false h7] at MT
         clear h0 h7
         go_enter Tryz.func54, Tryz.ntmps54
         go_wp2_with fail
         rw [← hw0]
         clear hw0
         refine (MC.out _).mono ?_
         rintro e w1 ⟨rfl, hb⟩
         have BB := Lh (BB.out.trans (hb.mono BB.out.size))
         have X := Lh (X.out.below hb)
         clear hb MC c0 c1 c2 c3 c4 c5 d0 d1 d2 d3 d4 d5
         obtain ⟨⟨c0, c1, c2, c3, c4, c5⟩, d0, d1, d2, d3, d4, d5⟩ := X.out.cells
         go_wp2_with fail
         refine (MT.out _ X.out.tab).mono ?_
         rintro e w2 ⟨rfl, hb⟩
         have BB := Lh (BB.out.trans (hb.mono BB.out.size))
         clear hb MT
         go_wp2
         go_ret
         exact ⟨rfl, BB.out⟩
       ·have hd : decide (mayM P T A M W Q ⟨(v, a, g), n, u, t⟩) = false := decide_eq_false fun q => by obtain ⟨q0, q1, q2, q3, q4, q5, q6, q7⟩ := may12_iff.1 q; exact h6 q6
        rw [hd]
        clear hd
        rw [decide_eq_true h0] at MC
        clear h0
        go_enter Tryz.func54, Tryz.ntmps54
        go_wp2_with fail
        rw [← hw0]
        clear hw0
        refine (MC.out _).mono ?_
        rintro e w1 ⟨rfl, hb⟩
        have BB := Lh (BB.out.trans (hb.mono BB.out.size))
        have X := Lh (X.out.below hb)
        clear hb MC c0 c1 c2 c3 c4 c5 d0 d1 d2 d3 d4 d5
        obtain ⟨⟨c0, c1, c2, c3, c4, c5⟩, d0, d1, d2, d3, d4, d5⟩ := X.out.cells
        go_wp2
        go_ret
        exact ⟨rfl, BB.out⟩
      ·have hd : decide (mayM P T A M W Q ⟨(v, a, g), n, u, t⟩) = false := decide_eq_false fun q => by obtain ⟨q0, q1, q2, q3, q4, q5, q6, q7⟩ := may12_iff.1 q; exact h5 q5
       rw [hd]
       clear hd
       rw [decide_eq_true h0] at MC
       clear h0
       go_enter Tryz.func54, Tryz.ntmps54
       go_wp2_with fail
       rw [← hw0]
       clear hw0
       refine (MC.out _).mono ?_
       rintro e w1 ⟨rfl, hb⟩
       have BB := Lh (BB.out.trans (hb.mono BB.out.size))
       have X := Lh (X.out.below hb)
       clear hb MC c0 c1 c2 c3 c4 c5 d0 d1 d2 d3 d4 d5
       obtain ⟨⟨c0, c1, c2, c3, c4, c5⟩, d0, d1, d2, d3, d4, d5⟩ := X.out.cells
       go_wp2
       go_ret
       exact ⟨rfl, BB.out⟩
     ·have hd : decide (mayM P T A M W Q ⟨(v, a, g), n, u, t⟩) = false := decide_eq_false fun q => by obtain ⟨q0, q1, q2, q3, q4, q5, q6, q7⟩ := may12_iff.1 q; exact h4 q4
      rw [hd]
      clear hd
      rw [decide_eq_true h0] at MC
      clear h0
      go_enter Tryz.func54, Tryz.ntmps54
      go_wp2_with fail
      rw [← hw0]
      clear hw0
      refine (MC.out _).mono ?_
      rintro e w1 ⟨rfl, hb⟩
      have BB := Lh (BB.out.trans (hb.mono BB.out.size))
      have X := Lh (X.out.below hb)
      clear hb MC c0 c1 c2 c3 c4 c5 d0 d1 d2 d3 d4 d5
      obtain ⟨⟨c0, c1, c2, c3, c4, c5⟩, d0, d1, d2, d3, d4, d5⟩ := X.out.cells
      go_wp2
      go_ret
      exact ⟨rfl, BB.out⟩
    ·have hd : decide (mayM P T A M W Q ⟨(v, a, g), n, u, t⟩) = false := decide_eq_false fun q => by obtain ⟨q0, q1, q2, q3, q4, q5, q6, q7⟩ := may12_iff.1 q; exact h3 q3
     rw [hd]
     clear hd
     rw [decide_eq_true h0] at MC
     clear h0
     go_enter Tryz.func54, Tryz.ntmps54
     go_wp2_with fail
     rw [← hw0]
     clear hw0
     refine (MC.out _).mono ?_
     rintro e w1 ⟨rfl, hb⟩
     have BB := Lh (BB.out.trans (hb.mono BB.out.size))
     have X := Lh (X.out.below hb)
     clear hb MC c0 c1 c2 c3 c4 c5 d0 d1 d2 d3 d4 d5
     obtain ⟨⟨c0, c1, c2, c3, c4, c5⟩, d0, d1, d2, d3, d4, d5⟩ := X.out.cells
     go_wp2
     go_ret
     exact ⟨rfl, BB.out⟩
   ·have hd : decide (mayM P T A M W Q ⟨(v, a, g), n, u, t⟩) = false := decide_eq_false fun q => by obtain ⟨q0, q1, q2, q3, q4, q5, q6, q7⟩ := may12_iff.1 q; exact h2 q2
    rw [hd]
    clear hd
    rw [decide_eq_true h0] at MC
    clear h0
    go_enter Tryz.func54, Tryz.ntmps54
    go_wp2_with fail
    rw [← hw0]
    clear hw0
    refine (MC.out _).mono ?_
    rintro e w1 ⟨rfl, hb⟩
    have BB := Lh (BB.out.trans (hb.mono BB.out.size))
    have X := Lh (X.out.below hb)
    clear hb MC c0 c1 c2 c3 c4 c5 d0 d1 d2 d3 d4 d5
    obtain ⟨⟨c0, c1, c2, c3, c4, c5⟩, d0, d1, d2, d3, d4, d5⟩ := X.out.cells
    go_wp2
    go_ret
    exact ⟨rfl, BB.out⟩
  ·have hd : decide (mayM P T A M W Q ⟨(v, a, g), n, u, t⟩) = false := decide_eq_false fun q => by obtain ⟨q0, q1, q2, q3, q4, q5, q6, q7⟩ := may12_iff.1 q; exact h1 q1
   rw [hd]
   clear hd
   rw [decide_eq_true h0] at MC
   clear h0
   go_enter Tryz.func54, Tryz.ntmps54
   go_wp2_with fail
   rw [← hw0]
   clear hw0
   refine (MC.out _).mono ?_
   rintro e w1 ⟨rfl, hb⟩
   have BB := Lh (BB.out.trans (hb.mono BB.out.size))
   have X := Lh (X.out.below hb)
   clear hb MC c0 c1 c2 c3 c4 c5 d0 d1 d2 d3 d4 d5
   obtain ⟨⟨c0, c1, c2, c3, c4, c5⟩, d0, d1, d2, d3, d4, d5⟩ := X.out.cells
   go_wp2
   go_ret
   exact ⟨rfl, BB.out⟩
 ·have hd : decide (mayM P T A M W Q ⟨(v, a, g), n, u, t⟩) = false := decide_eq_false fun q => by obtain ⟨q0, q1, q2, q3, q4, q5, q6, q7⟩ := may12_iff.1 q; exact h0 q0
  rw [hd]
  clear hd
  rw [decide_eq_false h0] at MC
  clear h0
  go_enter Tryz.func54, Tryz.ntmps54
  go_wp2_with fail
  rw [← hw0]
  clear hw0
  refine (MC.out _).mono ?_
  rintro e w1 ⟨rfl, hb⟩
  have BB := Lh (BB.out.trans (hb.mono BB.out.size))
  have X := Lh (X.out.below hb)
  clear hb MC c0 c1 c2 c3 c4 c5 d0 d1 d2 d3 d4 d5
  obtain ⟨⟨c0, c1, c2, c3, c4, c5⟩, d0, d1, d2, d3, d4, d5⟩ := X.out.cells
  go_wp2
  go_ret
  exact ⟨rfl, BB.out⟩
theorem rcheck12_any (P T A M W Q v a g n u : Int) (B : Option Addr) (k c : Nat) (t : List Rc) (w : World) (ht : Recs w B k c t) (hk : k ≤ 100000) :
  Calls Tryz.prog 25 #[cfgV P T A M W Q, metV v a g n u B k c] w fun e w' => e = .returned (.int .i64 (kmE P T A M W Q ⟨(v, a, g), n, u, t⟩)) ∧ Below w.heap.size w w' := by
 obtain ⟨x, hbel⟩ := CMBox.new P T A M W Q v a g n u ht
 obtain ⟨w0, hw0⟩ : ∃ x : World, x = ((w.alloc (.cells #[.int .i64 P, .int .i64 T, .int .i64 A, .int .i64 M, .int .i64 W, .int .i64 Q] 36)).alloc (.cells #[.int .u32 v, .int .i64 a, .int .u64 g, .int .i64 n, .int .i64 u, .slice B k c] 32)) := ⟨_, rfl⟩
 rw [← hw0] at x hbel
 have X := Lh x
 have BB := Lh hbel
 have MC := Lh (fun wx hx => rmay12_any P T A M W Q v a g n u B k c t wx hx hk)
 obtain ⟨⟨c0, c1, c2, c3, c4, c5⟩, d0, d1, d2, d3, d4, d5⟩ := x.cells
 clear ht hk x hbel
 unfold kmE
 by_cases h0 : mayM P T A M W Q ⟨(v, a, g), n, u, t⟩
 ·rw [if_pos h0]
  rw [decide_eq_true h0] at MC
  clear h0
  go_enter Tryz.func25, Tryz.ntmps25
  go_wp2_with fail
  rw [← hw0]
  clear hw0
  refine (MC.out _ X.out.tab).mono ?_
  rintro e w1 ⟨rfl, hb⟩
  have BB := Lh (BB.out.trans (hb.mono BB.out.size))
  clear hb MC
  go_wp2
  go_ret
  exact ⟨rfl, BB.out⟩
 ·rw [if_neg h0]
  rw [decide_eq_false h0] at MC
  clear h0
  go_enter Tryz.func25, Tryz.ntmps25
  go_wp2_with fail
  rw [← hw0]
  clear hw0
  refine (MC.out _ X.out.tab).mono ?_
  rintro e w1 ⟨rfl, hb⟩
  have BB := Lh (BB.out.trans (hb.mono BB.out.size))
  clear hb MC
  go_wp2
  go_ret
  exact ⟨rfl, BB.out⟩
end Go.Proofs.YtifgcfepbenpjaaGreat
