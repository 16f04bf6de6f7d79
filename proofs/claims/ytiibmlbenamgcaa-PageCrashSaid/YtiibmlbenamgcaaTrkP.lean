/- Layer 8: the program's Check, volumeOf, sector, track, Read. -/
import Derived.Test.YtiibmlbenamgcaaTrkMath
import Derived.Test.YtiibmlbenamgcaaPlP5
import Derived.Test.YtiibmlbenamgcaaCrcG
import Derived.Deep.CutBlock
namespace Go.Proofs.Ytiibmlbenamgcaa
open Go.RowKit
set_option linter.unusedVariables false

/-- A config in its box, and a disk in the next one. -/
structure TBox (w : World) (G : Nat) (P T A M W Q : Int) (D : Option Addr) (n c : Nat) (D' : Option Addr) (n' c' : Nat) (S : List Sec) (C : List Pnd) : Prop where
  cfg : Blk w G 27 [.int .i64 P, .int .i64 T, .int .i64 A, .int .i64 M, .int .i64 W, .int .i64 Q]
  dsk : DBox w (G + 1) D n c D' n' c' S C
section
variable {w w' : World} {G : Nat} {P T A M W Q : Int} {D D' : Option Addr} {n c n' c' : Nat} {S : List Sec} {C : List Pnd}
theorem TBox.below (x : TBox w G P T A M W Q D n c D' n' c' S C) (hb : Below w.heap.size w w') : TBox w' G P T A M W Q D n c D' n' c' S C := ⟨x.cfg.below hb x.cfg.lt, x.dsk.below hb⟩
theorem TBox.new (P T A M W Q : Int) (t : Dsk w D n c D' n' c' S C) :
    TBox ((w.alloc (.cells #[.int .i64 P, .int .i64 T, .int .i64 A, .int .i64 M, .int .i64 W, .int .i64 Q] 27)).alloc (.cells #[.slice D n c, .slice D' n' c'] 37)) w.heap.size P T A M W Q D n c D' n' c' S C ∧
    Below w.heap.size w ((w.alloc (.cells #[.int .i64 P, .int .i64 T, .int .i64 A, .int .i64 M, .int .i64 W, .int .i64 Q] 27)).alloc (.cells #[.slice D n c, .slice D' n' c'] 37)) := by
  obtain ⟨x, hb⟩ := box_cfg w P T A M W Q
  have y := DBox.new (t.below hb)
  rw [World.size_alloc] at y
  exact ⟨⟨x.grown (World.grownBy_alloc _ _ none) (by simp), y⟩, hb.alloc hb.size _⟩
theorem TBox.cells (x : TBox w G P T A M W Q D n c D' n' c' S C) : w.cell? ⟨G, 0, none⟩ = some (.int .i64 P) ∧ w.cell? ⟨G, 1, none⟩ = some (.int .i64 T) ∧ w.cell? ⟨G, 2, none⟩ = some (.int .i64 A) ∧ w.cell? ⟨G, 3, none⟩ = some (.int .i64 M) ∧ w.cell? ⟨G, 4, none⟩ = some (.int .i64 W) ∧ w.cell? ⟨G, 5, none⟩ = some (.int .i64 Q) ∧
    w.cell? ⟨G + 1, 0, none⟩ = some (.slice D n c) ∧ w.cell? ⟨G + 1, 1, none⟩ = some (.slice D' n' c') :=
  ⟨x.cfg.cell 0, x.cfg.cell 1, x.cfg.cell 2, x.cfg.cell 3, x.cfg.cell 4, x.cfg.cell 5, x.dsk.cells.1, x.dsk.cells.2⟩
theorem TBox.lt (x : TBox w G P T A M W Q D n c D' n' c' S C) : G < w.heap.size := x.cfg.lt
end

set_option maxRecDepth 100000 in
set_option maxHeartbeats 3200000 in
theorem tcheck_any (P T A M W Q : Int) (D : Option Addr) (n c : Nat) (D' : Option Addr) (n' c' : Nat) (S : List Sec) (C : List Pnd) (w : World) (hq : Dsk w D n c D' n' c' S C) (hs : SmallD S C) :
    Calls Try.prog 27 #[cfgV P T A M W Q, diskV D n c D' n' c'] w fun e w' => e = .returned (.int .i64 (tcE P T A M W Q S C)) ∧ Below w.heap.size w w' := by
  obtain ⟨x, hbel⟩ := TBox.new P T A M W Q hq
  obtain ⟨w1, hw1⟩ : ∃ x : World, x = (w.alloc (.cells #[.int .i64 P, .int .i64 T, .int .i64 A, .int .i64 M, .int .i64 W, .int .i64 Q] 27)).alloc (.cells #[.slice D n c, .slice D' n' c'] 37) := ⟨_, rfl⟩
  rw [← hw1] at x hbel
  have X := Lib.hid x
  have B := Lib.hid hbel
  have PS := Lib.hid (fun w' : World => psectors_any P T A M W Q w')
  have CK := Lib.hid (fun wx hx => dsk_does.check D n c D' n' c' S C wx hx hs)
  have hsl := hq.secs.len
  obtain ⟨c0, c1, c2, c3, c4, c5, d0, d1⟩ := x.cells
  clear hq hs x hbel
  unfold tcE
  by_cases h1 : mayC P T A M W Q
  · rw [show secN P T A M W Q = fE P T A from if_pos h1, show chkC P T A M W Q = 0 from if_pos h1] at PS
    obtain ⟨m, hm⟩ : ∃ m, m = fE P T A := ⟨_, rfl⟩
    rw [← hm] at PS
    by_cases h2 : mayD S C = true
    · rw [show chkD S C = 0 from if_pos h2] at CK
      by_cases h3 : (n : Int) = m
      · rw [if_pos (show mayT P T A M W Q S C from ⟨h1, h2, by rw [hsl, ← hm]; exact h3⟩)]
        have h4 : ((n : Int) == m) = true := beq_iff_eq.2 h3
        have h5 : ((n : Int) != m) = false := by rw [h3]; exact bne_self_eq_false _
        clear h1 h2 h3 hm hsl
        go_enter Try.func27, Try.ntmps27
        go_wp2_with fail
        rw [← hw1]
        clear hw1
        refine (PS.out _).mono ?_
        rintro e w2 ⟨rfl, hb⟩
        have B := Lib.hid (B.out.trans (hb.mono B.out.size))
        have X := Lib.hid (X.out.below hb)
        clear hb c0 c1 c2 c3 c4 c5 d0 d1
        obtain ⟨c0, c1, c2, c3, c4, c5, d0, d1⟩ := X.out.cells
        go_wp2_with fail
        refine (CK.out _ X.out.dsk.dsk).mono ?_
        rintro e w3 ⟨rfl, hb⟩
        have B := Lib.hid (B.out.trans (hb.mono B.out.size))
        have X := Lib.hid (X.out.below hb)
        clear hb c0 c1 c2 c3 c4 c5 d0 d1
        obtain ⟨c0, c1, c2, c3, c4, c5, d0, d1⟩ := X.out.cells
        go_wp2
        go_ret
        exact ⟨rfl, B.out⟩
      · rw [if_neg (fun h : mayT P T A M W Q S C => h3 (by rw [← hsl, hm]; exact h.2.2))]
        have h4 : ((n : Int) == m) = false := beq_eq_false_iff_ne.2 h3
        have h5 : ((n : Int) != m) = true := bne_iff_ne.2 h3
        clear h1 h2 h3 hm hsl
        go_enter Try.func27, Try.ntmps27
        go_wp2_with fail
        rw [← hw1]
        clear hw1
        refine (PS.out _).mono ?_
        rintro e w2 ⟨rfl, hb⟩
        have B := Lib.hid (B.out.trans (hb.mono B.out.size))
        have X := Lib.hid (X.out.below hb)
        clear hb c0 c1 c2 c3 c4 c5 d0 d1
        obtain ⟨c0, c1, c2, c3, c4, c5, d0, d1⟩ := X.out.cells
        go_wp2_with fail
        refine (CK.out _ X.out.dsk.dsk).mono ?_
        rintro e w3 ⟨rfl, hb⟩
        have B := Lib.hid (B.out.trans (hb.mono B.out.size))
        have X := Lib.hid (X.out.below hb)
        clear hb c0 c1 c2 c3 c4 c5 d0 d1
        obtain ⟨c0, c1, c2, c3, c4, c5, d0, d1⟩ := X.out.cells
        go_wp2
        go_ret
        exact ⟨rfl, B.out⟩
    · rw [show chkD S C = 8 from if_neg h2] at CK
      rw [if_neg (fun h : mayT P T A M W Q S C => h2 h.2.1)]
      clear h1 h2 hm hsl
      go_enter Try.func27, Try.ntmps27
      go_wp2_with fail
      rw [← hw1]
      clear hw1
      refine (PS.out _).mono ?_
      rintro e w2 ⟨rfl, hb⟩
      have B := Lib.hid (B.out.trans (hb.mono B.out.size))
      have X := Lib.hid (X.out.below hb)
      clear hb c0 c1 c2 c3 c4 c5 d0 d1
      obtain ⟨c0, c1, c2, c3, c4, c5, d0, d1⟩ := X.out.cells
      go_wp2_with fail
      refine (CK.out _ X.out.dsk.dsk).mono ?_
      rintro e w3 ⟨rfl, hb⟩
      have B := Lib.hid (B.out.trans (hb.mono B.out.size))
      clear hb c0 c1 c2 c3 c4 c5 d0 d1
      go_wp2
      go_ret
      exact ⟨rfl, B.out⟩
  · rw [show chkC P T A M W Q = 8 from if_neg h1] at PS
    rw [if_neg (fun h : mayT P T A M W Q S C => h1 h.1)]
    obtain ⟨m, hm⟩ : ∃ m, m = secN P T A M W Q := ⟨_, rfl⟩
    rw [← hm] at PS
    clear h1 hm hsl
    go_enter Try.func27, Try.ntmps27
    go_wp2_with fail
    rw [← hw1]
    clear hw1
    refine (PS.out _).mono ?_
    rintro e w2 ⟨rfl, hb⟩
    have B := Lib.hid (B.out.trans (hb.mono B.out.size))
    clear hb c0 c1 c2 c3 c4 c5 d0 d1
    go_wp2
    go_ret
    exact ⟨rfl, B.out⟩

end Go.Proofs.Ytiibmlbenamgcaa
