/- Layer 8: the program's Check, volumeOf, sector, track, Read. -/
import Derived.Test.YtnmlplfcdnakhaaTrkMath
import Derived.Test.YtnmlplfcdnakhaaPlP5
import Derived.Test.YtnmlplfcdnakhaaCrcG
import Derived.Deep.CutBlock
namespace Go.Proofs.Ytnmlplfcdnakhaa
open Go.RowKit
set_option linter.unusedVariables false

/-- A config in its box, and a disk in the next one. -/
structure TBox (w : World) (G : Nat) (P T A M W Q : Int) (D : Option Addr) (n c : Nat) (D' : Option Addr) (n' c' : Nat) (S : List Sec) (C : List Pnd) : Prop where
  cfg : Blk w G 74 [.int .i64 P, .int .i64 T, .int .i64 A, .int .i64 M, .int .i64 W, .int .i64 Q]
  dsk : DBox w (G + 1) D n c D' n' c' S C
section
variable {w w' : World} {G : Nat} {P T A M W Q : Int} {D D' : Option Addr} {n c n' c' : Nat} {S : List Sec} {C : List Pnd}
theorem TBox.below (x : TBox w G P T A M W Q D n c D' n' c' S C) (hb : Below w.heap.size w w') : TBox w' G P T A M W Q D n c D' n' c' S C := ⟨x.cfg.below hb x.cfg.lt, x.dsk.below hb⟩
theorem TBox.new (P T A M W Q : Int) (t : Dsk w D n c D' n' c' S C) :
    TBox ((w.alloc (.cells #[.int .i64 P, .int .i64 T, .int .i64 A, .int .i64 M, .int .i64 W, .int .i64 Q] 74)).alloc (.cells #[.slice D n c, .slice D' n' c'] 32)) w.heap.size P T A M W Q D n c D' n' c' S C ∧
    Below w.heap.size w ((w.alloc (.cells #[.int .i64 P, .int .i64 T, .int .i64 A, .int .i64 M, .int .i64 W, .int .i64 Q] 74)).alloc (.cells #[.slice D n c, .slice D' n' c'] 32)) := by
  obtain ⟨x, hb⟩ := box_cfg w P T A M W Q
  have y := DBox.new (t.below hb)
  rw [World.size_alloc] at y
  exact ⟨⟨x.grown (World.grownBy_alloc _ _ none) (by simp), y⟩, hb.alloc hb.size _⟩
theorem TBox.cells (x : TBox w G P T A M W Q D n c D' n' c' S C) : w.cell? ⟨G, 0, none⟩ = some (.int .i64 P) ∧ w.cell? ⟨G, 1, none⟩ = some (.int .i64 T) ∧ w.cell? ⟨G, 2, none⟩ = some (.int .i64 A) ∧ w.cell? ⟨G, 3, none⟩ = some (.int .i64 M) ∧ w.cell? ⟨G, 4, none⟩ = some (.int .i64 W) ∧ w.cell? ⟨G, 5, none⟩ = some (.int .i64 Q) ∧
    w.cell? ⟨G + 1, 0, none⟩ = some (.slice D n c) ∧ w.cell? ⟨G + 1, 1, none⟩ = some (.slice D' n' c') :=
  ⟨x.cfg.cell 0, x.cfg.cell 1, x.cfg.cell 2, x.cfg.cell 3, x.cfg.cell 4, x.cfg.cell 5, x.dsk.cells.1, x.dsk.cells.2⟩
theorem TBox.lt (x : TBox w G P T A M W Q D n c D' n' c' S C) : G < w.heap.size := x.cfg.lt
end

/-- A volume, as the program holds it. -/
abbrev volV (P T A M W Q : Int) (D : Option Addr) (n c : Nat) (D' : Option Addr) (n' c' : Nat) (p : Int) : Value :=
  .agg #[.int .i64 P, .int .i64 T, .int .i64 A, .int .i64 M, .int .i64 W, .int .i64 Q, .slice D n c, .slice D' n' c', .int .i64 p]

set_option maxRecDepth 100000 in
set_option maxHeartbeats 3200000 in
theorem tcheck_any (P T A M W Q : Int) (D : Option Addr) (n c : Nat) (D' : Option Addr) (n' c' : Nat) (S : List Sec) (C : List Pnd) (w : World) (hq : Dsk w D n c D' n' c' S C) (hs : SmallD S C) :
    Calls Try.prog 70 #[cfgV P T A M W Q, diskV D n c D' n' c'] w fun e w' => e = .returned (.int .i64 (tcE P T A M W Q S C)) ∧ Below w.heap.size w w' := by
  obtain ⟨x, hbel⟩ := TBox.new P T A M W Q hq
  obtain ⟨w1, hw1⟩ : ∃ x : World, x = (w.alloc (.cells #[.int .i64 P, .int .i64 T, .int .i64 A, .int .i64 M, .int .i64 W, .int .i64 Q] 74)).alloc (.cells #[.slice D n c, .slice D' n' c'] 32) := ⟨_, rfl⟩
  rw [← hw1] at x hbel
  have X := Lib.hid x
  have B := Lib.hid hbel
  have PS := Lib.hid (fun w' : World => psectors_any P T A M W Q w')
  have CK := Lib.hid (fun wx hx => dsk_does.check D n c D' n' c' S C wx hx hs)
  have hsl := hq.secs.len
  obtain ⟨c0, c1, c2, c3, c4, c5, d0, d1⟩ := x.cells
  clear hq hs x hbel
  unfold tcE
  by_cases h1 : mayC P T A M W Q
  · rw [show secN P T A M W Q = fE P T A from if_pos h1, show chkC P T A M W Q = 0 from if_pos h1] at PS
    obtain ⟨m, hm⟩ : ∃ m, m = fE P T A := ⟨_, rfl⟩
    rw [← hm] at PS
    by_cases h2 : mayD S C = true
    · rw [show chkD S C = 0 from if_pos h2] at CK
      by_cases h3 : (n : Int) = m
      · rw [if_pos (show mayT P T A M W Q S C from ⟨h1, h2, by rw [hsl, ← hm]; exact h3⟩)]
        have h4 : ((n : Int) == m) = true := beq_iff_eq.2 h3
        have h5 : ((n : Int) != m) = false := by rw [h3]; exact bne_self_eq_false _
        clear h1 h2 h3 hm hsl
        go_enter Try.func70, Try.ntmps70
        go_wp2_with fail
        rw [← hw1]
        clear hw1
        refine (PS.out _).mono ?_
        rintro e w2 ⟨rfl, hb⟩
        have B := Lib.hid (B.out.trans (hb.mono B.out.size))
        have X := Lib.hid (X.out.below hb)
        clear hb c0 c1 c2 c3 c4 c5 d0 d1
        obtain ⟨c0, c1, c2, c3, c4, c5, d0, d1⟩ := X.out.cells
        go_wp2_with fail
        refine (CK.out _ X.out.dsk.dsk).mono ?_
        rintro e w3 ⟨rfl, hb⟩
        have B := Lib.hid (B.out.trans (hb.mono B.out.size))
        have X := Lib.hid (X.out.below hb)
        clear hb c0 c1 c2 c3 c4 c5 d0 d1
        obtain ⟨c0, c1, c2, c3, c4, c5, d0, d1⟩ := X.out.cells
        go_wp2
        go_ret
        exact ⟨rfl, B.out⟩
      · rw [if_neg (fun h : mayT P T A M W Q S C => h3 (by rw [← hsl, hm]; exact h.2.2))]
        have h4 : ((n : Int) == m) = false := beq_eq_false_iff_ne.2 h3
        have h5 : ((n : Int) != m) = true := bne_iff_ne.2 h3
        clear h1 h2 h3 hm hsl
        go_enter Try.func70, Try.ntmps70
        go_wp2_with fail
        rw [← hw1]
        clear hw1
        refine (PS.out _).mono ?_
        rintro e w2 ⟨rfl, hb⟩
        have B := Lib.hid (B.out.trans (hb.mono B.out.size))
        have X := Lib.hid (X.out.below hb)
        clear hb c0 c1 c2 c3 c4 c5 d0 d1
        obtain ⟨c0, c1, c2, c3, c4, c5, d0, d1⟩ := X.out.cells
        go_wp2_with fail
        refine (CK.out _ X.out.dsk.dsk).mono ?_
        rintro e w3 ⟨rfl, hb⟩
        have B := Lib.hid (B.out.trans (hb.mono B.out.size))
        have X := Lib.hid (X.out.below hb)
        clear hb c0 c1 c2 c3 c4 c5 d0 d1
        obtain ⟨c0, c1, c2, c3, c4, c5, d0, d1⟩ := X.out.cells
        go_wp2
        go_ret
        exact ⟨rfl, B.out⟩
    · rw [show chkD S C = 8 from if_neg h2] at CK
      rw [if_neg (fun h : mayT P T A M W Q S C => h2 h.2.1)]
      clear h1 h2 hm hsl
      go_enter Try.func70, Try.ntmps70
      go_wp2_with fail
      rw [← hw1]
      clear hw1
      refine (PS.out _).mono ?_
      rintro e w2 ⟨rfl, hb⟩
      have B := Lib.hid (B.out.trans (hb.mono B.out.size))
      have X := Lib.hid (X.out.below hb)
      clear hb c0 c1 c2 c3 c4 c5 d0 d1
      obtain ⟨c0, c1, c2, c3, c4, c5, d0, d1⟩ := X.out.cells
      go_wp2_with fail
      refine (CK.out _ X.out.dsk.dsk).mono ?_
      rintro e w3 ⟨rfl, hb⟩
      have B := Lib.hid (B.out.trans (hb.mono B.out.size))
      clear hb c0 c1 c2 c3 c4 c5 d0 d1
      go_wp2
      go_ret
      exact ⟨rfl, B.out⟩
  · rw [show chkC P T A M W Q = 8 from if_neg h1] at PS
    rw [if_neg (fun h : mayT P T A M W Q S C => h1 h.1)]
    obtain ⟨m, hm⟩ : ∃ m, m = secN P T A M W Q := ⟨_, rfl⟩
    rw [← hm] at PS
    clear h1 hm hsl
    go_enter Try.func70, Try.ntmps70
    go_wp2_with fail
    rw [← hw1]
    clear hw1
    refine (PS.out _).mono ?_
    rintro e w2 ⟨rfl, hb⟩
    have B := Lib.hid (B.out.trans (hb.mono B.out.size))
    clear hb c0 c1 c2 c3 c4 c5 d0 d1
    go_wp2
    go_ret
    exact ⟨rfl, B.out⟩

/-- A box of nine cells. -/
theorem Blk.vol {w : World} {g : Nat} {t : TypeId} {v0 v1 v2 v3 v4 v5 v6 v7 v8 : Value} (h : Blk w g t [v0, v1, v2, v3, v4, v5, v6, v7, v8]) :
    w.cell? ⟨g, 0, none⟩ = some v0 ∧ w.cell? ⟨g, 1, none⟩ = some v1 ∧ w.cell? ⟨g, 2, none⟩ = some v2 ∧ w.cell? ⟨g, 3, none⟩ = some v3 ∧ w.cell? ⟨g, 4, none⟩ = some v4 ∧ w.cell? ⟨g, 5, none⟩ = some v5 ∧ w.cell? ⟨g, 6, none⟩ = some v6 ∧ w.cell? ⟨g, 7, none⟩ = some v7 ∧ w.cell? ⟨g, 8, none⟩ = some v8 :=
  ⟨h.cell 0, h.cell 1, h.cell 2, h.cell 3, h.cell 4, h.cell 5, h.cell 6, h.cell 7, h.cell 8⟩
/-- A volume in its box. -/
structure VBox (w : World) (G : Nat) (P T A M W Q : Int) (D : Option Addr) (n c : Nat) (D' : Option Addr) (n' c' : Nat) (p : Int) (S : List Sec) (C : List Pnd) : Prop where
  blk : Blk w G 169 [.int .i64 P, .int .i64 T, .int .i64 A, .int .i64 M, .int .i64 W, .int .i64 Q, .slice D n c, .slice D' n' c', .int .i64 p]
  dsk : Dsk w D n c D' n' c' S C
section
variable {w w' : World} {G : Nat} {P T A M W Q p : Int} {D D' : Option Addr} {n c n' c' : Nat} {S : List Sec} {C : List Pnd}
theorem VBox.below (x : VBox w G P T A M W Q D n c D' n' c' p S C) (hb : Below w.heap.size w w') : VBox w' G P T A M W Q D n c D' n' c' p S C := ⟨x.blk.below hb x.blk.lt, x.dsk.below hb⟩
theorem VBox.new (P T A M W Q p : Int) (t : Dsk w D n c D' n' c' S C) :
    VBox (w.alloc (.cells #[.int .i64 P, .int .i64 T, .int .i64 A, .int .i64 M, .int .i64 W, .int .i64 Q, .slice D n c, .slice D' n' c', .int .i64 p] 169)) w.heap.size P T A M W Q D n c D' n' c' p S C :=
  ⟨Blk.new w 169 [.int .i64 P, .int .i64 T, .int .i64 A, .int .i64 M, .int .i64 W, .int .i64 Q, .slice D n c, .slice D' n' c', .int .i64 p], t.below ((Below.refl _ _).alloc (Nat.le_refl _) _)⟩
end

def saE (P T p n : Int) : Int := if isT P T p n then 0 else 80
def saN (P T A p n : Int) : Int := if isT P T p n then atT P T A p n else 0
set_option maxRecDepth 100000 in
set_option maxHeartbeats 3200000 in
theorem vsec_any (P T A M W Q : Int) (D : Option Addr) (n c : Nat) (D' : Option Addr) (n' c' : Nat) (p k : Int) (w : World) (hm : mayC P T A M W Q) :
    Calls Try.prog 150 #[volV P T A M W Q D n c D' n' c' p, .int .i64 k] w fun e w' => e = .returned (.tuple #[.int .i64 (saN P T A p k), .int .i64 (saE P T p k)]) ∧ Below w.heap.size w w' := by
  have x := Blk.new w 169 [.int .i64 P, .int .i64 T, .int .i64 A, .int .i64 M, .int .i64 W, .int .i64 Q, .slice D n c, .slice D' n' c', .int .i64 p]
  have hbel : Below w.heap.size w (w.alloc (.cells #[.int .i64 P, .int .i64 T, .int .i64 A, .int .i64 M, .int .i64 W, .int .i64 Q, .slice D n c, .slice D' n' c', .int .i64 p] 169)) := (Below.refl _ _).alloc (Nat.le_refl _) _
  obtain ⟨c0, c1, c2, c3, c4, c5, c6, c7, c8⟩ := x.vol
  have B := Lib.hid hbel
  have TR := Lib.hid (fun w' : World => ptrack_any P T A M W Q p k w')
  unfold saN saE
  by_cases hi : isT P T p k
  · rw [show traN P T A M W Q p k = atT P T A p k from (if_pos hm).trans (if_pos hi), show traE P T A M W Q p k = 0 from (if_pos hm).trans (if_pos hi)] at TR
    rw [if_pos hi, if_pos hi]
    obtain ⟨a, ha⟩ : ∃ a, a = atT P T A p k := ⟨_, rfl⟩
    rw [← ha] at TR ⊢
    clear x hbel hm hi ha
    go_enter Try.func150, Try.ntmps150
    go_wp2_with fail
    refine (TR.out _).mono ?_
    rintro e w2 ⟨rfl, hb⟩
    have B := Lib.hid (B.out.trans (hb.mono B.out.size))
    clear hb c0 c1 c2 c3 c4 c5 c6 c7 c8
    go_wp2
    go_ret2
    exact ⟨rfl, B.out⟩
  · rw [show traN P T A M W Q p k = 0 from (if_pos hm).trans (if_neg hi), show traE P T A M W Q p k = 2 from (if_pos hm).trans (if_neg hi)] at TR
    rw [if_neg hi, if_neg hi]
    clear x hbel hm hi
    go_enter Try.func150, Try.ntmps150
    go_wp2_with fail
    refine (TR.out _).mono ?_
    rintro e w2 ⟨rfl, hb⟩
    have B := Lib.hid (B.out.trans (hb.mono B.out.size))
    clear hb c0 c1 c2 c3 c4 c5 c6 c7 c8
    go_wp2
    go_ret2
    exact ⟨rfl, B.out⟩

end Go.Proofs.Ytnmlplfcdnakhaa
