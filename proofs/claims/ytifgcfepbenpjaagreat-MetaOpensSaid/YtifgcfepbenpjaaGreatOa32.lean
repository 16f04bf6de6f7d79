/- Texts of layers 1 to 12, joined (TrkP SupP RecM MetRun). -/
import Derived.Test.YtifgcfepbenpjaaGreatOa22
import Derived.Test.YtifgcfepbenpjaaGreatOa31
import Derived.Deep.CutBlock
import Derived.Laws.StructEq
import Derived.Maps.RangeWalk
set_option maxRecDepth 100000
set_option maxHeartbeats 12800000
namespace Go.Proofs.YtifgcfepbenpjaaGreat
open Go.RowKit
set_option linter.unusedVariables false
structure TBox (w : World) (G : Nat) (P T A M W Q : Int) (D : Option Addr) (n c : Nat) (D' : Option Addr) (n' c' : Nat) (S : List Sec) (C : List Pnd) : Prop where
 cfg : Blk w G 36 [.int .i64 P, .int .i64 T, .int .i64 A, .int .i64 M, .int .i64 W, .int .i64 Q]
 dsk : DBox w (G + 1) D n c D' n' c' S C
section
variable {w w' : World} {G : Nat} {P T A M W Q : Int} {D D' : Option Addr} {n c n' c' : Nat} {S : List Sec} {C : List Pnd}
theorem TBox.below (x : TBox w G P T A M W Q D n c D' n' c' S C) (hb : Below w.heap.size w w') : TBox w' G P T A M W Q D n c D' n' c' S C := ⟨x.cfg.below hb x.cfg.lt, x.dsk.below hb⟩
theorem TBox.new (P T A M W Q : Int) (t : Dsk w D n c D' n' c' S C) :
  TBox ((w.alloc (.cells #[.int .i64 P, .int .i64 T, .int .i64 A, .int .i64 M, .int .i64 W, .int .i64 Q] 36)).alloc (.cells #[.slice D n c, .slice D' n' c'] 25)) w.heap.size P T A M W Q D n c D' n' c' S C ∧
  Below w.heap.size w ((w.alloc (.cells #[.int .i64 P, .int .i64 T, .int .i64 A, .int .i64 M, .int .i64 W, .int .i64 Q] 36)).alloc (.cells #[.slice D n c, .slice D' n' c'] 25)) := by
 obtain ⟨x, hb⟩ := box_cfg w P T A M W Q
 have y := DBox.new (t.below hb)
 rw [World.size_alloc] at y
 exact ⟨⟨x.grown (World.grownBy_alloc _ _ none) (by simp), y⟩, hb.alloc hb.size _⟩
theorem TBox.cells (x : TBox w G P T A M W Q D n c D' n' c' S C) : w.cell? ⟨G, 0, none⟩ = some (.int .i64 P) ∧ w.cell? ⟨G, 1, none⟩ = some (.int .i64 T) ∧ w.cell? ⟨G, 2, none⟩ = some (.int .i64 A) ∧ w.cell? ⟨G, 3, none⟩ = some (.int .i64 M) ∧ w.cell? ⟨G, 4, none⟩ = some (.int .i64 W) ∧ w.cell? ⟨G, 5, none⟩ = some (.int .i64 Q) ∧
  w.cell? ⟨G + 1, 0, none⟩ = some (.slice D n c) ∧ w.cell? ⟨G + 1, 1, none⟩ = some (.slice D' n' c') :=
 ⟨x.cfg.cell 0, x.cfg.cell 1, x.cfg.cell 2, x.cfg.cell 3, x.cfg.cell 4, x.cfg.cell 5, x.dsk.cells.1, x.dsk.cells.2⟩
end
theorem tcheck_any (P T A M W Q : Int) (D : Option Addr) (n c : Nat) (D' : Option Addr) (n' c' : Nat) (S : List Sec) (C : List Pnd) (w : World) (hq : Dsk w D n c D' n' c' S C) (hs : SmallD S C) :
  Calls Tryz.prog 66 #[cfgV P T A M W Q, diskV D n c D' n' c'] w fun e w' => e = .returned (.int .i64 (tcE P T A M W Q S C)) ∧ Below w.heap.size w w' := by
 obtain ⟨x, hbel⟩ := TBox.new P T A M W Q hq
 obtain ⟨w1, hw1⟩ : ∃ x : World, x = (w.alloc (.cells #[.int .i64 P, .int .i64 T, .int .i64 A, .int .i64 M, .int .i64 W, .int .i64 Q] 36)).alloc (.cells #[.slice D n c, .slice D' n' c'] 25) := ⟨_, rfl⟩
 rw [← hw1] at x hbel
 have X := Lh x
 have B := Lh hbel
 have PS := Lh (fun w' : World => psectors_any P T A M W Q w')
 have CK := Lh (fun wx hx => dsk_does.check D n c D' n' c' S C wx hx hs)
 have hsl := hq.secs.len
 obtain ⟨c0, c1, c2, c3, c4, c5, d0, d1⟩ := x.cells
 clear hq hs x hbel
 unfold tcE
 by_cases h1 : mayC P T A M W Q
 ·rw [show secN P T A M W Q = fE P T A from if_pos h1, show chkC P T A M W Q = 0 from if_pos h1] at PS
  obtain ⟨m, hm⟩ : ∃ m, m = fE P T A := ⟨_, rfl⟩
  rw [← hm] at PS
  by_cases h2 : mayD S C = true
  ·rw [show chkD S C = 0 from if_pos h2] at CK
   by_cases h3 : (n : Int) = m
   ·rw [if_pos (show mayT P T A M W Q S C from ⟨h1, h2, by rw [hsl, ← hm]; exact h3⟩)]
    have h4 : ((n : Int) == m) = true := beq_iff_eq.2 h3
    have h5 : ((n : Int) != m) = false := by rw [h3]; exact bne_self_eq_false _
    clear h1 h2 h3 hm hsl
    go_enter Tryz.func66, Tryz.ntmps66
    go_wp2_with fail
    rw [← hw1]
    clear hw1
    refine (PS.out _).mono ?_
    rintro e w2 ⟨rfl, hb⟩
    have B := Lh (B.out.trans (hb.mono B.out.size))
    have X := Lh (X.out.below hb)
    clear hb c0 c1 c2 c3 c4 c5 d0 d1
    obtain ⟨c0, c1, c2, c3, c4, c5, d0, d1⟩ := X.out.cells
    go_wp2_with fail
    refine (CK.out _ X.out.dsk.dsk).mono ?_
    rintro e w3 ⟨rfl, hb⟩
    have B := Lh (B.out.trans (hb.mono B.out.size))
    have X := Lh (X.out.below hb)
    clear hb c0 c1 c2 c3 c4 c5 d0 d1
    obtain ⟨c0, c1, c2, c3, c4, c5, d0, d1⟩ := X.out.cells
    go_wp2
    go_ret
    exact ⟨rfl, B.out⟩
   ·rw [if_neg (fun h : mayT P T A M W Q S C => h3 (by rw [← hsl, hm]; exact h.2.2))]
    have h4 : ((n : Int) == m) = false := beq_eq_false_iff_ne.2 h3
    have h5 : ((n : Int) != m) = true := bne_iff_ne.2 h3
    clear h1 h2 h3 hm hsl
    go_enter Tryz.func66, Tryz.ntmps66
    go_wp2_with fail
    rw [← hw1]
    clear hw1
    refine (PS.out _).mono ?_
    rintro e w2 ⟨rfl, hb⟩
    have B := Lh (B.out.trans (hb.mono B.out.size))
    have X := Lh (X.out.below hb)
    clear hb c0 c1 c2 c3 c4 c5 d0 d1
    obtain ⟨c0, c1, c2, c3, c4, c5, d0, d1⟩ := X.out.cells
    go_wp2_with fail
    refine (CK.out _ X.out.dsk.dsk).mono ?_
    rintro e w3 ⟨rfl, hb⟩
    have B := Lh (B.out.trans (hb.mono B.out.size))
    have X := Lh (X.out.below hb)
    clear hb c0 c1 c2 c3 c4 c5 d0 d1
    obtain ⟨c0, c1, c2, c3, c4, c5, d0, d1⟩ := X.out.cells
    go_wp2
    go_ret
    exact ⟨rfl, B.out⟩
  ·rw [show chkD S C = 8 from if_neg h2] at CK
   rw [if_neg (fun h : mayT P T A M W Q S C => h2 h.2.1)]
   clear h1 h2 hm hsl
   go_enter Tryz.func66, Tryz.ntmps66
   go_wp2_with fail
   rw [← hw1]
   clear hw1
   refine (PS.out _).mono ?_
   rintro e w2 ⟨rfl, hb⟩
   have B := Lh (B.out.trans (hb.mono B.out.size))
   have X := Lh (X.out.below hb)
   clear hb c0 c1 c2 c3 c4 c5 d0 d1
   obtain ⟨c0, c1, c2, c3, c4, c5, d0, d1⟩ := X.out.cells
   go_wp2_with fail
   refine (CK.out _ X.out.dsk.dsk).mono ?_
   rintro e w3 ⟨rfl, hb⟩
   have B := Lh (B.out.trans (hb.mono B.out.size))
   clear hb c0 c1 c2 c3 c4 c5 d0 d1
   go_wp2
   go_ret
   exact ⟨rfl, B.out⟩
 ·rw [show chkC P T A M W Q = 8 from if_neg h1] at PS
  rw [if_neg (fun h : mayT P T A M W Q S C => h1 h.1)]
  obtain ⟨m, hm⟩ : ∃ m, m = secN P T A M W Q := ⟨_, rfl⟩
  rw [← hm] at PS
  clear h1 hm hsl
  go_enter Tryz.func66, Tryz.ntmps66
  go_wp2_with fail
  rw [← hw1]
  clear hw1
  refine (PS.out _).mono ?_
  rintro e w2 ⟨rfl, hb⟩
  have B := Lh (B.out.trans (hb.mono B.out.size))
  clear hb c0 c1 c2 c3 c4 c5 d0 d1
  go_wp2
  go_ret
  exact ⟨rfl, B.out⟩
end Go.Proofs.YtifgcfepbenpjaaGreat
namespace Go.Proofs.YtifgcfepbenpjaaGreat
open Go.RowKit Go.OpenShut Go.ChangeShapes Go.WideShapes Go.Deep Go.Joins
set_option linter.unusedVariables false
abbrev supV (v a g : Int) : Value := .agg #[.int .u32 v, .int .i64 a, .int .u64 g]
abbrev supL (v a g : Int) : List Value := [.int .u32 v, .int .i64 a, .int .u64 g]
theorem eq_sup (a b c a' b' c' : Int) (w : World) : (Op.equalIn 10000 29 (supV a b c) (supV a' b' c')).run Tryz.prog w = .ok (a == a' && b == b' && c == c') w := by
 have u1 := Tryz.underlying26
 have u2 := Tryz.underlying3
 have u3 := Tryz.underlying27
 have hS : Tryz.prog.underlying 29 = some (.struct (Tryz.prog.fieldsOf 29)) := by kernel_rfl
 have hp : Tryz.prog.stoodInHeld 29 = false := by kernel_rfl
 rw [show (10000 : Nat) = 9999 + 1 from rfl, run_equalIn_agg w 9999 29 _ _ hS hp]
 simp only [Program.fieldsOf, Tryz.underlying29]
 go_simp
 by_cases h1 : a = a' <;> by_cases h2 : b = b' <;> by_cases h3 : c = c' <;> simp [h1, h2, h3]
structure SBox (w : World) (G : Nat) (P T A M W Q : Int) (D : Option Addr) (n c : Nat) (D' : Option Addr) (n' c' : Nat) (S : List Sec) (C : List Pnd) (v a g : Int) : Prop where
 two : TBox w G P T A M W Q D n c D' n' c' S C
 sup : Blk w (G + 2) 29 (supL v a g)
section
variable {w w' : World} {G : Nat} {P T A M W Q v a g : Int} {D D' : Option Addr} {n c n' c' : Nat} {S : List Sec} {C : List Pnd}
theorem SBox.below (x : SBox w G P T A M W Q D n c D' n' c' S C v a g) (hb : Below w.heap.size w w') : SBox w' G P T A M W Q D n c D' n' c' S C v a g := ⟨x.two.below hb, x.sup.below hb x.sup.lt⟩
theorem SBox.new (P T A M W Q v a g : Int) (t : Dsk w D n c D' n' c' S C) : SBox (((w.alloc (.cells #[.int .i64 P, .int .i64 T, .int .i64 A, .int .i64 M, .int .i64 W, .int .i64 Q] 36)).alloc (.cells #[.slice D n c, .slice D' n' c'] 25)).alloc (.cells #[.int .u32 v, .int .i64 a, .int .u64 g] 29)) w.heap.size P T A M W Q D n c D' n' c' S C v a g ∧ Below w.heap.size w (((w.alloc (.cells #[.int .i64 P, .int .i64 T, .int .i64 A, .int .i64 M, .int .i64 W, .int .i64 Q] 36)).alloc (.cells #[.slice D n c, .slice D' n' c'] 25)).alloc (.cells #[.int .u32 v, .int .i64 a, .int .u64 g] 29)) := by
 obtain ⟨x, hb⟩ := TBox.new P T A M W Q t
 have hk := (Below.refl ((w.alloc (.cells #[.int .i64 P, .int .i64 T, .int .i64 A, .int .i64 M, .int .i64 W, .int .i64 Q] 36)).alloc (.cells #[.slice D n c, .slice D' n' c'] 25)).heap.size _).alloc (Nat.le_refl _) (.cells #[.int .u32 v, .int .i64 a, .int .u64 g] 29)
 have y := Blk.new ((w.alloc (.cells #[.int .i64 P, .int .i64 T, .int .i64 A, .int .i64 M, .int .i64 W, .int .i64 Q] 36)).alloc (.cells #[.slice D n c, .slice D' n' c'] 25)) 29 [.int .u32 v, .int .i64 a, .int .u64 g]
 rw [World.size_alloc, World.size_alloc] at y
 exact ⟨⟨x.below hk, y⟩, hb.alloc hb.size _⟩
theorem SBox.cells (x : SBox w G P T A M W Q D n c D' n' c' S C v a g) : w.cell? ⟨G, 0, none⟩ = some (.int .i64 P) ∧ w.cell? ⟨G, 1, none⟩ = some (.int .i64 T) ∧ w.cell? ⟨G, 2, none⟩ = some (.int .i64 A) ∧ w.cell? ⟨G, 3, none⟩ = some (.int .i64 M) ∧ w.cell? ⟨G, 4, none⟩ = some (.int .i64 W) ∧ w.cell? ⟨G, 5, none⟩ = some (.int .i64 Q) ∧
  w.cell? ⟨G + 1, 0, none⟩ = some (.slice D n c) ∧ w.cell? ⟨G + 1, 1, none⟩ = some (.slice D' n' c') ∧ w.cell? ⟨G + 2, 0, none⟩ = some (.int .u32 v) ∧ w.cell? ⟨G + 2, 1, none⟩ = some (.int .i64 a) ∧ w.cell? ⟨G + 2, 2, none⟩ = some (.int .u64 g) := by
 obtain ⟨c0, c1, c2, c3, c4, c5, d0, d1⟩ := x.two.cells
 exact ⟨c0, c1, c2, c3, c4, c5, d0, d1, x.sup.cell 0, x.sup.cell 1, x.sup.cell 2⟩
end
theorem Blk.tri {w : World} {g : Nat} {t : TypeId} {a b c : Value} (h : Blk w g t [a, b, c]) : w.cell? ⟨g, 0, none⟩ = some a ∧ w.cell? ⟨g, 1, none⟩ = some b ∧ w.cell? ⟨g, 2, none⟩ = some c := ⟨h.cell 0, h.cell 1, h.cell 2⟩
theorem ssizes_any (w : World) : Calls Tryz.prog 124 #[] w fun e w' => ∃ g, e = .returned (.slice (some ⟨g, 0, none⟩) 3 3) ∧ Arg w' .i64 (some ⟨g, 0, none⟩) 3 3 sz3 ∧ Below w.heap.size w w' := by
 have hml : 3 ≤ maxLen := by decide
 have HA := Lh (show Arg (w.alloc (.cells #[.int .i64 4, .int .i64 1, .int .i64 8] 3)) .i64 (some ⟨w.heap.size, 0, none⟩) 3 3 sz3 from ⟨lit_row w 3 .i64 sz3 _ _ _ rfl rfl (by simp), rfl, Nat.le_refl _, hml⟩)
 go_enter Tryz.func124, Tryz.ntmps124
 go_wp2
 go_ret
 exact ⟨_, rfl, HA.out, (Below.refl _ _).alloc (Nat.le_refl _) _⟩
theorem nums_sup (w : World) (v a g : Int) (b B : Nat) (hb : b = w.heap.size) (hB : w.heap.size < B) : Seq (w.alloc (.cells #[.int .u64 v, .int .u64 a, .int .u64 g] 27)) B (some ⟨b, 0, none⟩) (ints .u64 [v, a, g]) := lit_row w 27 .u64 [v, a, g] _ _ _ rfl hb hB
theorem srow_any (v a g : Int) (hs : isS (v, a, g)) (ha : arS a) (w : World) :
  Calls Tryz.prog 156 #[supV v a g] w fun e w' => ∃ A c, e = .returned (.slice A 13 c) ∧ w'.ownsRow w.heap.size 5 1 (.slice A 13 c) 13 (ints .u8 (suT (v, a, g))) ∧ Below w.heap.size w w' := by
 have x := Blk.new w 29 [.int .u32 v, .int .i64 a, .int .u64 g]
 have hbel : Below w.heap.size w (w.alloc (.cells #[.int .u32 v, .int .i64 a, .int .u64 g] 29)) := (Below.refl _ _).alloc (Nat.le_refl _) _
 obtain ⟨⟨hv0, hv1⟩, hg0, hg1⟩ := hs
 dsimp only at hv0 hv1 hg0 hg1
 have ha1 : 0 ≤ a ∧ a < 256 := by unfold arS at ha; omega
 have FT := Lh (show fitsTo [v, a, g] sz3 sz3.length = true from fits3 (s := (v, a, g)) ⟨⟨hv0, hv1⟩, hg0, hg1⟩ ha1)
 have W1 := Lh (show ∀ z ∈ [v, a, g], isWord z by
  intro z hz
  simp only [List.mem_cons, List.not_mem_nil, or_false] at hz
  unfold isWord
  rcases hz with rfl | rfl | rfl <;> omega)
 have X := Lh x
 have BL := Lh hbel
 have e1 : IntKind.u64.wrap v = v := wraps_u64 v hv0 (by omega)
 have e2 : IntKind.u64.wrap a = a := wraps_u64 a ha1.1 (by omega)
 clear x hbel hv0 hv1 hg0 hg1 ha1 ha
 go_enter Tryz.func156, Tryz.ntmps156
 go_upto_region 1 with fail
 obtain ⟨v1, hW⟩ : ∃ x : World, x = w.alloc (.cells #[.int .u32 v, .int .i64 a, .int .u64 g] 29) := ⟨_, rfl⟩
 rw [← hW] at X BL ⊢
 have hlt : w.heap.size < v1.heap.size := X.out.lt
 clear hW
 have hcur : Below v1.heap.size v1 v1.drew := below_drewN (Below.refl _ _) 1
 have keepX : ∀ wx, Below v1.heap.size v1 wx → wx.cell? ⟨w.heap.size, 0, none⟩ = some (.int .u32 v) ∧ wx.cell? ⟨w.heap.size, 1, none⟩ = some (.int .i64 a) ∧ wx.cell? ⟨w.heap.size, 2, none⟩ = some (.int .u64 g) := fun wx hx => (X.out.below hx hlt).tri
 have hkX := keepX _ hcur
 go_region_held3 (fun w' => w'.cell? ⟨w.heap.size, 0, none⟩ = some (.int .u32 v) ∧ w'.cell? ⟨w.heap.size, 1, none⟩ = some (.int .i64 a) ∧ w'.cell? ⟨w.heap.size, 2, none⟩ = some (.int .u64 g))
  (first | exact hkX | exact keepX _ (hcur.alloc hcur.size _) | exact keepX _ (below_drewN ((Below.refl _ _).alloc (Nat.le_refl _) _) 1) | go_keep)
  (first
   | (go_at_call 124; with_reducible refine (ssizes_any v1.drew).mono ?_; rintro e wS ⟨gS, rfl, hAS, hbS⟩; have hcur := hcur.trans (hbS.mono hcur.size); have hkX := keepX _ hcur)
   | (go_at_call 124; have hL := nums_sup v1 v a g v1.heap.size (v1.heap.size + 1) rfl (Nat.lt_succ_self _); have hcur : Below v1.heap.size v1 (v1.alloc (.cells #[.int .u64 v, .int .u64 a, .int .u64 g] 27)).drew := below_drewN ((Below.refl _ _).alloc (Nat.le_refl _) _) 1; have hL : Seq (v1.alloc (.cells #[.int .u64 v, .int .u64 a, .int .u64 g] 27)).drew (v1.heap.size + 1) (some ⟨v1.heap.size, 0, none⟩) (ints .u64 [v, a, g]) := hL.keep fun _ _ => rfl; with_reducible refine (ssizes_any _).mono ?_; rintro e wS ⟨gS, rfl, hAS, hbS⟩; have hL := (hL.below (hbS.mono (by simp))).more (B' := wS.heap.size) (Nat.le_trans (by simp) hbS.size); have hcur := hcur.trans (hbS.mono hcur.size); have hkX := keepX _ hcur)
   | (go_at_call 74; with_reducible refine (write_ok (some ⟨v1.heap.size, 0, none⟩) (some ⟨gS, 0, none⟩) 3 3 3 3 [v, a, g] sz3 _ hAS.seq rfl okB_sz3 hL rfl rfl W1.out).mono ?_; intro e w2 hout; have hM := hcur.size; obtain ⟨A2, c2, rfl, hown, hb⟩ := (WroteOut.yes hout FT.out).len (zs' := suT (v, a, g)) (n := 13) rfl (suT_length _); have hcur := hcur.trans (hb.mono hcur.size); have hkX := keepX _ hcur)
   | (go_at_call 74; have hL := nums_sup wS v a g wS.heap.size (wS.heap.size + 1) rfl (Nat.lt_succ_self _); have hL := hL.more (B' := (wS.alloc (.cells #[.int .u64 v, .int .u64 a, .int .u64 g] 27)).heap.size) (by simp); have hAS := hAS.below ((Below.refl wS.heap.size wS).alloc (Nat.le_refl _) (.cells #[.int .u64 v, .int .u64 a, .int .u64 g] 27)); have hcur := hcur.alloc hcur.size (.cells #[.int .u64 v, .int .u64 a, .int .u64 g] 27); with_reducible refine (write_ok (some ⟨wS.heap.size, 0, none⟩) (some ⟨gS, 0, none⟩) 3 3 3 3 [v, a, g] sz3 _ hAS.seq rfl okB_sz3 hL rfl rfl W1.out).mono ?_; intro e w2 hout; have hM := hcur.size; obtain ⟨A2, c2, rfl, hown, hb⟩ := (WroteOut.yes hout FT.out).len (zs' := suT (v, a, g)) (n := 13) rfl (suT_length _); have hcur := hcur.trans (hb.mono hcur.size); have hkX := keepX _ hcur))
 all_goals (
  have hfin := BL.out.trans (hcur.mono BL.out.size)
  have hown := hown
  go_wp2
  go_ret
  exact ⟨A2, c2, rfl, owns_base hown (Nat.le_trans BL.out.size hM), hfin⟩)
theorem maybe_any (v a g : Int) (w : World) : Calls Tryz.prog 125 #[supV v a g] w fun e w' => e = .returned (.bool (decide (arS a))) ∧ Below w.heap.size w w' := by
 have x := Blk.new w 29 [.int .u32 v, .int .i64 a, .int .u64 g]
 have hbel : Below w.heap.size w (w.alloc (.cells #[.int .u32 v, .int .i64 a, .int .u64 g] 29)) := (Below.refl _ _).alloc (Nat.le_refl _) _
 obtain ⟨c0, c1, c2⟩ := x.tri
 have B := Lh hbel
 have ev : (v == v) = true := beq_self_eq_true _
 have eg : (g == g) = true := beq_self_eq_true _
 have EQ := fun (k : Int) (wx : World) => eq_sup v a g v k g wx
 obtain ⟨r, hr⟩ : ∃ r, r = decide (arS a) := ⟨_, rfl⟩
 rw [← hr]
 have HR := Lh hr
 clear x hbel hr
 go_enter Tryz.func125, Tryz.ntmps125
 go_wp2
 go_loop [4, 3] (fun i _ => ∃ k : Nat, k ≤ 2 ∧ i = .int .i64 k ∧ ∀ j : Nat, j < k → a ≠ (j : Int)) (fun i _ => 2 - (intOf i).toNat)
 case atStart => exact ⟨0, Nat.zero_le _, rfl, fun j h => absurd h (Nat.not_lt_zero _)⟩
 case round =>
  obtain ⟨k, hk, rfl, hn⟩ := hrel
  have HN := Lh hn
  clear hn
  by_cases hkm : k < 2
  ·have hki : (k : Int) < 2 := by omega
   by_cases hak : a = (k : Int)
   ·have hb1 : (a == (k : Int)) = true := beq_iff_eq.2 hak
    have hd : r = true := HR.out.trans (decide_eq_true (by unfold arS; omega))
    subst hd
    clear hak
    go_wp2
    go_ret
    exact ⟨rfl, B.out⟩
   ·have hb1 : (a == (k : Int)) = false := beq_eq_false_iff_ne.2 hak
    have HAK := Lh hak
    clear hak
    go_wp2
    go_round
    case rel =>
     refine ⟨k + 1, by omega, by go_num, fun j hj => ?_⟩
     by_cases e : j = k
     ·rw [e]; exact HAK.out
     ·exact HN.out j (by omega)
    case measure => simp [intOf]; omega
  ·obtain rfl : k = 2 := by omega
   have hd : r = false := HR.out.trans (decide_eq_false (by
    have h0 := HN.out 0 (by omega)
    have h1 := HN.out 1 (by omega)
    unfold arS
    omega))
   subst hd
   go_wp2
   go_ret
   exact ⟨rfl, B.out⟩
end Go.Proofs.YtifgcfepbenpjaaGreat
namespace Go.Proofs.YtifgcfepbenpjaaGreat
open Go.RowKit Go.Maps
set_option linter.unusedVariables false
def recD (r : Rc) : DataW Unit := .agg [.lit (.int .i64 r.p), .lit (.int .u32 r.b), .lit (.int .u32 r.e), .lit (.int .i64 r.l), .lit (.int .u8 r.h), .lit (.int .i64 r.f), .lit (.bool r.q), .lit (.bool r.a)]
theorem recD_inj {r s : Rc} (h : recD r = recD s) : r = s := by
 unfold recD at h
 simp only [DataW.agg.injEq, List.cons.injEq, DataW.lit.injEq, Lit.int.injEq, Lit.bool.injEq, true_and, and_true] at h
 rw [Rc.eq_iff]
 exact h
theorem recV_inj {r s : Rc} (h : recV r = recV s) : r = s := by
 simp only [Value.agg.injEq, Array.mk.injEq, List.cons.injEq, Value.int.injEq, Value.bool.injEq, true_and, and_true] at h
 rw [Rc.eq_iff]
 exact h
open Classical in
noncomputable def recElem (v : Value) : Option (DataW Unit × List MemPlace) := if h : ∃ r, v = recV r ∧ isR r then some (recD h.choose, []) else none
theorem recElem_rec {r : Rc} (hr : isR r) : recElem (recV r) = some (recD r, []) := by
 have h : ∃ s, recV r = recV s ∧ isR s := ⟨r, rfl, hr⟩
 unfold recElem
 rw [dif_pos h]
 have e := recV_inj h.choose_spec.1
 rw [← e]
theorem recElem_inv {v : Value} {y : DataW Unit × List MemPlace} (h : recElem v = some y) : ∃ r, v = recV r ∧ isR r ∧ y = (recD r, []) := by
 unfold recElem at h
 split at h
 ·rename_i k
  injection h with h
  exact ⟨k.choose, k.choose_spec.1, k.choose_spec.2, h.symm⟩
 ·cases h
theorem key11 : Keyed Tryz.prog 3 := int_keyed Tryz.underlying3
def TabD (D : DataW Unit) (t : List Rc) : Prop := (∀ p : Int, has D (.int .i64 p) = (fR t p).isSome) ∧ ∀ p r, fR t p = some r → ∀ zd, D.atKey (.int .i64 p) zd = recD r
def TabAt (w : World) (B n : Nat) (t : List Rc) : Prop := ∃ D, w.ownsMap Tryz.prog 3 recElem B n D ∧ TabD D t
section
variable {w w' : World} {B n : Nat} {t t' : List Rc} {D : DataW Unit}
theorem TabAt.made (w : World) : TabAt (w.alloc (.map #[] 0)) w.heap.size 0 [] := ⟨_, World.ownsMap_made w _ _ _, fun p => rfl, fun p r h => by cases h⟩
theorem TabAt.lt (h : TabAt w B n t) : B < w.heap.size := by
 obtain ⟨D, h, _⟩ := h
 exact h.lt
theorem TabAt.kept (h : TabAt w B n t) {row : Option Nat} (hg : w.grownBy w' row) (hne : some B ≠ row) : TabAt w' B n t := by
 obtain ⟨D, h, k⟩ := h
 exact ⟨D, h.kept hg hne, k⟩
theorem below_grown11 (h : Below w.heap.size w w') (row : Option Nat) : w.grownBy w' row := ⟨h.os, h.tape, h.output, h.size, fun k hk _ => h.block k hk⟩
theorem TabAt.below (h : TabAt w B n t) (hb : Below w.heap.size w w') : TabAt w' B n t := h.kept (below_grown11 hb none) (by simp)
theorem TabAt.isMap (h : TabAt w B n t) : ∃ es c, w.heap[B]? = some (.map es c) := by
 obtain ⟨D, ⟨es, c, hb, _⟩, _⟩ := h
 exact ⟨es, c, hb⟩
theorem TabAt.cell (h : TabAt w B n t) (hg : w.grownBy w' (some B)) {p : Addr} {v : Value} (hc : w.cell? p = some v) : w'.cell? p = some v := by
 obtain ⟨es, c, hb⟩ := h.isMap
 have hne : p.block ≠ B := fun e => by
  unfold World.cell? at hc
  rw [e, hb] at hc
  cases hc
 have hlt : p.block < w.heap.size := by
  rcases Nat.lt_or_ge p.block w.heap.size with k | k
  ·exact k
  ·unfold World.cell? at hc
   rw [Array.getElem?_eq_none k] at hc
   cases hc
 rw [World.cell?_of_block (hg.block p.block hlt (fun e => hne (by injection e)))]
 exact hc
theorem Seq.turned {A : Option Addr} {xs : List Value} (h : TabAt w B n t) (hg : w.grownBy w' (some B)) (hs : Seq w w.heap.size A xs) : Seq w' w'.heap.size A xs := fun j v hv => by
 obtain ⟨b, o, e, hlt, hc⟩ := hs j v hv
 exact ⟨b, o, e, Nat.lt_of_lt_of_le hlt hg.size, h.cell hg hc⟩
theorem Arg.turned {k : IntKind} {A : Option Addr} {m c : Nat} {zs : List Int} (h : TabAt w B n t) (hg : w.grownBy w' (some B)) (ha : Arg w k A m c zs) : Arg w' k A m c zs := ⟨Seq.turned h hg ha.seq, ha.len, ha.cap, ha.max⟩
theorem Texts.turned {A : Option Addr} {m c : Nat} {l : List Txt} (h : TabAt w B n t) (hg : w.grownBy w' (some B)) (hl : Texts w A m c l) : Texts w' A m c l :=
 ⟨hl.len, hl.cap, hl.max, hl.byte, fun i hi => by
  obtain ⟨b, o, Ai, ni, ci, e, hlt, hc, ha⟩ := hl.at_ i hi
  exact ⟨b, o, Ai, ni, ci, e, Nat.lt_of_lt_of_le hlt hg.size, h.cell hg hc, Arg.turned h hg ha⟩⟩
theorem key_ne {p q : Int} (h : p ≠ q) : (Lit.int .i64 p) ≠ .int .i64 q := fun e => h (by injection e)
theorem TabD.put (hD : IsMap D) (h : TabD D t) {r : Rc} (ht : ∀ p, fR t' p = if p = r.p then some r else fR t p) : TabD (D.put (.int .i64 r.p) (recD r)) t' := by
 refine ⟨fun p => ?_, fun p s hs zd => ?_⟩
 ·rw [ht]
  by_cases hp : p = r.p
  ·subst hp
   rw [if_pos rfl]
   exact has_put_same hD (show WideAt.IsKeyLit (.int .i64 r.p) from trivial) _
  ·rw [if_neg hp, has_put_other (key_ne hp)]
   exact h.1 p
 ·rw [ht] at hs
  by_cases hp : p = r.p
  ·subst hp
   rw [if_pos rfl] at hs
   injection hs with hs
   subst hs
   exact atKey_put_same hD (show WideAt.IsKeyLit (.int .i64 r.p) from trivial) _ _
  ·rw [if_neg hp] at hs
   rw [atKey_put_other (key_ne hp)]
   exact h.2 p s hs zd
theorem TabD.del (h : TabD D t) {q : Int} (ht : ∀ p, fR t' p = if p = q then none else fR t p) : TabD (D.del (.int .i64 q)) t' := by
 refine ⟨fun p => ?_, fun p s hs zd => ?_⟩
 ·rw [ht]
  by_cases hp : p = q
  ·subst hp
   rw [if_pos rfl]
   exact has_del_same
  ·rw [if_neg hp, has_del_other (key_ne hp)]
   exact h.1 p
 ·rw [ht] at hs
  by_cases hp : p = q
  ·rw [if_pos hp] at hs
   cases hs
  ·rw [if_neg hp] at hs
   rw [atKey_del_other (key_ne hp)]
   exact h.2 p s hs zd
end
section
variable (w : World) {ops : Array Oper} {rest : List Oper} {o : Oper} {a : Act} {Q : Exit → Act → World → Prop}
theorem wpList_tab_put (hg : o.guard = none) (m x v : Operand) (hop : o.op = .mapUpdate 143 m x v) (B n : Nat) (t t' : List Rc) (hm : a.eval m = .map (some B)) (h : TabAt w B n t) (hn : n < maxLen) (r : Rc) (hr : isR r) (hp : (Lit.int .i64 r.p).wf = true)
  (hx : a.eval x = .int .i64 r.p) (hv : a.eval v = recV r) (ht : ∀ p, fR t' p = if p = r.p then some r else fR t p) (hK : ∀ w', TabAt w' B (n + 1) t' → w.grownBy w' (some B) → wpList Tryz.prog ops Q rest (a.put o.dst undef) w') : wpList Tryz.prog ops Q (o :: rest) a w := by
 obtain ⟨D, hown, hD⟩ := h
 exact wpList_mapUpdate_own w hg m x v 143 hop 3 64 key11 Tryz.underlying143 recElem B n D hm hown hn _ _ (.int .i64 r.p) hx hv (keyOf_int_mk Tryz.underlying3 hp) (recD r) [] (recElem_rec hr) fun w' h1 h2 => hK w' ⟨_, h1, hD.put hown.isMap ht⟩ h2
theorem wpList_tab_del (hg : o.guard = none) (m x : Operand) (hop : o.op = Op.call { callee := Callee.builtin Builtin.delete, args := #[m, x], argTypes := #[143, 3] }) (B n : Nat) (t t' : List Rc) (hm : a.eval m = .map (some B)) (h : TabAt w B n t) (q : Int) (hp : (Lit.int .i64 q).wf = true)
  (hx : a.eval x = .int .i64 q) (ht : ∀ p, fR t' p = if p = q then none else fR t p) (hK : ∀ w', TabAt w' B n t' → w.grownBy w' (some B) → wpList Tryz.prog ops Q rest (a.put o.dst (.tuple #[])) w') : wpList Tryz.prog ops Q (o :: rest) a w := by
 obtain ⟨D, hown, hD⟩ := h
 exact wpList_delete_own w hg m x 143 3 hop 64 key11 Tryz.underlying143 recElem B n D hm hown _ (.int .i64 q) hx (keyOf_int_mk Tryz.underlying3 hp) fun w' h1 h2 => hK w' ⟨_, h1, hD.del ht⟩ h2.grown
end
def Coll (t : List Rc) (left : Lit → Bool) (M : List Rc) : Prop := (∀ r ∈ M, r ∈ t) ∧ (M.Pairwise fun r s => r.p ≠ s.p) ∧ ∀ r ∈ t, (r ∈ M ↔ left (.int .i64 r.p) = false)
theorem fR_mem {t : List Rc} (ht : t.Pairwise fun r s => r.p ≠ s.p) {r : Rc} (hr : r ∈ t) : fR t r.p = some r := by
 induction t with
 | nil => cases hr
 | cons s t ih =>
  obtain ⟨h1, h2⟩ := List.pairwise_cons.1 ht
  unfold fR
  rcases List.mem_cons.1 hr with rfl | hr
  ·simp
  ·have := h1 r hr
   rw [List.find?_cons_of_neg (by simpa using this)]
   exact ih h2 hr
theorem mayTab_ne {t : List Rc} (h : mayTab t) : t.Pairwise fun r s => r.p ≠ s.p := ((mayTab_iff t).1 h).2.imp fun h => by omega
theorem Coll.start {D : DataW Unit} {t : List Rc} (ht : t.Pairwise fun r s => r.p ≠ s.p) (h : TabD D t) : Coll t (has D) [] :=
 ⟨(fun r hr => by cases hr), List.Pairwise.nil, fun r hr => by rw [h.1, fR_mem ht hr]; simp⟩
theorem Coll.step {t : List Rc} {left : Lit → Bool} {M : List Rc} (ht : t.Pairwise fun r s => r.p ≠ s.p) (h : Coll t left M) {c : Rc} (hc : c ∈ t) (hl : left (.int .i64 c.p) = true) : Coll t (fun z => left z && !z.sameKey (.int .i64 c.p)) (M ++ [c]) := by
 obtain ⟨h1, h2, h3⟩ := h
 refine ⟨fun r hr => ?_, ?_, fun r hr => ?_⟩
 ·rcases List.mem_append.1 hr with hr | hr
  ·exact h1 r hr
  ·rw [List.mem_singleton.1 hr]; exact hc
 ·refine List.pairwise_append.2 ⟨h2, List.pairwise_singleton _ _, fun r hr s hs => ?_⟩
  rw [List.mem_singleton.1 hs]
  intro e
  have := (h3 r (h1 r hr)).1 hr
  rw [e, hl] at this
  cases this
 ·by_cases e : r.p = c.p
  ·have hrc : r = c := by
    have a := fR_mem ht hr
    have b := fR_mem ht hc
    rw [e, b] at a
    injection a with a
    exact a.symm
   subst hrc
   simp [Lit.sameKey]
  ·have hne : r ≠ c := fun k => e (by rw [k])
   rw [List.mem_append, h3 r hr]
   simp [Lit.sameKey, e, hne]
theorem Coll.done {t : List Rc} {left : Lit → Bool} {M : List Rc} (h : Coll t left M) (hl : ∀ kl, left kl = false) (r : Rc) : r ∈ M ↔ r ∈ t := ⟨h.1 r, fun hr => (h.2.2 r hr).2 (hl _)⟩
theorem three_of {M : List Rc} (h : M.Pairwise fun r s => r.p ≠ s.p) (hp : ∀ r ∈ M, 0 ≤ r.p ∧ r.p < 3) : M.length ≤ 3 := by
 match M with
 | [] | [_] | [_, _] | [_, _, _] => simp
 | a :: b :: c :: d :: l =>
  exfalso
  have ha := hp a (by simp)
  have hb := hp b (by simp)
  have hc := hp c (by simp)
  have hd := hp d (by simp)
  simp only [List.pairwise_cons, List.mem_cons] at h
  obtain ⟨h1, h2, h3, _⟩ := h
  have := h1 b (.inl rfl)
  have := h1 c (.inr (.inl rfl))
  have := h1 d (.inr (.inr (.inl rfl)))
  have := h2 c (.inl rfl)
  have := h2 d (.inr (.inl rfl))
  have := h3 d (.inl rfl)
  omega
def swpR (L : List Rc) (j : Nat) : List Rc := (L.set (j + 1) (L.getD j zR)).set j (L.getD (j + 1) zR)
def insR : Nat → List Rc → List Rc
 | 0, L => L
 | j + 1, L => if (L.getD (j + 1) zR).p < (L.getD j zR).p then insR j (swpR L j) else L
def isoR (L : List Rc) : Nat → List Rc
 | 0 => L
 | i + 1 => insR i (isoR L i)
theorem swpR_length (L : List Rc) (j : Nat) : (swpR L j).length = L.length := by simp [swpR]
theorem insR_length : ∀ (j : Nat) (L : List Rc), (insR j L).length = L.length
 | 0, _ => rfl
 | j + 1, L => by
  unfold insR
  split
  ·rw [insR_length j, swpR_length]
  ·rfl
theorem isoR_length (L : List Rc) (i : Nat) : (isoR L i).length = L.length := by
 induction i with
 | zero => rfl
 | succ i ih => rw [isoR, insR_length, ih]
theorem iso_sorted {L : List Rc} (hl : L.length ≤ 3) (hd : L.Pairwise fun r s => r.p ≠ s.p) : ((isoR L L.length).Pairwise fun r s => r.p < s.p) ∧ ∀ r, r ∈ isoR L L.length ↔ r ∈ L := by
 match L, hl with
 | [], _ => exact ⟨List.Pairwise.nil, fun r => Iff.rfl⟩
 | [a], _ => exact ⟨List.pairwise_singleton _ _, fun r => Iff.rfl⟩
 | [a, b], _ =>
  have hab : a.p ≠ b.p := by simpa using hd
  show ((insR 1 (insR 0 [a, b])).Pairwise _) ∧ ∀ r, r ∈ insR 1 (insR 0 [a, b]) ↔ _
  by_cases h : b.p < a.p
  ·have e : insR 1 (insR 0 [a, b]) = [b, a] := if_pos h
   rw [e]
   exact ⟨by simpa using h, fun r => by simp [or_comm]⟩
  ·have e : insR 1 (insR 0 [a, b]) = [a, b] := if_neg h
   rw [e]
   exact ⟨by simp; omega, fun r => Iff.rfl⟩
 | [a, b, c], _ =>
  simp only [List.pairwise_cons, List.mem_cons, List.not_mem_nil, or_false, forall_eq_or_imp, forall_eq] at hd
  obtain ⟨⟨hab, hac⟩, hbc, _⟩ := hd
  show ((insR 2 (insR 1 (insR 0 [a, b, c]))).Pairwise _) ∧ ∀ r, r ∈ insR 2 (insR 1 (insR 0 [a, b, c])) ↔ _
  have key : ∀ x y : Rc, x.p < y.p → c.p ≠ x.p → c.p ≠ y.p → ((insR 2 [x, y, c]).Pairwise fun r s => r.p < s.p) ∧ ∀ r, r ∈ insR 2 [x, y, c] ↔ r = x ∨ r = y ∨ r = c := by
   intro x y hxy hx hy
   by_cases h1 : c.p < y.p
   ·have e : insR 2 [x, y, c] = insR 1 [x, c, y] := if_pos h1
    rw [e]
    by_cases h2 : c.p < x.p
    ·have e2 : insR 1 [x, c, y] = [c, x, y] := if_pos h2
     rw [e2]
     refine ⟨by simp; omega, fun r => ?_⟩
     simp only [List.mem_cons, List.not_mem_nil, or_false]
     constructor
     ·rintro (h | h | h) <;> simp [h]
     ·rintro (h | h | h) <;> simp [h]
    ·have e2 : insR 1 [x, c, y] = [x, c, y] := if_neg h2
     rw [e2]
     refine ⟨by simp; omega, fun r => ?_⟩
     simp only [List.mem_cons, List.not_mem_nil, or_false]
     constructor
     ·rintro (h | h | h) <;> simp [h]
     ·rintro (h | h | h) <;> simp [h]
   ·have e : insR 2 [x, y, c] = [x, y, c] := if_neg h1
    rw [e]
    refine ⟨by simp; omega, fun r => ?_⟩
    simp only [List.mem_cons, List.not_mem_nil, or_false]
  by_cases h : b.p < a.p
  ·have e : insR 1 (insR 0 [a, b, c]) = [b, a, c] := if_pos h
   rw [e]
   obtain ⟨k1, k2⟩ := key b a h (fun k => hbc k.symm) (fun k => hac k.symm)
   refine ⟨k1, fun r => (k2 r).trans ?_⟩
   simp only [List.mem_cons, List.not_mem_nil, or_false]
   constructor
   ·rintro (h | h | h) <;> simp [h]
   ·rintro (h | h | h) <;> simp [h]
  ·have e : insR 1 (insR 0 [a, b, c]) = [a, b, c] := if_neg h
   rw [e]
   obtain ⟨k1, k2⟩ := key a b (by omega) (fun k => hac k.symm) (fun k => hbc k.symm)
   refine ⟨k1, fun r => (k2 r).trans ?_⟩
   simp only [List.mem_cons, List.not_mem_nil, or_false]
theorem iso_tab {t M : List Rc} (ht : mayTab t) (hM : M.Pairwise fun r s => r.p ≠ s.p) (hm : ∀ r, r ∈ M ↔ r ∈ t) : isoR M M.length = t := by
 have h := (mayTab_iff t).1 ht
 have hl := three_of hM fun r hr => ⟨(h.1 r ((hm r).1 hr)).1.1, (h.1 r ((hm r).1 hr)).1.2.1⟩
 obtain ⟨s1, s2⟩ := iso_sorted hl hM
 have s3 := s1.imp (S := fun r s : Rc => r.p ≠ s.p) fun h => by omega
 refine tab_ext s1 h.2 fun p => ?_
 have hmem : ∀ r, r ∈ isoR M M.length ↔ r ∈ t := fun r => (s2 r).trans (hm r)
 cases e : fR t p with
 | none =>
  refine List.find?_eq_none.2 fun r hr k => ?_
  have hp : r.p = p := by simpa using k
  have := fR_mem (mayTab_ne ht) ((hmem r).1 hr)
  rw [hp, e] at this
  cases this
 | some r =>
  obtain ⟨h1, h2⟩ := fR_some e
  rw [← h2]
  exact fR_mem s3 ((hmem r).2 h1)
end Go.Proofs.YtifgcfepbenpjaaGreat
namespace Go.Proofs.YtifgcfepbenpjaaGreat
set_option linter.unusedVariables false
section
variable {P T A M W Q : Int} {S S' : List Sec}
end
section
variable {P T A M W Q : Int} {S : List Sec} {m : Mt} {b : Txt} {t' : List Rc} {B V : Int}
end
theorem actsA_length (L : List Pnd) : (actsA L).length = L.length + 1 := by simp [actsA, wrA]
section
variable {P T A M W Q : Int} {S : List Sec} {m : Mt} {b : Txt} {t' : List Rc} {B V : Int}
end
end Go.Proofs.YtifgcfepbenpjaaGreat
