/- Layer 9: the program's sizes, rowOf, mayBe, superOf, Read, Plan. -/
import Derived.Test.YtncnppffllfbeaaSupMath
import Derived.Test.YtncnppffllfbeaaTrkP
import Derived.Laws.StructEq
namespace Go.Proofs.Ytncnppffllfbeaa
open Go.RowKit Go.OpenShut Go.ChangeShapes Go.WideShapes Go.Deep Go.Joins
set_option linter.unusedVariables false

/-- A super's value. -/
abbrev supV (v a g : Int) : Value := .agg #[.int .u32 v, .int .i64 a, .int .u64 g]
abbrev supL (v a g : Int) : List Value := [.int .u32 v, .int .i64 a, .int .u64 g]

theorem eq_sup (a b c a' b' c' : Int) (w : World) : (Op.equalIn 10000 31 (supV a b c) (supV a' b' c')).run Try.prog w = .ok (a == a' && b == b' && c == c') w := by
  have u1 := Try.underlying28
  have u2 := Try.underlying3
  have u3 := Try.underlying29
  have hS : Try.prog.underlying 31 = some (.struct (Try.prog.fieldsOf 31)) := by kernel_rfl
  have hp : Try.prog.stoodInHeld 31 = false := by kernel_rfl
  rw [show (10000 : Nat) = 9999 + 1 from rfl, run_equalIn_agg w 9999 31 _ _ hS hp]
  simp only [Program.fieldsOf, Try.underlying31]
  go_simp
  by_cases h1 : a = a' <;> by_cases h2 : b = b' <;> by_cases h3 : c = c' <;> simp [h1, h2, h3]

/-- A config, a disk and a super, each in its box. -/
structure SBox (w : World) (G : Nat) (P T A M W Q : Int) (D : Option Addr) (n c : Nat) (D' : Option Addr) (n' c' : Nat) (S : List Sec) (C : List Pnd) (v a g : Int) : Prop where
  two : TBox w G P T A M W Q D n c D' n' c' S C
  sup : Blk w (G + 2) 31 (supL v a g)
section
variable {w w' : World} {G : Nat} {P T A M W Q v a g : Int} {D D' : Option Addr} {n c n' c' : Nat} {S : List Sec} {C : List Pnd}
theorem SBox.below (x : SBox w G P T A M W Q D n c D' n' c' S C v a g) (hb : Below w.heap.size w w') : SBox w' G P T A M W Q D n c D' n' c' S C v a g := ⟨x.two.below hb, x.sup.below hb x.sup.lt⟩
theorem SBox.new (P T A M W Q v a g : Int) (t : Dsk w D n c D' n' c' S C) : SBox (((w.alloc (.cells #[.int .i64 P, .int .i64 T, .int .i64 A, .int .i64 M, .int .i64 W, .int .i64 Q] 37)).alloc (.cells #[.slice D n c, .slice D' n' c'] 25)).alloc (.cells #[.int .u32 v, .int .i64 a, .int .u64 g] 31)) w.heap.size P T A M W Q D n c D' n' c' S C v a g ∧ Below w.heap.size w (((w.alloc (.cells #[.int .i64 P, .int .i64 T, .int .i64 A, .int .i64 M, .int .i64 W, .int .i64 Q] 37)).alloc (.cells #[.slice D n c, .slice D' n' c'] 25)).alloc (.cells #[.int .u32 v, .int .i64 a, .int .u64 g] 31)) := by
  obtain ⟨x, hb⟩ := TBox.new P T A M W Q t
  have hk := (Below.refl ((w.alloc (.cells #[.int .i64 P, .int .i64 T, .int .i64 A, .int .i64 M, .int .i64 W, .int .i64 Q] 37)).alloc (.cells #[.slice D n c, .slice D' n' c'] 25)).heap.size _).alloc (Nat.le_refl _) (.cells #[.int .u32 v, .int .i64 a, .int .u64 g] 31)
  have y := Blk.new ((w.alloc (.cells #[.int .i64 P, .int .i64 T, .int .i64 A, .int .i64 M, .int .i64 W, .int .i64 Q] 37)).alloc (.cells #[.slice D n c, .slice D' n' c'] 25)) 31 [.int .u32 v, .int .i64 a, .int .u64 g]
  rw [World.size_alloc, World.size_alloc] at y
  exact ⟨⟨x.below hk, y⟩, hb.alloc hb.size _⟩
theorem SBox.cells (x : SBox w G P T A M W Q D n c D' n' c' S C v a g) : w.cell? ⟨G, 0, none⟩ = some (.int .i64 P) ∧ w.cell? ⟨G, 1, none⟩ = some (.int .i64 T) ∧ w.cell? ⟨G, 2, none⟩ = some (.int .i64 A) ∧ w.cell? ⟨G, 3, none⟩ = some (.int .i64 M) ∧ w.cell? ⟨G, 4, none⟩ = some (.int .i64 W) ∧ w.cell? ⟨G, 5, none⟩ = some (.int .i64 Q) ∧
    w.cell? ⟨G + 1, 0, none⟩ = some (.slice D n c) ∧ w.cell? ⟨G + 1, 1, none⟩ = some (.slice D' n' c') ∧ w.cell? ⟨G + 2, 0, none⟩ = some (.int .u32 v) ∧ w.cell? ⟨G + 2, 1, none⟩ = some (.int .i64 a) ∧ w.cell? ⟨G + 2, 2, none⟩ = some (.int .u64 g) := by
  obtain ⟨c0, c1, c2, c3, c4, c5, d0, d1⟩ := x.two.cells
  exact ⟨c0, c1, c2, c3, c4, c5, d0, d1, x.sup.cell 0, x.sup.cell 1, x.sup.cell 2⟩
theorem SBox.lt (x : SBox w G P T A M W Q D n c D' n' c' S C v a g) : G < w.heap.size := x.two.lt
end
theorem Blk.tri {w : World} {g : Nat} {t : TypeId} {a b c : Value} (h : Blk w g t [a, b, c]) : w.cell? ⟨g, 0, none⟩ = some a ∧ w.cell? ⟨g, 1, none⟩ = some b ∧ w.cell? ⟨g, 2, none⟩ = some c := ⟨h.cell 0, h.cell 1, h.cell 2⟩

theorem ssizes_any (w : World) : Calls Try.prog 52 #[] w fun e w' => ∃ g, e = .returned (.slice (some ⟨g, 0, none⟩) 3 3) ∧ Arg w' .i64 (some ⟨g, 0, none⟩) 3 3 sz3 ∧ Below w.heap.size w w' := by
  have hml : 3 ≤ maxLen := by decide
  have HA := Lib.hid (show Arg (w.alloc (.cells #[.int .i64 4, .int .i64 1, .int .i64 8] 3)) .i64 (some ⟨w.heap.size, 0, none⟩) 3 3 sz3 from ⟨lit_row w 3 .i64 sz3 _ _ _ rfl rfl (by simp), rfl, Nat.le_refl _, hml⟩)
  go_enter Try.func52, Try.ntmps52
  go_wp2
  go_ret
  exact ⟨_, rfl, HA.out, (Below.refl _ _).alloc (Nat.le_refl _) _⟩

theorem nums_sup (w : World) (v a g : Int) (b B : Nat) (hb : b = w.heap.size) (hB : w.heap.size < B) : Seq (w.alloc (.cells #[.int .u64 v, .int .u64 a, .int .u64 g] 29)) B (some ⟨b, 0, none⟩) (ints .u64 [v, a, g]) := lit_row w 29 .u64 [v, a, g] _ _ _ rfl hb hB

set_option maxRecDepth 100000 in
set_option maxHeartbeats 3200000 in
theorem srow_any (v a g : Int) (hs : isS (v, a, g)) (ha : arS a) (w : World) :
    Calls Try.prog 27 #[supV v a g] w fun e w' => ∃ A c, e = .returned (.slice A 13 c) ∧ w'.ownsRow w.heap.size 5 1 (.slice A 13 c) 13 (ints .u8 (suT (v, a, g))) ∧ Below w.heap.size w w' := by
  have x := Blk.new w 31 [.int .u32 v, .int .i64 a, .int .u64 g]
  have hbel : Below w.heap.size w (w.alloc (.cells #[.int .u32 v, .int .i64 a, .int .u64 g] 31)) := (Below.refl _ _).alloc (Nat.le_refl _) _
  obtain ⟨⟨hv0, hv1⟩, hg0, hg1⟩ := hs
  dsimp only at hv0 hv1 hg0 hg1
  have ha1 : 0 ≤ a ∧ a < 256 := by unfold arS at ha; omega
  have FT := Lib.hid (show fitsTo [v, a, g] sz3 sz3.length = true from fits3 (s := (v, a, g)) ⟨⟨hv0, hv1⟩, hg0, hg1⟩ ha1)
  have W1 := Lib.hid (show ∀ z ∈ [v, a, g], isWord z by
    intro z hz
    simp only [List.mem_cons, List.not_mem_nil, or_false] at hz
    unfold isWord
    rcases hz with rfl | rfl | rfl <;> omega)
  have X := Lib.hid x
  have BL := Lib.hid hbel
  have e1 : IntKind.u64.wrap v = v := wraps_u64 v hv0 (by omega)
  have e2 : IntKind.u64.wrap a = a := wraps_u64 a ha1.1 (by omega)
  clear x hbel hv0 hv1 hg0 hg1 ha1 ha
  go_enter Try.func27, Try.ntmps27
  go_upto_region 1 with fail
  obtain ⟨v1, hW⟩ : ∃ x : World, x = w.alloc (.cells #[.int .u32 v, .int .i64 a, .int .u64 g] 31) := ⟨_, rfl⟩
  rw [← hW] at X BL ⊢
  have hlt : w.heap.size < v1.heap.size := X.out.lt
  clear hW
  have hcur : Below v1.heap.size v1 v1.drew := below_drewN (Below.refl _ _) 1
  have keepX : ∀ wx, Below v1.heap.size v1 wx → wx.cell? ⟨w.heap.size, 0, none⟩ = some (.int .u32 v) ∧ wx.cell? ⟨w.heap.size, 1, none⟩ = some (.int .i64 a) ∧ wx.cell? ⟨w.heap.size, 2, none⟩ = some (.int .u64 g) := fun wx hx => (X.out.below hx hlt).tri
  have hkX := keepX _ hcur
  go_region_held3 (fun w' => w'.cell? ⟨w.heap.size, 0, none⟩ = some (.int .u32 v) ∧ w'.cell? ⟨w.heap.size, 1, none⟩ = some (.int .i64 a) ∧ w'.cell? ⟨w.heap.size, 2, none⟩ = some (.int .u64 g))
    (first | exact hkX | exact keepX _ (hcur.alloc hcur.size _) | exact keepX _ (below_drewN ((Below.refl _ _).alloc (Nat.le_refl _) _) 1) | go_keep)
    (first
      | (go_at_call 52; with_reducible refine (ssizes_any v1.drew).mono ?_; rintro e wS ⟨gS, rfl, hAS, hbS⟩; have hcur := hcur.trans (hbS.mono hcur.size); have hkX := keepX _ hcur)
      | (go_at_call 52; have hL := nums_sup v1 v a g v1.heap.size (v1.heap.size + 1) rfl (Nat.lt_succ_self _); have hcur : Below v1.heap.size v1 (v1.alloc (.cells #[.int .u64 v, .int .u64 a, .int .u64 g] 29)).drew := below_drewN ((Below.refl _ _).alloc (Nat.le_refl _) _) 1; have hL : Seq (v1.alloc (.cells #[.int .u64 v, .int .u64 a, .int .u64 g] 29)).drew (v1.heap.size + 1) (some ⟨v1.heap.size, 0, none⟩) (ints .u64 [v, a, g]) := hL.keep fun _ _ => rfl; with_reducible refine (ssizes_any _).mono ?_; rintro e wS ⟨gS, rfl, hAS, hbS⟩; have hL := (hL.below (hbS.mono (by simp))).more (B' := wS.heap.size) (Nat.le_trans (by simp) hbS.size); have hcur := hcur.trans (hbS.mono hcur.size); have hkX := keepX _ hcur)
      | (go_at_call 51; with_reducible refine (write_ok (some ⟨v1.heap.size, 0, none⟩) (some ⟨gS, 0, none⟩) 3 3 3 3 [v, a, g] sz3 _ hAS.seq rfl okB_sz3 hL rfl rfl W1.out).mono ?_; intro e w2 hout; have hM := hcur.size; obtain ⟨A2, c2, rfl, hown, hb⟩ := (WroteOut.yes hout FT.out).len (zs' := suT (v, a, g)) (n := 13) rfl (suT_length _); have hcur := hcur.trans (hb.mono hcur.size); have hkX := keepX _ hcur)
      | (go_at_call 51; have hL := nums_sup wS v a g wS.heap.size (wS.heap.size + 1) rfl (Nat.lt_succ_self _); have hL := hL.more (B' := (wS.alloc (.cells #[.int .u64 v, .int .u64 a, .int .u64 g] 29)).heap.size) (by simp); have hAS := hAS.below ((Below.refl wS.heap.size wS).alloc (Nat.le_refl _) (.cells #[.int .u64 v, .int .u64 a, .int .u64 g] 29)); have hcur := hcur.alloc hcur.size (.cells #[.int .u64 v, .int .u64 a, .int .u64 g] 29); with_reducible refine (write_ok (some ⟨wS.heap.size, 0, none⟩) (some ⟨gS, 0, none⟩) 3 3 3 3 [v, a, g] sz3 _ hAS.seq rfl okB_sz3 hL rfl rfl W1.out).mono ?_; intro e w2 hout; have hM := hcur.size; obtain ⟨A2, c2, rfl, hown, hb⟩ := (WroteOut.yes hout FT.out).len (zs' := suT (v, a, g)) (n := 13) rfl (suT_length _); have hcur := hcur.trans (hb.mono hcur.size); have hkX := keepX _ hcur))
  all_goals (
    have hfin := BL.out.trans (hcur.mono BL.out.size)
    have hown := hown
    go_wp2
    go_ret
    exact ⟨A2, c2, rfl, owns_base hown (Nat.le_trans BL.out.size hM), hfin⟩)

set_option maxRecDepth 100000 in
set_option maxHeartbeats 3200000 in
theorem maybe_any (v a g : Int) (w : World) : Calls Try.prog 25 #[supV v a g] w fun e w' => e = .returned (.bool (decide (arS a))) ∧ Below w.heap.size w w' := by
  have x := Blk.new w 31 [.int .u32 v, .int .i64 a, .int .u64 g]
  have hbel : Below w.heap.size w (w.alloc (.cells #[.int .u32 v, .int .i64 a, .int .u64 g] 31)) := (Below.refl _ _).alloc (Nat.le_refl _) _
  obtain ⟨c0, c1, c2⟩ := x.tri
  have B := Lib.hid hbel
  have ev : (v == v) = true := beq_self_eq_true _
  have eg : (g == g) = true := beq_self_eq_true _
  have EQ := fun (k : Int) (wx : World) => eq_sup v a g v k g wx
  obtain ⟨r, hr⟩ : ∃ r, r = decide (arS a) := ⟨_, rfl⟩
  rw [← hr]
  have HR := Lib.hid hr
  clear x hbel hr
  go_enter Try.func25, Try.ntmps25
  go_wp2
  go_loop [4, 3] (fun i _ => ∃ k : Nat, k ≤ 2 ∧ i = .int .i64 k ∧ ∀ j : Nat, j < k → a ≠ (j : Int)) (fun i _ => 2 - (intOf i).toNat)
  case atStart => exact ⟨0, Nat.zero_le _, rfl, fun j h => absurd h (Nat.not_lt_zero _)⟩
  case round =>
    obtain ⟨k, hk, rfl, hn⟩ := hrel
    have HN := Lib.hid hn
    clear hn
    by_cases hkm : k < 2
    · have hki : (k : Int) < 2 := by omega
      by_cases hak : a = (k : Int)
      · have hb1 : (a == (k : Int)) = true := beq_iff_eq.2 hak
        have hd : r = true := HR.out.trans (decide_eq_true (by unfold arS; omega))
        subst hd
        clear hak
        go_wp2
        go_ret
        exact ⟨rfl, B.out⟩
      · have hb1 : (a == (k : Int)) = false := beq_eq_false_iff_ne.2 hak
        have HAK := Lib.hid hak
        clear hak
        go_wp2
        go_round
        case rel =>
          refine ⟨k + 1, by omega, by go_num, fun j hj => ?_⟩
          by_cases e : j = k
          · rw [e]; exact HAK.out
          · exact HN.out j (by omega)
        case measure => simp [intOf]; omega
    · obtain rfl : k = 2 := by omega
      have hd : r = false := HR.out.trans (decide_eq_false (by
        have h0 := HN.out 0 (by omega)
        have h1 := HN.out 1 (by omega)
        unfold arS
        omega))
      subst hd
      go_wp2
      go_ret
      exact ⟨rfl, B.out⟩

set_option maxRecDepth 100000 in
/-- What a law's frame hands over: a super. -/
theorem open_super {H : Type} {enc : TypeId × Value → H} {W : World} {b0 : Nat} {r : Reach} {v : Value} {d : DataW H} {p : List MemPlace} (hv : Value.okWide Try.prog W r b0 31 v) (h : DataW.Trod enc Try.prog W 0 (fun _ => true) true 31 v d p) :
    ∃ x y z, v = supV x y z ∧ isS (x, y, z) ∧ (Lit.int .i64 y).wf = true := by
  obtain ⟨v0, v1, v2, y0, y1, y2, n, rfl, _, _, g0, g1, g2⟩ := open_agg3 Try.underlying31 (by kernel_rfl) (by kernel_rfl) hv h
  obtain ⟨z0, e0, _, w0⟩ := DataW.trod_int Try.underlying28 g0
  obtain ⟨z1, e1, _, w1⟩ := DataW.trod_int Try.underlying3 g1
  obtain ⟨z2, e2, _, w2⟩ := DataW.trod_int Try.underlying29 g2
  injection e0 with e0 _
  injection e1 with e1 _
  injection e2 with e2 _
  subst e0; subst e1; subst e2
  have b0 := bounds_u32 w0
  have b2 := bounds_u64 w2
  exact ⟨z0, z1, z2, rfl, ⟨⟨b0.1, by have := b0.2; dsimp only; omega⟩, b2.1, by have := b2.2; dsimp only; omega⟩, w1⟩

end Go.Proofs.Ytncnppffllfbeaa
