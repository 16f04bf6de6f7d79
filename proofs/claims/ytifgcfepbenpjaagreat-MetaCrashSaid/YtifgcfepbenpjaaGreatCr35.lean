/- Texts of layers 1 to 12, joined. -/
import Derived.Test.YtifgcfepbenpjaaGreatCr34
import Derived.Laws.StructEq
set_option maxRecDepth 100000
set_option maxHeartbeats 12800000
set_option linter.unusedVariables false
namespace Go.Proofs.YtifgcfepbenpjaaGreat
open Go.RowKit Go.OpenShut Go.ChangeShapes Go.WideShapes Go.Deep Go.Joins
abbrev supV (v a g : Int) : Value := .agg #[.int .u32 v, .int .i64 a, .int .u64 g]
abbrev supL (v a g : Int) : List Value := [.int .u32 v, .int .i64 a, .int .u64 g]
theorem eq_sup (a b c a' b' c' : Int) (w : World) : (Op.equalIn 10000 29 (supV a b c) (supV a' b' c')).run Tryz.prog w = .ok (a == a' && b == b' && c == c') w := by
 have u1 := Tryz.underlying26
 have u2 := Tryz.underlying3
 have u3 := Tryz.underlying27
 have hS : Tryz.prog.underlying 29 = some (.struct (Tryz.prog.fieldsOf 29)) := by kernel_rfl
 have hp : Tryz.prog.stoodInHeld 29 = false := by kernel_rfl
 rw [show (10000 : Nat) = 9999 + 1 from rfl, run_equalIn_agg w 9999 29 _ _ hS hp]
 simp only [Program.fieldsOf, Tryz.underlying29]
 go_simp
 by_cases h1 : a = a' <;> by_cases h2 : b = b' <;> by_cases h3 : c = c' <;> simp [h1, h2, h3]
structure SBox (w : World) (G : Nat) (P T A M W Q : Int) (D : Option Addr) (n c : Nat) (D' : Option Addr) (n' c' : Nat) (S : List Sec) (C : List Pnd) (v a g : Int) : Prop where
 two : TBox w G P T A M W Q D n c D' n' c' S C
 sup : Blk w (G + 2) 29 (supL v a g)
section
variable {w w' : World} {G : Nat} {P T A M W Q v a g : Int} {D D' : Option Addr} {n c n' c' : Nat} {S : List Sec} {C : List Pnd}
theorem SBox.below (x : SBox w G P T A M W Q D n c D' n' c' S C v a g) (hb : Below w.heap.size w w') : SBox w' G P T A M W Q D n c D' n' c' S C v a g := ⟨x.two.below hb, x.sup.below hb x.sup.lt⟩
theorem SBox.new (P T A M W Q v a g : Int) (t : Dsk w D n c D' n' c' S C) : SBox (((w.alloc (.cells #[.int .i64 P, .int .i64 T, .int .i64 A, .int .i64 M, .int .i64 W, .int .i64 Q] 36)).alloc (.cells #[.slice D n c, .slice D' n' c'] 25)).alloc (.cells #[.int .u32 v, .int .i64 a, .int .u64 g] 29)) w.heap.size P T A M W Q D n c D' n' c' S C v a g ∧ Below w.heap.size w (((w.alloc (.cells #[.int .i64 P, .int .i64 T, .int .i64 A, .int .i64 M, .int .i64 W, .int .i64 Q] 36)).alloc (.cells #[.slice D n c, .slice D' n' c'] 25)).alloc (.cells #[.int .u32 v, .int .i64 a, .int .u64 g] 29)) := by
 obtain ⟨x, hb⟩ := TBox.new P T A M W Q t
 have hk := (Below.refl ((w.alloc (.cells #[.int .i64 P, .int .i64 T, .int .i64 A, .int .i64 M, .int .i64 W, .int .i64 Q] 36)).alloc (.cells #[.slice D n c, .slice D' n' c'] 25)).heap.size _).alloc (Nat.le_refl _) (.cells #[.int .u32 v, .int .i64 a, .int .u64 g] 29)
 have y := Blk.new ((w.alloc (.cells #[.int .i64 P, .int .i64 T, .int .i64 A, .int .i64 M, .int .i64 W, .int .i64 Q] 36)).alloc (.cells #[.slice D n c, .slice D' n' c'] 25)) 29 [.int .u32 v, .int .i64 a, .int .u64 g]
 rw [World.size_alloc, World.size_alloc] at y
 exact ⟨⟨x.below hk, y⟩, hb.alloc hb.size _⟩
theorem SBox.cells (x : SBox w G P T A M W Q D n c D' n' c' S C v a g) : w.cell? ⟨G, 0, none⟩ = some (.int .i64 P) ∧ w.cell? ⟨G, 1, none⟩ = some (.int .i64 T) ∧ w.cell? ⟨G, 2, none⟩ = some (.int .i64 A) ∧ w.cell? ⟨G, 3, none⟩ = some (.int .i64 M) ∧ w.cell? ⟨G, 4, none⟩ = some (.int .i64 W) ∧ w.cell? ⟨G, 5, none⟩ = some (.int .i64 Q) ∧
  w.cell? ⟨G + 1, 0, none⟩ = some (.slice D n c) ∧ w.cell? ⟨G + 1, 1, none⟩ = some (.slice D' n' c') ∧ w.cell? ⟨G + 2, 0, none⟩ = some (.int .u32 v) ∧ w.cell? ⟨G + 2, 1, none⟩ = some (.int .i64 a) ∧ w.cell? ⟨G + 2, 2, none⟩ = some (.int .u64 g) := by
 obtain ⟨c0, c1, c2, c3, c4, c5, d0, d1⟩ := x.two.cells
 exact ⟨c0, c1, c2, c3, c4, c5, d0, d1, x.sup.cell 0, x.sup.cell 1, x.sup.cell 2⟩
end
theorem Blk.tri {w : World} {g : Nat} {t : TypeId} {a b c : Value} (h : Blk w g t [a, b, c]) : w.cell? ⟨g, 0, none⟩ = some a ∧ w.cell? ⟨g, 1, none⟩ = some b ∧ w.cell? ⟨g, 2, none⟩ = some c := ⟨h.cell 0, h.cell 1, h.cell 2⟩
theorem ssizes_any (w : World) : Calls Tryz.prog 124 #[] w fun e w' => ∃ g, e = .returned (.slice (some ⟨g, 0, none⟩) 3 3) ∧ Arg w' .i64 (some ⟨g, 0, none⟩) 3 3 sz3 ∧ Below w.heap.size w w' := by
 have hml : 3 ≤ maxLen := by decide
 have HA := Lh (show Arg (w.alloc (.cells #[.int .i64 4, .int .i64 1, .int .i64 8] 3)) .i64 (some ⟨w.heap.size, 0, none⟩) 3 3 sz3 from ⟨lit_row w 3 .i64 sz3 _ _ _ rfl rfl (by simp), rfl, Nat.le_refl _, hml⟩)
 go_enter Tryz.func124, Tryz.ntmps124
 go_wp2
 go_ret
 exact ⟨_, rfl, HA.out, (Below.refl _ _).alloc (Nat.le_refl _) _⟩
theorem nums_sup (w : World) (v a g : Int) (b B : Nat) (hb : b = w.heap.size) (hB : w.heap.size < B) : Seq (w.alloc (.cells #[.int .u64 v, .int .u64 a, .int .u64 g] 27)) B (some ⟨b, 0, none⟩) (ints .u64 [v, a, g]) := lit_row w 27 .u64 [v, a, g] _ _ _ rfl hb hB
theorem srow_any (v a g : Int) (hs : isS (v, a, g)) (ha : arS a) (w : World) :
  Calls Tryz.prog 156 #[supV v a g] w fun e w' => ∃ A c, e = .returned (.slice A 13 c) ∧ w'.ownsRow w.heap.size 5 1 (.slice A 13 c) 13 (ints .u8 (suT (v, a, g))) ∧ Below w.heap.size w w' := by
 have x := Blk.new w 29 [.int .u32 v, .int .i64 a, .int .u64 g]
 have hbel : Below w.heap.size w (w.alloc (.cells #[.int .u32 v, .int .i64 a, .int .u64 g] 29)) := (Below.refl _ _).alloc (Nat.le_refl _) _
 obtain ⟨⟨hv0, hv1⟩, hg0, hg1⟩ := hs
 dsimp only at hv0 hv1 hg0 hg1
 have ha1 : 0 ≤ a ∧ a < 256 := by unfold arS at ha; omega
 have FT := Lh (show fitsTo [v, a, g] sz3 sz3.length = true from fits3 (s := (v, a, g)) ⟨⟨hv0, hv1⟩, hg0, hg1⟩ ha1)
 have W1 := Lh (show ∀ z ∈ [v, a, g], isWord z by
  intro z hz
  simp only [List.mem_cons, List.not_mem_nil, or_false] at hz
  unfold isWord
  rcases hz with rfl | rfl | rfl <;> omega)
 have X := Lh x
 have BL := Lh hbel
 have e1 : IntKind.u64.wrap v = v := wraps_u64 v hv0 (by omega)
 have e2 : IntKind.u64.wrap a = a := wraps_u64 a ha1.1 (by omega)
 clear x hbel hv0 hv1 hg0 hg1 ha1 ha
 go_enter Tryz.func156, Tryz.ntmps156
 go_upto_region 1 with fail
 obtain ⟨v1, hW⟩ : ∃ x : World, x = w.alloc (.cells #[.int .u32 v, .int .i64 a, .int .u64 g] 29) := ⟨_, rfl⟩
 rw [← hW] at X BL ⊢
 have hlt : w.heap.size < v1.heap.size := X.out.lt
 clear hW
 have hcur : Below v1.heap.size v1 v1.drew := below_drewN (Below.refl _ _) 1
 have keepX : ∀ wx, Below v1.heap.size v1 wx → wx.cell? ⟨w.heap.size, 0, none⟩ = some (.int .u32 v) ∧ wx.cell? ⟨w.heap.size, 1, none⟩ = some (.int .i64 a) ∧ wx.cell? ⟨w.heap.size, 2, none⟩ = some (.int .u64 g) := fun wx hx => (X.out.below hx hlt).tri
 have hkX := keepX _ hcur
 go_region_held3 (fun w' => w'.cell? ⟨w.heap.size, 0, none⟩ = some (.int .u32 v) ∧ w'.cell? ⟨w.heap.size, 1, none⟩ = some (.int .i64 a) ∧ w'.cell? ⟨w.heap.size, 2, none⟩ = some (.int .u64 g))
  (first | exact hkX | exact keepX _ (hcur.alloc hcur.size _) | exact keepX _ (below_drewN ((Below.refl _ _).alloc (Nat.le_refl _) _) 1) | go_keep)
  (first
   | (go_at_call 124; with_reducible refine (ssizes_any v1.drew).mono ?_; rintro e wS ⟨gS, rfl, hAS, hbS⟩; have hcur := hcur.trans (hbS.mono hcur.size); have hkX := keepX _ hcur)
   | (go_at_call 124; have hL := nums_sup v1 v a g v1.heap.size (v1.heap.size + 1) rfl (Nat.lt_succ_self _); have hcur : Below v1.heap.size v1 (v1.alloc (.cells #[.int .u64 v, .int .u64 a, .int .u64 g] 27)).drew := below_drewN ((Below.refl _ _).alloc (Nat.le_refl _) _) 1; have hL : Seq (v1.alloc (.cells #[.int .u64 v, .int .u64 a, .int .u64 g] 27)).drew (v1.heap.size + 1) (some ⟨v1.heap.size, 0, none⟩) (ints .u64 [v, a, g]) := hL.keep fun _ _ => rfl; with_reducible refine (ssizes_any _).mono ?_; rintro e wS ⟨gS, rfl, hAS, hbS⟩; have hL := (hL.below (hbS.mono (by simp))).more (B' := wS.heap.size) (Nat.le_trans (by simp) hbS.size); have hcur := hcur.trans (hbS.mono hcur.size); have hkX := keepX _ hcur)
   | (go_at_call 74; with_reducible refine (write_ok (some ⟨v1.heap.size, 0, none⟩) (some ⟨gS, 0, none⟩) 3 3 3 3 [v, a, g] sz3 _ hAS.seq rfl okB_sz3 hL rfl rfl W1.out).mono ?_; intro e w2 hout; have hM := hcur.size; obtain ⟨A2, c2, rfl, hown, hb⟩ := (WroteOut.yes hout FT.out).len (zs' := suT (v, a, g)) (n := 13) rfl (suT_length _); have hcur := hcur.trans (hb.mono hcur.size); have hkX := keepX _ hcur)
   | (go_at_call 74; have hL := nums_sup wS v a g wS.heap.size (wS.heap.size + 1) rfl (Nat.lt_succ_self _); have hL := hL.more (B' := (wS.alloc (.cells #[.int .u64 v, .int .u64 a, .int .u64 g] 27)).heap.size) (by simp); have hAS := hAS.below ((Below.refl wS.heap.size wS).alloc (Nat.le_refl _) (.cells #[.int .u64 v, .int .u64 a, .int .u64 g] 27)); have hcur := hcur.alloc hcur.size (.cells #[.int .u64 v, .int .u64 a, .int .u64 g] 27); with_reducible refine (write_ok (some ⟨wS.heap.size, 0, none⟩) (some ⟨gS, 0, none⟩) 3 3 3 3 [v, a, g] sz3 _ hAS.seq rfl okB_sz3 hL rfl rfl W1.out).mono ?_; intro e w2 hout; have hM := hcur.size; obtain ⟨A2, c2, rfl, hown, hb⟩ := (WroteOut.yes hout FT.out).len (zs' := suT (v, a, g)) (n := 13) rfl (suT_length _); have hcur := hcur.trans (hb.mono hcur.size); have hkX := keepX _ hcur))
 all_goals (
  have hfin := BL.out.trans (hcur.mono BL.out.size)
  have hown := hown
  go_wp2
  go_ret
  exact ⟨A2, c2, rfl, owns_base hown (Nat.le_trans BL.out.size hM), hfin⟩)
theorem maybe_any (v a g : Int) (w : World) : Calls Tryz.prog 125 #[supV v a g] w fun e w' => e = .returned (.bool (decide (arS a))) ∧ Below w.heap.size w w' := by
 have x := Blk.new w 29 [.int .u32 v, .int .i64 a, .int .u64 g]
 have hbel : Below w.heap.size w (w.alloc (.cells #[.int .u32 v, .int .i64 a, .int .u64 g] 29)) := (Below.refl _ _).alloc (Nat.le_refl _) _
 obtain ⟨c0, c1, c2⟩ := x.tri
 have B := Lh hbel
 have ev : (v == v) = true := beq_self_eq_true _
 have eg : (g == g) = true := beq_self_eq_true _
 have EQ := fun (k : Int) (wx : World) => eq_sup v a g v k g wx
 obtain ⟨r, hr⟩ : ∃ r, r = decide (arS a) := ⟨_, rfl⟩
 rw [← hr]
 have HR := Lh hr
 clear x hbel hr
 go_enter Tryz.func125, Tryz.ntmps125
 go_wp2
 go_loop [4, 3] (fun i _ => ∃ k : Nat, k ≤ 2 ∧ i = .int .i64 k ∧ ∀ j : Nat, j < k → a ≠ (j : Int)) (fun i _ => 2 - (intOf i).toNat)
 case atStart => exact ⟨0, Nat.zero_le _, rfl, fun j h => absurd h (Nat.not_lt_zero _)⟩
 case round =>
  obtain ⟨k, hk, rfl, hn⟩ := hrel
  have HN := Lh hn
  clear hn
  by_cases hkm : k < 2
  ·have hki : (k : Int) < 2 := by omega
   by_cases hak : a = (k : Int)
   ·have hb1 : (a == (k : Int)) = true := beq_iff_eq.2 hak
    have hd : r = true := HR.out.trans (decide_eq_true (by unfold arS; omega))
    subst hd
    clear hak
    go_wp2
    go_ret
    exact ⟨rfl, B.out⟩
   ·have hb1 : (a == (k : Int)) = false := beq_eq_false_iff_ne.2 hak
    have HAK := Lh hak
    clear hak
    go_wp2
    go_round
    case rel =>
     refine ⟨k + 1, by omega, by go_num, fun j hj => ?_⟩
     by_cases e : j = k
     ·rw [e]; exact HAK.out
     ·exact HN.out j (by omega)
    case measure => simp [intOf]; omega
  ·obtain rfl : k = 2 := by omega
   have hd : r = false := HR.out.trans (decide_eq_false (by
    have h0 := HN.out 0 (by omega)
    have h1 := HN.out 1 (by omega)
    unfold arS
    omega))
   subst hd
   go_wp2
   go_ret
   exact ⟨rfl, B.out⟩
end Go.Proofs.YtifgcfepbenpjaaGreat
namespace Go.Proofs.YtifgcfepbenpjaaGreat
open Go.RowKit Go.Maps
theorem ptable11_any (A : Option Addr) (n c : Nat) (l : List Txt) (w : World) (hl : Texts w A n c l) (hn : n ≤ 1000) (hs : ShortT l n) :
  Calls Tryz.prog 42 #[.slice A n c] w (PutOut w (tabR l)) := by
 have hmm := @run_makeMap Tryz.prog
 have hb : Below w.heap.size w (w.alloc (.map #[] 0)) := (Below.refl _ _).alloc (Nat.le_refl _) _
 have W := Lh (pwith_any w.heap.size 0 [] A n c l (w.alloc (.map #[] 0)) (by trivial) (TabAt.made w) (by omega) (hl.below hb) hn hs)
 have B := Lh hb
 unfold PutOut
 unfold WithOut at W
 rw [show tabTo [] l = tabR l from rfl] at W
 clear hl hs hb
 go_enter Tryz.func42, Tryz.ntmps42
 go_wp2_with fail
 refine W.out.mono ?_
 rintro e w1 ⟨A1, c1, rfl, hO, hg⟩
 have O := Lh (hO.lower B.out.size)
 have B1 := Lh (B.out.grown hg B.out.size (fun k hk => by injection hk with hk; omega))
 clear hO hg hmm
 go_wp2
 go_ret2
 exact ⟨A1, c1, rfl, O.out, B1.out⟩
theorem tabTo_lit (t : List Rc) (b : Txt) : tabTo t [b] = putR t b := by
 show (putR t b).bind (fun x => tabTo x []) = _
 cases putR t b <;> rfl
theorem pput11_any (A : Option Addr) (n c : Nat) (t : List Rc) (A' : Option Addr) (n' c' : Nat) (b : Txt) (w : World) (ht : Recs w A n c t) (hn : n ≤ 1000) (hb : Arg w .u8 A' n' c' b) (hby : ∀ z ∈ b, isByte z) (hn' : n' ≤ 100) :
  Calls Tryz.prog 35 #[.slice A n c, .slice A' n' c'] w (PutOut w (putR t b)) := by
 have T := Lh (ptableof_any A n c t w ht hn)
 have HB := Lh hb
 have BY := Lh hby
 have hlen := hb.len
 unfold OfTab at T
 unfold PutOut
 have WI := Lh (fun (B : Nat) w1 (hm : mayTab t) (hT : TabAt w1 B n t) (hx : Arg w1 .u8 A' n' c' b) => pwith_any B n t (some ⟨w1.heap.size, 0, none⟩) 1 1 [b] (w1.alloc (.cells #[.slice A' n' c'] 42)) hm (hT.below ((Below.refl _ _).alloc (Nat.le_refl _) _)) hn (texts_lit1 hx hby) (by decide) (fun y hy => by obtain rfl : y = 0 := (by omega); show b.length ≤ 100; omega))
 unfold WithOut at WI
 rw [tabTo_lit] at WI
 clear ht hb hby hlen
 go_enter Tryz.func35, Tryz.ntmps35
 go_wp2_with fail
 refine T.out.mono ?_
 rintro e w1 ⟨⟨hm, B, rfl, hT, hB⟩ | ⟨hm, rfl⟩, hb1⟩
 ·have B1 := Lh hb1
  have W := Lh (WI.out B w1 hm hT (HB.out.below hb1))
  have HBB := Lh hB
  clear hm hT hb1 hB WI
  go_wp2_with fail
  refine W.out.mono ?_
  rintro e w2 ⟨A2, c2, rfl, hO, hg⟩
  have hbl : Below w.heap.size w (w1.alloc (.cells #[.slice A' n' c'] 42)) := B1.out.alloc B1.out.size _
  have O := Lh (hO.lower hbl.size)
  have B2 := Lh (hbl.grown hg hbl.size (fun k hk => by injection hk with hk; have := HBB.out; omega))
  clear hO hg hbl
  go_wp2
  go_ret2
  exact ⟨A2, c2, rfl, O.out, B2.out⟩
 ·have HX := Lh (show putR t b = none from if_neg hm)
  have B1 := Lh hb1
  clear hm hb1 WI
  go_wp2
  go_ret2
  rw [HX.out]
  exact ⟨none, 0, rfl, OwnRecs.nil _ _, B1.out⟩
theorem pnotes11_any (A : Option Addr) (n c : Nat) (t : List Rc) (w : World) (ht : Recs w A n c t) (hn : n ≤ 1000) :
  Calls Tryz.prog 47 #[.slice A n c] w (NotesOut w (rnL t) (rnE t)) := by
 obtain ⟨i1, hi1, hy0, hy1, hy2⟩ := info_parts texts_info
 have hml : (1000 : Nat) ≤ maxLen := by decide
 have T := Lh (ptableof_any A n c t w ht hn)
 have HT := Lh ht
 have hlen := ht.len
 unfold OfTab at T
 unfold NotesOut
 by_cases hm : mayTab t
 ·rw [show rnL t = t.map recT from if_pos hm, show rnE t = 0 from if_pos hm, List.length_map, hlen]
  have MAY := Lh (fun k (hk : k < n) => ((mayTab_idx t).1 hm k (by rw [hlen]; exact hk)).1)
  have TF := Lh (show (t.map recT).take n = t.map recT by rw [← hlen, ← List.length_map (f := recT), List.take_length])
  have TS := Lh (fun k (hk : k < n) => show (t.map recT).take (k + 1) = (t.map recT).take k ++ [recT (t.getD k zR)] by
   rw [List.take_succ_eq_append_getElem (by rw [List.length_map, hlen]; exact hk)]
   simp [List.getD_eq_getElem?_getD, show k < t.length by rw [hlen]; exact hk])
  obtain ⟨Z, hZ⟩ : ∃ Z, Z = t.map recT := ⟨_, rfl⟩
  rw [← hZ] at TF TS ⊢
  have HM := Lh hm
  clear ht hm hlen hZ
  go_enter Tryz.func47, Tryz.ntmps47
  go_wp2_with fail
  refine T.out.mono ?_
  rintro e w1 ⟨⟨hm, B, rfl, hT, hB⟩ | ⟨hm, rfl⟩, hb1⟩
  ·have B1 := Lh hb1
   clear hm hT hB hb1 T
   go_wp2
   go_loopw [6, 21] (fun v i wr => ∃ k : Nat, k ≤ n ∧ i = .int .i64 k ∧ (∃ A' c', v = .slice A' k c' ∧ OwnTexts wr w.heap.size A' k c' (Z.take k)) ∧ Below w.heap.size w wr) (fun _ i _ => n - (intOf i).toNat)
   case atStart => exact ⟨0, Nat.zero_le _, rfl, ⟨none, 0, rfl, OwnTexts.nil _ _⟩, B1.out⟩
   case round =>
    clear B1
    obtain ⟨k, hk, rfl, ⟨A1, c1, rfl, hown⟩, hbel⟩ := hrel
    by_cases hkn : k < n
    ·have hki : (k : Int) < (n : Int) := by omega
     have HW := HT.out.below hbel
     obtain ⟨b, o, rfl, hlt, d0, d1, d2, d3, d4, d5, d6, d7⟩ := HW.row hkn
     have his := HW.is_at hkn
     have hmy := MAY.out k hkn
     have hst := TS.out k hkn
     obtain ⟨r, hr⟩ : ∃ r, r = t.getD k zR := ⟨_, rfl⟩
     rw [← hr] at d0 d1 d2 d3 d4 d5 d6 d7 his hmy hst
     obtain ⟨Q, hQ⟩ : ∃ Q, Q = Z.take k := ⟨_, rfl⟩
     rw [← hQ] at hown hst
     have HST := Lh hst
     have NT := Lh (show ∀ wx, Calls Tryz.prog 38 #[recV r] wx fun e w' => ∃ A c, e = .returned (.tuple #[.slice A 14 c, .int .i64 0]) ∧ w'.ownsRow wx.heap.size 5 1 (.slice A 14 c) 14 (ints .u8 (recT r)) ∧ Below wx.heap.size wx w' from fun wx => by
      have h := pnote11_any r wx his
      unfold RowOut at h
      rw [show ntB r = recT r from if_pos hmy, show rcE r = 0 from if_pos hmy, recT_length] at h
      exact h)
     obtain ⟨x, hbx⟩ := rec_box wr r
     obtain ⟨c0, c1', c2', c3, c4, c5, c6, c7⟩ := x.rec
     have O := Lh (hown.below hbx)
     have B := Lh (hbel.trans (hbx.mono hbel.size))
     clear hr hQ hown hbel his hmy hst HW x hbx
     go_wp2_with fail
     refine (NT.out _).mono ?_
     rintro e w2 ⟨A2, c2, rfl, hown2, hb2⟩
     have O2 := Lh (owns_base hown2 B.out.size)
     have O1 := Lh (O.out.below hb2)
     have B2 := Lh (B.out.trans (hb2.mono B.out.size))
     clear hown2 hb2 d0 d1 d2 d3 d4 d5 d6 d7 c0 c1' c2' c3 c4 c5 c6 c7
     go_wp2_with (at_builtin; (refine wpList_text w w2 rfl (.tmp 30) (.tmp 32) _ rfl i1 _ Tryz.underlying103 hi1 hy0 hy1 hy2 rfl w.heap.size A1 k c1 Q rfl O1.out A2 14 c2 (recT r) (recT_byte r) O2.out rfl (by omega) (by omega) B2.out (Nat.le_refl _) ?_); intro A3 c3 w3 hown3 hbel3; have O3 := Lh hown3; have B3 := Lh hbel3; clear hown3 hbel3)
     go_roundw
     case rel => exact ⟨k + 1, by omega, by go_num, ⟨A3, c3, rfl, by rw [HST.out]; exact O3.out⟩, B3.out⟩
     case measure => simp [intOf]; omega
    ·obtain rfl : k = n := by omega
     rw [TF.out] at hown
     have O := Lh hown
     have B := Lh hbel
     clear hown hbel
     go_wp2
     go_ret2
     exact ⟨A1, c1, rfl, O.out, B.out⟩
  ·exact absurd HM.out hm
 ·rw [show rnL t = [] from if_neg hm, show rnE t = 110 from if_neg hm]
  have HM := Lh hm
  clear ht hm hlen
  go_enter Tryz.func47, Tryz.ntmps47
  go_wp2_with fail
  refine T.out.mono ?_
  rintro e w1 ⟨⟨hm, B, rfl, hT, hB⟩ | ⟨hm, rfl⟩, hb1⟩
  ·exact absurd hm HM.out
  ·have B1 := Lh hb1
   clear hm hb1
   go_wp2
   go_ret2
   exact ⟨none, 0, rfl, OwnTexts.nil _ _, B1.out⟩
end Go.Proofs.YtifgcfepbenpjaaGreat
namespace Go.Proofs.YtifgcfepbenpjaaGreat
section
variable {P T A M W Q : Int} {S S' : List Sec} {C C' : List Pnd}
theorem cpL_range12 {S : List Sec} {C : List Pnd} {a m : Nat} {b : Txt} (h : cpE S C a m b = 0) : ∀ p ∈ cpL S C a m b, (a : Int) ≤ p.1 ∧ p.1 < (a : Int) + 2 * (m : Int) := by
 have hL : cpL S C a m b = writesP ((a : Int) + hF m (optsOf S C a (2 * m)) * (m : Int)) (cpT S C a m b) m := by unfold cpL; rw [if_pos h, Int.toNat_natCast]
 rw [hL]
 intro p hp
 unfold writesP someP at hp
 obtain ⟨i, hi, rfl⟩ := List.mem_map.1 hp
 have hi := List.mem_range.1 hi
 rw [if_pos hi]
 dsimp only
 rcases hF_two m (optsOf S C a (2 * m)) with h | h <;> rw [h] <;> omega
theorem busy_nil (S : List Sec) (x : Int) (n : Nat) : busyTo S [] x n = false := busy_no fun i _ => by
 unfold waB
 split <;> rfl
theorem sp_view (hm : mayT P T A M W Q S []) (hm' : mayT P T A M W Q S' []) (h0 : optAt S' [] 0 = optAt S [] 0) (h1 : optAt S' [] 1 = optAt S [] 1) (s : Sup) : spE P T A M W Q S' [] s = spE P T A M W Q S [] s ∧ spL P T A M W Q S' [] s = spL P T A M W Q S [] s := by
 have e : optsOf S' [] 0 (2 * (1 : Int).toNat) = optsOf S [] 0 (2 * (1 : Int).toNat) := by
  show [optAt S' [] 0, optAt S' [] 1] = [optAt S [] 0, optAt S [] 1]
  rw [h0, h1]
 have c : cpE S' [] 0 1 (suT s) = cpE S [] 0 1 (suT s) := by
  unfold cpE
  rw [cell_zero hm, cell_zero hm', busy_nil, busy_nil, e]
 have l : cpL S' [] 0 1 (suT s) = cpL S [] 0 1 (suT s) := by
  unfold cpL cpT
  rw [c, e]
 have h : spE P T A M W Q S' [] s = spE P T A M W Q S [] s := by
  unfold spE
  rw [if_pos hm, if_pos hm', c]
 refine ⟨h, ?_⟩
 unfold spL
 rw [h, l]
theorem su_away {s : Sup} (h : spE P T A M W Q S [] s = 0) (hmay : mayD S (spL P T A M W Q S [] s) = true) (F : List Int) {y : Int} (hy : 2 ≤ y) : optAt (crS S (spL P T A M W Q S [] s) F) [] y = optAt S [] y := by
 obtain ⟨hm, _, hp⟩ := spE_zero h
 have e : spL P T A M W Q S [] s = cpL S [] 0 1 (suT s) := if_pos h
 obtain ⟨base, l, hL⟩ : ∃ base l, cpL S [] 0 1 (suT s) = writesP base l 1 := ⟨_, _, if_pos hp⟩
 have hr := cpL_range12 (a := 0) (m := 1) hp (base, l.getD 0 []) (by
  rw [show ((0 : Nat) : Int) = 0 from rfl, show ((1 : Nat) : Int) = 1 from rfl, hL]
  unfold writesP someP
  simp)
 rw [e, hL] at hmay ⊢
 obtain ⟨hcm, hcl⟩ := cr_may hmay F
 by_cases hi : 0 ≤ y ∧ y < (S.length : Int)
 ·have k := optAt_crash (C := []) (base := base) (l := l) (k := 1) hm.2.1 (by rw [List.nil_append]; exact hmay) F hi.1 hi.2 rfl
  rw [List.nil_append] at k
  rcases k with k | ⟨k1, k2, _⟩
  ·exact k
  ·have := hr.2
   simp only at this
   omega
 ·rw [opt_out hcm (by rw [hcl]; exact hi), opt_out hm.2.1 hi]
theorem rowsT_at (g : Int) (t : List Rc) {k : Nat} (hk : k < t.length) : (rowsT g t).getD k [] = jT g (k : Int) (recT (t.getD k zR)) := by
 unfold rowsT
 simp [List.getD_eq_getElem?_getD, hk]
theorem rec20 (r : Rc) : (recT r).length ≤ 20 := by rw [recT_length]; decide
theorem rows_may (hm : mayT P T A M W Q S []) {a g : Int} (ha : arJ a) {t : List Rc} (h3 : t.length ≤ 3) {k : Nat} (hk : k ≤ t.length) : mayD S (writesP (2 + a * A) (rowsT g t) k) = true := by
 have hA : (3 : Int) ≤ A := by have := hm.1; unfold mayC at this; omega
 have h := hm.2.1
 rw [mayD_iff] at h ⊢
 refine ⟨⟨h.1.1, h.1.2.1, by unfold writesP; rw [someP_len]; omega⟩, h.2.1, fun p hp => ?_⟩
 unfold writesP someP at hp
 obtain ⟨i, hi, rfl⟩ := List.mem_map.1 hp
 have hik := List.mem_range.1 hi
 rw [if_pos hik]
 obtain ⟨b0, b1⟩ := at_area hm ha (n := i) (by omega)
 refine ⟨b0, b1, ?_⟩
 show ((rowsT g t).getD i []).length = 32
 rw [rowsT_at g t (by omega)]
 exact jT_length _ _ (rec20 _)
theorem rows_crash (hm : mayT P T A M W Q S []) {base : Int} {l : List Txt} {k : Nat} (hmay : mayD S (writesP base l k) = true) (F : List Int) {y : Int} (hy : ¬ (base ≤ y ∧ y < base + (k : Int))) : optAt (crS S (writesP base l k) F) [] y = optAt S [] y := by
 obtain ⟨hcm, hcl⟩ := cr_may hmay F
 by_cases hi : 0 ≤ y ∧ y < (S.length : Int)
 ·have c := optAt_crash (C := []) (base := base) (l := l) (k := k) hm.2.1 (by rw [List.nil_append]; exact hmay) F hi.1 hi.2 rfl
  rw [List.nil_append] at c
  rcases c with c | ⟨k1, k2, _⟩
  ·exact c
  ·exact absurd ⟨k1, k2⟩ hy
 ·rw [opt_out hcm (by rw [hcl]; exact hi), opt_out hm.2.1 hi]
theorem area_off {a : Int} (ha : arJ a) (hA : 3 ≤ A) : (∀ j : Nat, (j : Int) < A → ¬ (2 + (1 - a) * A ≤ 2 + a * A + (j : Int) ∧ 2 + a * A + (j : Int) < 2 + (1 - a) * A + A)) ∧ 2 ≤ 2 + (1 - a) * A ∧ 2 ≤ 2 + a * A := by
 unfold arJ at ha
 rcases (show a = 0 ∨ a = 1 by omega) with r | r <;> subst r
 ·refine ⟨fun j hj => ?_, by omega, by omega⟩
  rw [show (1 - 0 : Int) * A = A by omega, show (0 : Int) * A = 0 by omega]
  omega
 ·refine ⟨fun j hj => ?_, by omega, by omega⟩
  rw [show (1 - 1 : Int) * A = 0 by omega, show (1 : Int) * A = A by omega]
  omega
end
section
variable {P T A M W Q : Int} {S : List Sec} {m : Mt} {b : Txt}
theorem three_of12 {t : List Rc} (h : mayTab t) : t.length ≤ 3 := by
 match t with
 | [] | [_] | [_, _] | [_, _, _] => simp
 | a :: b :: c :: d :: l =>
  exfalso
  have h' := (mayTab_iff _).1 h
  have ha := (h'.1 a (by simp)).1
  have hd := (h'.1 d (by simp)).1
  obtain ⟨h1, h2⟩ := List.pairwise_cons.1 h'.2
  obtain ⟨h3, h4⟩ := List.pairwise_cons.1 h2
  obtain ⟨h5, _⟩ := List.pairwise_cons.1 h4
  have := h1 b (by simp)
  have := h3 c (by simp)
  have := h5 d (by simp)
  omega
theorem note_len {t x : List Rc} (h : putR t b = some x) : 1 ≤ b.length ∧ b.length ≤ 20 := by
 unfold putR at h
 split at h
 ·unfold putN at h
  split at h
  ·rename_i hg
   have := hg.1
   omega
  ·split at h
   ·rename_i hn
    have := hn.1
    omega
   ·cases h
 ·cases h
theorem arJ_of {a : Int} (h : arS a) : arJ a := by unfold arS at h; unfold arJ; omega
theorem met_one (hm : mayT P T A M W Q S []) (hT : Tells P T A M W Q S m.s m.t m.n) (hk : mayM P T A M W Q m) (hg : isG m.s.2.2) (hf : fineM A S [] m) {t' : List Rc} (hp : putR m.t b = some t') (hn : m.n < A) (F : List Int) :
  mayD S [(2 + m.s.2.1 * A + m.n, jT m.s.2.2 m.n b)] = true ∧
  (Tells P T A M W Q (crS S [(2 + m.s.2.1 * A + m.n, jT m.s.2.2 m.n b)] F) m.s m.t m.n ∨ Tells P T A M W Q (crS S [(2 + m.s.2.1 * A + m.n, jT m.s.2.2 m.n b)] F) m.s t' (m.n + 1)) ∧
  Tells P T A M W Q (flS S [(2 + m.s.2.1 * A + m.n, jT m.s.2.2 m.n b)]) m.s t' (m.n + 1) := by
 obtain ⟨o1, o2, o3, o4⟩ := tells_out hT
 obtain ⟨_, harea, ⟨hn0, _⟩, _, _⟩ := hk
 have ha := arJ_of harea
 obtain ⟨b1, b2⟩ := note_len hp
 obtain ⟨n, hN⟩ : ∃ n : Nat, m.n = (n : Int) := ⟨m.n.toNat, by omega⟩
 rw [hN] at o4 hn ⊢
 have hA : (3 : Int) ≤ A := by have := hm.1; unfold mayC at this; omega
 have J := fun F => jrn_tells hm ha hg b1 b2 (n := n) (by omega) hn F
 obtain ⟨hmay, j1, j2, _, _⟩ := J F
 have off : ∀ y, y ≠ 2 + m.s.2.1 * A + (n : Int) → ∀ F, optAt (crS S [(2 + m.s.2.1 * A + (n : Int), jT m.s.2.2 (n : Int) b)] F) [] y = optAt S [] y := fun y hy F => (crash_one hm.2.1 hmay F).1 y hy
 have hx2 : 2 ≤ 2 + m.s.2.1 * A := (area_off ha hA).2.2
 have key : ∀ F, mayT P T A M W Q (crS S [(2 + m.s.2.1 * A + (n : Int), jT m.s.2.2 (n : Int) b)] F) [] ∧ srE P T A M W Q (crS S [(2 + m.s.2.1 * A + (n : Int), jT m.s.2.2 (n : Int) b)] F) [] = 0 ∧ srV P T A M W Q (crS S [(2 + m.s.2.1 * A + (n : Int), jT m.s.2.2 (n : Int) b)] F) [] = m.s ∧ (jN (jf (crS S [(2 + m.s.2.1 * A + (n : Int), jT m.s.2.2 (n : Int) b)] F) [] A m.s.2.1 m.s.2.2) A.toNat).length ≤ n + 1 := fun F => by
  obtain ⟨c1, c2⟩ := cr_may hmay F
  have hm' := may_len hm c1 c2
  obtain ⟨s1, s2⟩ := sr_view hm hm' (off 0 (by omega) F) (off 1 (by omega) F)
  refine ⟨hm', s1.trans o1, s2.trans o2, ?_⟩
  rw [jN_length]
  by_cases he : ((n + 1 : Nat) : Int) < A
  ·rcases Nat.lt_or_ge (n + 1) (jM (jf (crS S [(2 + m.s.2.1 * A + (n : Int), jT m.s.2.2 (n : Int) b)] F) [] A m.s.2.1 m.s.2.2) A.toNat) with k | k
   ·exfalso
    have hne := jM_have _ _ (n + 1) k
    unfold jf at hne
    rw [off _ (by omega) F] at hne
    cases hx : optAt S [] (2 + m.s.2.1 * A + ((n + 1 : Nat) : Int)) with
    | none => rw [hx] at hne; exact hne rfl
    | some x =>
     rw [hx] at hne
     exact (hf m.s.2.1 (n + 1) ha he (fun k => by have := k.2; omega) x hx).1 (beg_note hg hne)
   ·exact k
  ·have := jM_le (jf (crS S [(2 + m.s.2.1 * A + (n : Int), jT m.s.2.2 (n : Int) b)] F) [] A m.s.2.1 m.s.2.2) A.toNat
   omega
 have lenN : (jN (jf S [] A m.s.2.1 m.s.2.2) A.toNat).length = n := by omega
 have new : ∀ F, begL (jN (jf (crS S [(2 + m.s.2.1 * A + (n : Int), jT m.s.2.2 (n : Int) b)] F) [] A m.s.2.1 m.s.2.2) A.toNat) (jN (jf S [] A m.s.2.1 m.s.2.2) A.toNat) b → Tells P T A M W Q (crS S [(2 + m.s.2.1 * A + (n : Int), jT m.s.2.2 (n : Int) b)] F) m.s t' ((n : Int) + 1) := fun F hb => by
  obtain ⟨_, k2, k3, k4⟩ := key F
  have e := begL_eq hb (by rw [lenN]; exact k4)
  have T := tells_of k2 k3 e (t := t') (by
   unfold tabR
   rw [tabTo_app]
   have : tabTo [] (jN (jf S [] A m.s.2.1 m.s.2.2) A.toNat) = some m.t := o3
   rw [this]
   show (putR m.t b).bind (fun x => tabTo x []) = _
   rw [hp]
   rfl)
  rw [List.length_append, lenN] at T
  exact T
 refine ⟨hmay, ?_, new _ j2⟩
 rcases j1 with j | j
 ·left
  obtain ⟨_, k2, k3, _⟩ := key F
  have T := tells_of k2 k3 j o3
  rw [lenN] at T
  exact T
 ·exact .inr (new F j)
theorem met_anew (hm : mayT P T A M W Q S []) (hT : Tells P T A M W Q S m.s m.t m.n) (hk : mayM P T A M W Q m) (hs : isS (anewS m)) (hf : fineM A S [] m) {t' : List Rc} (hp : putR m.t b = some t') (hall : allR t')
  (hsp : spE P T A M W Q S [] (anewS m) = 0) (hS1 : ∀ x ∈ flS S (rowsP A (1 - m.s.2.1) (nextM m) t'), ∀ z ∈ x.2, isByte z) :
  (∀ k, k ≤ t'.length → mayD S (writesP (2 + (1 - m.s.2.1) * A) (rowsT (nextM m) t') k) = true ∧ ∀ F, Tells P T A M W Q (crS S (writesP (2 + (1 - m.s.2.1) * A) (rowsT (nextM m) t') k) F) m.s m.t m.n) ∧
  (mayT P T A M W Q (flS S (rowsP A (1 - m.s.2.1) (nextM m) t')) [] ∧ Tells P T A M W Q (flS S (rowsP A (1 - m.s.2.1) (nextM m) t')) m.s m.t m.n) ∧
  spL P T A M W Q (flS S (rowsP A (1 - m.s.2.1) (nextM m) t')) [] (anewS m) = spL P T A M W Q S [] (anewS m) ∧
  mayD (flS S (rowsP A (1 - m.s.2.1) (nextM m) t')) (spL P T A M W Q S [] (anewS m)) = true ∧
  (∀ F, Tells P T A M W Q (crS (flS S (rowsP A (1 - m.s.2.1) (nextM m) t')) (spL P T A M W Q S [] (anewS m)) F) m.s m.t m.n ∨ Tells P T A M W Q (crS (flS S (rowsP A (1 - m.s.2.1) (nextM m) t')) (spL P T A M W Q S [] (anewS m)) F) (anewS m) t' (t'.length : Int)) ∧
  Tells P T A M W Q (flS (flS S (rowsP A (1 - m.s.2.1) (nextM m) t')) (spL P T A M W Q S [] (anewS m))) (anewS m) t' (t'.length : Int) := by
 obtain ⟨o1, o2, o3, o4⟩ := tells_out hT
 obtain ⟨_, harea, ⟨hn0, hnA⟩, _, _⟩ := hk
 have ha := arJ_of harea
 have harea' : arS (1 - m.s.2.1) := by unfold arS at harea ⊢; omega
 have ha' := arJ_of harea'
 have ht' := (put_may hp).2
 have h3 : t'.length ≤ 3 := three_of12 ht'
 have hg' : isG (nextM m) := hs.2
 have hA : (3 : Int) ≤ A := by have := hm.1; unfold mayC at this; omega
 have hA32 : A ≤ 32 := by have := hm.1; unfold mayC at this; omega
 obtain ⟨off, off2, _⟩ := area_off ha hA
 have lenN : ((jN (jf S [] A m.s.2.1 m.s.2.2) A.toNat).length : Int) = m.n := o4.symm
 have same : ∀ S', mayT P T A M W Q S' [] → (∀ y, y < 2 ∨ (∃ j : Nat, (j : Int) < A ∧ y = 2 + m.s.2.1 * A + (j : Int)) → optAt S' [] y = optAt S [] y) → Tells P T A M W Q S' m.s m.t m.n := fun S' hm' hy => by
  obtain ⟨s1, s2⟩ := sr_view hm hm' (hy 0 (.inl (by omega))) (hy 1 (.inl (by omega)))
  have T := tells_of (s1.trans o1) (s2.trans o2) (l := jN (jf S [] A m.s.2.1 m.s.2.2) A.toNat) (jl_view fun k hk => hy _ (.inr ⟨k, hk, rfl⟩)) o3
  rw [lenN] at T
  exact T
 have away : ∀ k, k ≤ t'.length → ∀ F y, y < 2 ∨ (∃ j : Nat, (j : Int) < A ∧ y = 2 + m.s.2.1 * A + (j : Int)) → optAt (crS S (writesP (2 + (1 - m.s.2.1) * A) (rowsT (nextM m) t') k) F) [] y = optAt S [] y := fun k hk F y hy => by
  refine rows_crash hm (rows_may hm ha' h3 hk) F fun h => ?_
  rcases hy with hy | ⟨j, hj, rfl⟩
  ·omega
  ·exact off j hj ⟨h.1, by omega⟩
 have part1 : ∀ k, k ≤ t'.length → mayD S (writesP (2 + (1 - m.s.2.1) * A) (rowsT (nextM m) t') k) = true ∧ ∀ F, mayT P T A M W Q (crS S (writesP (2 + (1 - m.s.2.1) * A) (rowsT (nextM m) t') k) F) [] ∧ Tells P T A M W Q (crS S (writesP (2 + (1 - m.s.2.1) * A) (rowsT (nextM m) t') k) F) m.s m.t m.n := fun k hk => by
  have hmay := rows_may hm ha' (g := nextM m) h3 hk
  refine ⟨hmay, fun F => ?_⟩
  obtain ⟨c1, c2⟩ := cr_may hmay F
  have hm' := may_len hm c1 c2
  exact ⟨hm', same _ hm' (away k hk F)⟩
 have hmR := (part1 t'.length (Nat.le_refl _)).1
 have P2 := (part1 t'.length (Nat.le_refl _)).2 (List.replicate (writesP (2 + (1 - m.s.2.1) * A) (rowsT (nextM m) t') t'.length).length 1)
 change mayT P T A M W Q (flS S (rowsP A (1 - m.s.2.1) (nextM m) t')) [] ∧ Tells P T A M W Q (flS S (rowsP A (1 - m.s.2.1) (nextM m) t')) m.s m.t m.n at P2
 obtain ⟨hm1, T1⟩ := P2
 have awayF : ∀ y, y < 2 ∨ (∃ j : Nat, (j : Int) < A ∧ y = 2 + m.s.2.1 * A + (j : Int)) → optAt (flS S (rowsP A (1 - m.s.2.1) (nextM m) t')) [] y = optAt S [] y := fun y hy => away t'.length (Nat.le_refl _) _ y hy
 have newA : ∀ j : Nat, (j : Int) < A → optAt (flS S (rowsP A (1 - m.s.2.1) (nextM m) t')) [] (2 + (1 - m.s.2.1) * A + (j : Int)) = if j < t'.length then some (jT (nextM m) (j : Int) (recT (t'.getD j zR))) else optAt S [] (2 + (1 - m.s.2.1) * A + (j : Int)) := fun j hj => by
  unfold rowsP
  rw [optAt_flush hmR]
  obtain ⟨b0, b1⟩ := at_area hm ha' hj
  have k := optAt_writes (C := []) (base := 2 + (1 - m.s.2.1) * A) (l := rowsT (nextM m) t') (m := t'.length) hm.2.1 (by rw [List.nil_append]; exact hmR) b0 b1
  rw [List.nil_append] at k
  rw [k]
  by_cases hjt : j < t'.length
  ·rw [if_pos ⟨by omega, by omega⟩, if_pos hjt, show (2 + (1 - m.s.2.1) * A + (j : Int) - (2 + (1 - m.s.2.1) * A)).toNat = j by omega, rowsT_at _ _ hjt]
  ·rw [if_neg (by omega), if_neg hjt]
 obtain ⟨sp1, sp2⟩ := sp_view hm hm1 (awayF 0 (.inl (by omega))) (awayF 1 (.inl (by omega))) (anewS m)
 obtain ⟨L, hL⟩ : ∃ L, L = spL P T A M W Q S [] (anewS m) := ⟨_, rfl⟩
 obtain ⟨S1, hS1e⟩ : ∃ S1, S1 = flS S (rowsP A (1 - m.s.2.1) (nextM m) t') := ⟨_, rfl⟩
 rw [← hS1e] at hm1 T1 awayF newA sp1 sp2 hS1 ⊢
 rw [← hL] at sp2 ⊢
 have hsp1 : spE P T A M W Q S1 [] (anewS m) = 0 := sp1.trans hsp
 have hL1 : spL P T A M W Q S1 [] (anewS m) = cpL S1 [] 0 1 (suT (anewS m)) := if_pos hsp1
 have ST := fun F => sup_tells hsp1 hs hS1 (fun p hp => by cases hp) (by simp) F
 rw [List.nil_append, ← hL1, sp2] at ST
 have hmL : mayD S1 L = true := (ST []).1
 have aw := fun F (y : Int) (hy : 2 ≤ y) => (show optAt (crS S1 L F) [] y = optAt S1 [] y from by
  have := su_away hsp1 (by rw [sp2]; exact hmL) F hy
  rwa [sp2] at this)
 obtain ⟨T1a, T1b, T1c, T1d⟩ := T1
 have e1 : srE P T A M W Q S1 [] = 0 ∧ srV P T A M W Q S1 [] = m.s := by
  obtain ⟨s1, s2⟩ := sr_view hm hm1 (awayF 0 (.inl (by omega))) (awayF 1 (.inl (by omega)))
  exact ⟨s1.trans o1, s2.trans o2⟩
 have notes : ∀ F, jN (jf (crS S1 L F) [] A (1 - m.s.2.1) (nextM m)) A.toNat = t'.map recT := fun F => by
  have hfk : ∀ j : Nat, j < t'.length → jf (crS S1 L F) [] A (1 - m.s.2.1) (nextM m) j = recT (t'.getD j zR) := fun j hj => by
   unfold jf
   rw [aw F _ (by omega), newA j (by omega), if_pos hj]
   exact noteT_new hg' (by omega) (by rw [recT_length]; decide) (rec20 _)
  have hM : jM (jf (crS S1 L F) [] A (1 - m.s.2.1) (nextM m)) A.toNat = t'.length := jM_is (by omega) (fun j hj => by
   rw [hfk j hj]
   intro e
   have := recT_length (t'.getD j zR)
   rw [e] at this
   cases this) (by
   by_cases he : (t'.length : Int) < A
   ·right
    unfold jf
    rw [aw F _ (by omega), newA _ he, if_neg (by omega)]
    cases hx : optAt S [] (2 + (1 - m.s.2.1) * A + (t'.length : Int)) with
    | none => rfl
    | some x =>
     refine Classical.byContradiction fun hne => ?_
     exact (hf (1 - m.s.2.1) t'.length ha' he (fun k => by have := k.1; unfold arS at harea; omega) x hx).2 (beg_note hg' hne)
   ·left; omega)
  unfold jN
  rw [hM]
  refine List.ext_getElem (by simp) fun i h1 h2 => ?_
  have hi : i < t'.length := by simpa using h2
  rw [List.getElem_map, List.getElem_range, List.getElem_map, hfk i hi]
  simp [List.getD_eq_getElem?_getD, hi]
 have newT : ∀ F, srE P T A M W Q (crS S1 L F) [] = 0 → srV P T A M W Q (crS S1 L F) [] = anewS m → Tells P T A M W Q (crS S1 L F) (anewS m) t' (t'.length : Int) := fun F k1 k2 => by
  have T := tells_of k1 k2 (l := t'.map recT) (notes F) (tab_back ht' hall)
  rw [List.length_map] at T
  exact T
 refine ⟨fun k hk => ⟨(part1 k hk).1, fun F => ((part1 k hk).2 F).2⟩, ⟨hm1, T1a, T1b, T1c, T1d⟩, sp2, hmL, fun F => ?_, ?_⟩
 ·rcases (ST F).2.2.1 with ⟨k1, k2⟩ | ⟨k1, k2⟩
  ·left
   obtain ⟨c1, c2⟩ := cr_may hmL F
   have T := tells_of (S := crS S1 L F) (k1.trans e1.1) (k2.trans e1.2) (l := jN (jf S [] A m.s.2.1 m.s.2.2) A.toNat) (jl_view fun j hj => by rw [aw F _ (by have := (area_off ha hA).2.2; omega)]; exact awayF _ (.inr ⟨j, hj, rfl⟩)) o3
   rw [lenN] at T
   exact T
  ·exact .inr (newT F k1 k2)
 ·have k := (ST []).2.2.2
  exact newT _ k.1 k.2
end
end Go.Proofs.YtifgcfepbenpjaaGreat
