/- Texts of layers 1 to 12, joined. -/
import Derived.Test.YtifgcfepbenpjaaGreatOa26
import Derived.Laws.StructEq
import Derived.StillTailTactics
import Derived.Deep.Cut
import Derived.Deep.CutBlock
import Derived.Deep.CutRange
set_option maxRecDepth 100000
set_option maxHeartbeats 12800000
set_option linter.unusedVariables false
namespace Go.Proofs.YtifgcfepbenpjaaGreat
open Go.RowKit Go.OpenShut Go.ChangeShapes Go.WideShapes Go.Deep Go.Joins
abbrev supV (v a g : Int) : Value := .agg #[.int .u32 v, .int .i64 a, .int .u64 g]
abbrev supL (v a g : Int) : List Value := [.int .u32 v, .int .i64 a, .int .u64 g]
theorem eq_sup (a b c a' b' c' : Int) (w : World) : (Op.equalIn 10000 29 (supV a b c) (supV a' b' c')).run Tryz.prog w = .ok (a == a' && b == b' && c == c') w := by
 have u1 := Tryz.underlying26
 have u2 := Tryz.underlying3
 have u3 := Tryz.underlying27
 have hS : Tryz.prog.underlying 29 = some (.struct (Tryz.prog.fieldsOf 29)) := by kernel_rfl
 have hp : Tryz.prog.stoodInHeld 29 = false := by kernel_rfl
 rw [show (10000 : Nat) = 9999 + 1 from rfl, run_equalIn_agg w 9999 29 _ _ hS hp]
 simp only [Program.fieldsOf, Tryz.underlying29]
 go_simp
 by_cases h1 : a = a' <;> by_cases h2 : b = b' <;> by_cases h3 : c = c' <;> simp [h1, h2, h3]
structure SBox (w : World) (G : Nat) (P T A M W Q : Int) (D : Option Addr) (n c : Nat) (D' : Option Addr) (n' c' : Nat) (S : List Sec) (C : List Pnd) (v a g : Int) : Prop where
 two : TBox w G P T A M W Q D n c D' n' c' S C
 sup : Blk w (G + 2) 29 (supL v a g)
section
variable {w w' : World} {G : Nat} {P T A M W Q v a g : Int} {D D' : Option Addr} {n c n' c' : Nat} {S : List Sec} {C : List Pnd}
theorem SBox.below (x : SBox w G P T A M W Q D n c D' n' c' S C v a g) (hb : Below w.heap.size w w') : SBox w' G P T A M W Q D n c D' n' c' S C v a g := ⟨x.two.below hb, x.sup.below hb x.sup.lt⟩
theorem SBox.new (P T A M W Q v a g : Int) (t : Dsk w D n c D' n' c' S C) : SBox (((w.alloc (.cells #[.int .i64 P, .int .i64 T, .int .i64 A, .int .i64 M, .int .i64 W, .int .i64 Q] 36)).alloc (.cells #[.slice D n c, .slice D' n' c'] 25)).alloc (.cells #[.int .u32 v, .int .i64 a, .int .u64 g] 29)) w.heap.size P T A M W Q D n c D' n' c' S C v a g ∧ Below w.heap.size w (((w.alloc (.cells #[.int .i64 P, .int .i64 T, .int .i64 A, .int .i64 M, .int .i64 W, .int .i64 Q] 36)).alloc (.cells #[.slice D n c, .slice D' n' c'] 25)).alloc (.cells #[.int .u32 v, .int .i64 a, .int .u64 g] 29)) := by
 obtain ⟨x, hb⟩ := TBox.new P T A M W Q t
 have hk := (Below.refl ((w.alloc (.cells #[.int .i64 P, .int .i64 T, .int .i64 A, .int .i64 M, .int .i64 W, .int .i64 Q] 36)).alloc (.cells #[.slice D n c, .slice D' n' c'] 25)).heap.size _).alloc (Nat.le_refl _) (.cells #[.int .u32 v, .int .i64 a, .int .u64 g] 29)
 have y := Blk.new ((w.alloc (.cells #[.int .i64 P, .int .i64 T, .int .i64 A, .int .i64 M, .int .i64 W, .int .i64 Q] 36)).alloc (.cells #[.slice D n c, .slice D' n' c'] 25)) 29 [.int .u32 v, .int .i64 a, .int .u64 g]
 rw [World.size_alloc, World.size_alloc] at y
 exact ⟨⟨x.below hk, y⟩, hb.alloc hb.size _⟩
theorem SBox.cells (x : SBox w G P T A M W Q D n c D' n' c' S C v a g) : w.cell? ⟨G, 0, none⟩ = some (.int .i64 P) ∧ w.cell? ⟨G, 1, none⟩ = some (.int .i64 T) ∧ w.cell? ⟨G, 2, none⟩ = some (.int .i64 A) ∧ w.cell? ⟨G, 3, none⟩ = some (.int .i64 M) ∧ w.cell? ⟨G, 4, none⟩ = some (.int .i64 W) ∧ w.cell? ⟨G, 5, none⟩ = some (.int .i64 Q) ∧
  w.cell? ⟨G + 1, 0, none⟩ = some (.slice D n c) ∧ w.cell? ⟨G + 1, 1, none⟩ = some (.slice D' n' c') ∧ w.cell? ⟨G + 2, 0, none⟩ = some (.int .u32 v) ∧ w.cell? ⟨G + 2, 1, none⟩ = some (.int .i64 a) ∧ w.cell? ⟨G + 2, 2, none⟩ = some (.int .u64 g) := by
 obtain ⟨c0, c1, c2, c3, c4, c5, d0, d1⟩ := x.two.cells
 exact ⟨c0, c1, c2, c3, c4, c5, d0, d1, x.sup.cell 0, x.sup.cell 1, x.sup.cell 2⟩
end
theorem Blk.tri {w : World} {g : Nat} {t : TypeId} {a b c : Value} (h : Blk w g t [a, b, c]) : w.cell? ⟨g, 0, none⟩ = some a ∧ w.cell? ⟨g, 1, none⟩ = some b ∧ w.cell? ⟨g, 2, none⟩ = some c := ⟨h.cell 0, h.cell 1, h.cell 2⟩
theorem ssizes_any (w : World) : Calls Tryz.prog 124 #[] w fun e w' => ∃ g, e = .returned (.slice (some ⟨g, 0, none⟩) 3 3) ∧ Arg w' .i64 (some ⟨g, 0, none⟩) 3 3 sz3 ∧ Below w.heap.size w w' := by
 have hml : 3 ≤ maxLen := by decide
 have HA := Lh (show Arg (w.alloc (.cells #[.int .i64 4, .int .i64 1, .int .i64 8] 3)) .i64 (some ⟨w.heap.size, 0, none⟩) 3 3 sz3 from ⟨lit_row w 3 .i64 sz3 _ _ _ rfl rfl (by simp), rfl, Nat.le_refl _, hml⟩)
 go_enter Tryz.func124, Tryz.ntmps124
 go_wp2
 go_ret
 exact ⟨_, rfl, HA.out, (Below.refl _ _).alloc (Nat.le_refl _) _⟩
theorem nums_sup (w : World) (v a g : Int) (b B : Nat) (hb : b = w.heap.size) (hB : w.heap.size < B) : Seq (w.alloc (.cells #[.int .u64 v, .int .u64 a, .int .u64 g] 27)) B (some ⟨b, 0, none⟩) (ints .u64 [v, a, g]) := lit_row w 27 .u64 [v, a, g] _ _ _ rfl hb hB
theorem srow_any (v a g : Int) (hs : isS (v, a, g)) (ha : arS a) (w : World) :
  Calls Tryz.prog 156 #[supV v a g] w fun e w' => ∃ A c, e = .returned (.slice A 13 c) ∧ w'.ownsRow w.heap.size 5 1 (.slice A 13 c) 13 (ints .u8 (suT (v, a, g))) ∧ Below w.heap.size w w' := by
 have x := Blk.new w 29 [.int .u32 v, .int .i64 a, .int .u64 g]
 have hbel : Below w.heap.size w (w.alloc (.cells #[.int .u32 v, .int .i64 a, .int .u64 g] 29)) := (Below.refl _ _).alloc (Nat.le_refl _) _
 obtain ⟨⟨hv0, hv1⟩, hg0, hg1⟩ := hs
 dsimp only at hv0 hv1 hg0 hg1
 have ha1 : 0 ≤ a ∧ a < 256 := by unfold arS at ha; omega
 have FT := Lh (show fitsTo [v, a, g] sz3 sz3.length = true from fits3 (s := (v, a, g)) ⟨⟨hv0, hv1⟩, hg0, hg1⟩ ha1)
 have W1 := Lh (show ∀ z ∈ [v, a, g], isWord z by
  intro z hz
  simp only [List.mem_cons, List.not_mem_nil, or_false] at hz
  unfold isWord
  rcases hz with rfl | rfl | rfl <;> omega)
 have X := Lh x
 have BL := Lh hbel
 have e1 : IntKind.u64.wrap v = v := wraps_u64 v hv0 (by omega)
 have e2 : IntKind.u64.wrap a = a := wraps_u64 a ha1.1 (by omega)
 clear x hbel hv0 hv1 hg0 hg1 ha1 ha
 go_enter Tryz.func156, Tryz.ntmps156
 go_upto_region 1 with fail
 obtain ⟨v1, hW⟩ : ∃ x : World, x = w.alloc (.cells #[.int .u32 v, .int .i64 a, .int .u64 g] 29) := ⟨_, rfl⟩
 rw [← hW] at X BL ⊢
 have hlt : w.heap.size < v1.heap.size := X.out.lt
 clear hW
 have hcur : Below v1.heap.size v1 v1.drew := below_drewN (Below.refl _ _) 1
 have keepX : ∀ wx, Below v1.heap.size v1 wx → wx.cell? ⟨w.heap.size, 0, none⟩ = some (.int .u32 v) ∧ wx.cell? ⟨w.heap.size, 1, none⟩ = some (.int .i64 a) ∧ wx.cell? ⟨w.heap.size, 2, none⟩ = some (.int .u64 g) := fun wx hx => (X.out.below hx hlt).tri
 have hkX := keepX _ hcur
 go_region_held3 (fun w' => w'.cell? ⟨w.heap.size, 0, none⟩ = some (.int .u32 v) ∧ w'.cell? ⟨w.heap.size, 1, none⟩ = some (.int .i64 a) ∧ w'.cell? ⟨w.heap.size, 2, none⟩ = some (.int .u64 g))
  (first | exact hkX | exact keepX _ (hcur.alloc hcur.size _) | exact keepX _ (below_drewN ((Below.refl _ _).alloc (Nat.le_refl _) _) 1) | go_keep)
  (first
   | (go_at_call 124; with_reducible refine (ssizes_any v1.drew).mono ?_; rintro e wS ⟨gS, rfl, hAS, hbS⟩; have hcur := hcur.trans (hbS.mono hcur.size); have hkX := keepX _ hcur)
   | (go_at_call 124; have hL := nums_sup v1 v a g v1.heap.size (v1.heap.size + 1) rfl (Nat.lt_succ_self _); have hcur : Below v1.heap.size v1 (v1.alloc (.cells #[.int .u64 v, .int .u64 a, .int .u64 g] 27)).drew := below_drewN ((Below.refl _ _).alloc (Nat.le_refl _) _) 1; have hL : Seq (v1.alloc (.cells #[.int .u64 v, .int .u64 a, .int .u64 g] 27)).drew (v1.heap.size + 1) (some ⟨v1.heap.size, 0, none⟩) (ints .u64 [v, a, g]) := hL.keep fun _ _ => rfl; with_reducible refine (ssizes_any _).mono ?_; rintro e wS ⟨gS, rfl, hAS, hbS⟩; have hL := (hL.below (hbS.mono (by simp))).more (B' := wS.heap.size) (Nat.le_trans (by simp) hbS.size); have hcur := hcur.trans (hbS.mono hcur.size); have hkX := keepX _ hcur)
   | (go_at_call 74; with_reducible refine (write_ok (some ⟨v1.heap.size, 0, none⟩) (some ⟨gS, 0, none⟩) 3 3 3 3 [v, a, g] sz3 _ hAS.seq rfl okB_sz3 hL rfl rfl W1.out).mono ?_; intro e w2 hout; have hM := hcur.size; obtain ⟨A2, c2, rfl, hown, hb⟩ := (WroteOut.yes hout FT.out).len (zs' := suT (v, a, g)) (n := 13) rfl (suT_length _); have hcur := hcur.trans (hb.mono hcur.size); have hkX := keepX _ hcur)
   | (go_at_call 74; have hL := nums_sup wS v a g wS.heap.size (wS.heap.size + 1) rfl (Nat.lt_succ_self _); have hL := hL.more (B' := (wS.alloc (.cells #[.int .u64 v, .int .u64 a, .int .u64 g] 27)).heap.size) (by simp); have hAS := hAS.below ((Below.refl wS.heap.size wS).alloc (Nat.le_refl _) (.cells #[.int .u64 v, .int .u64 a, .int .u64 g] 27)); have hcur := hcur.alloc hcur.size (.cells #[.int .u64 v, .int .u64 a, .int .u64 g] 27); with_reducible refine (write_ok (some ⟨wS.heap.size, 0, none⟩) (some ⟨gS, 0, none⟩) 3 3 3 3 [v, a, g] sz3 _ hAS.seq rfl okB_sz3 hL rfl rfl W1.out).mono ?_; intro e w2 hout; have hM := hcur.size; obtain ⟨A2, c2, rfl, hown, hb⟩ := (WroteOut.yes hout FT.out).len (zs' := suT (v, a, g)) (n := 13) rfl (suT_length _); have hcur := hcur.trans (hb.mono hcur.size); have hkX := keepX _ hcur))
 all_goals (
  have hfin := BL.out.trans (hcur.mono BL.out.size)
  have hown := hown
  go_wp2
  go_ret
  exact ⟨A2, c2, rfl, owns_base hown (Nat.le_trans BL.out.size hM), hfin⟩)
theorem maybe_any (v a g : Int) (w : World) : Calls Tryz.prog 125 #[supV v a g] w fun e w' => e = .returned (.bool (decide (arS a))) ∧ Below w.heap.size w w' := by
 have x := Blk.new w 29 [.int .u32 v, .int .i64 a, .int .u64 g]
 have hbel : Below w.heap.size w (w.alloc (.cells #[.int .u32 v, .int .i64 a, .int .u64 g] 29)) := (Below.refl _ _).alloc (Nat.le_refl _) _
 obtain ⟨c0, c1, c2⟩ := x.tri
 have B := Lh hbel
 have ev : (v == v) = true := beq_self_eq_true _
 have eg : (g == g) = true := beq_self_eq_true _
 have EQ := fun (k : Int) (wx : World) => eq_sup v a g v k g wx
 obtain ⟨r, hr⟩ : ∃ r, r = decide (arS a) := ⟨_, rfl⟩
 rw [← hr]
 have HR := Lh hr
 clear x hbel hr
 go_enter Tryz.func125, Tryz.ntmps125
 go_wp2
 go_loop [4, 3] (fun i _ => ∃ k : Nat, k ≤ 2 ∧ i = .int .i64 k ∧ ∀ j : Nat, j < k → a ≠ (j : Int)) (fun i _ => 2 - (intOf i).toNat)
 case atStart => exact ⟨0, Nat.zero_le _, rfl, fun j h => absurd h (Nat.not_lt_zero _)⟩
 case round =>
  obtain ⟨k, hk, rfl, hn⟩ := hrel
  have HN := Lh hn
  clear hn
  by_cases hkm : k < 2
  ·have hki : (k : Int) < 2 := by omega
   by_cases hak : a = (k : Int)
   ·have hb1 : (a == (k : Int)) = true := beq_iff_eq.2 hak
    have hd : r = true := HR.out.trans (decide_eq_true (by unfold arS; omega))
    subst hd
    clear hak
    go_wp2
    go_ret
    exact ⟨rfl, B.out⟩
   ·have hb1 : (a == (k : Int)) = false := beq_eq_false_iff_ne.2 hak
    have HAK := Lh hak
    clear hak
    go_wp2
    go_round
    case rel =>
     refine ⟨k + 1, by omega, by go_num, fun j hj => ?_⟩
     by_cases e : j = k
     ·rw [e]; exact HAK.out
     ·exact HN.out j (by omega)
    case measure => simp [intOf]; omega
  ·obtain rfl : k = 2 := by omega
   have hd : r = false := HR.out.trans (decide_eq_false (by
    have h0 := HN.out 0 (by omega)
    have h1 := HN.out 1 (by omega)
    unfold arS
    omega))
   subst hd
   go_wp2
   go_ret
   exact ⟨rfl, B.out⟩
end Go.Proofs.YtifgcfepbenpjaaGreat
namespace Go.Proofs.YtifgcfepbenpjaaGreat
open Go.RowKit
theorem filter_take (t : List Rc) (q : Rc → Bool) {k : Nat} (hk : k < t.length) : (t.take (k + 1)).filter q = (t.take k).filter q ++ (if q (t.getD k zR) then [t.getD k zR] else []) := by
 have e : t.getD k zR = t[k] := by rw [gtD, geE hk]; rfl
 rw [e, List.take_add_one, geE hk, Option.toList_some, List.filter_append]
 congr 1
 by_cases h : q t[k] = true <;> simp [h]
theorem rout_any (A : Option Addr) (n c : Nat) (t : List Rc) (p : Int) (w : World) (ht : Recs w A n c t) (hn : n ≤ 1000) :
  Calls Tryz.prog 99 #[.slice A n c, .int .i64 p] w fun e w' => ∃ A' c', e = .returned (.slice A' (outR t p).length c') ∧ OwnRecs w' w.heap.size A' (outR t p).length c' (outR t p) ∧ Below w.heap.size w w' := by
 have HT := Lh ht
 have hlen := ht.len
 have hall := ht.is
 have hfin : outR t p = (t.take n).filter (fun r => r.p != p) := by unfold outR; rw [List.take_of_length_le (by omega)]
 have hle : ∀ k, ((t.take k).filter fun r => r.p != p).length ≤ n := fun k => by
  have h1 := List.length_filter_le (fun r : Rc => r.p != p) (t.take k)
  rw [List.length_take] at h1
  omega
 have HLE := Lh hle
 have STEP := Lh (fun k (hk : k < n) => filter_take t (fun r => r.p != p) (k := k) (by omega))
 have HF := Lh hfin
 have HA := Lh hall
 clear ht hle hfin hall
 go_enter Tryz.func99, Tryz.ntmps99
 go_wp2
 go_loopw [5, 6] (fun x i wr => ∃ (k : Nat) (A' : Option Addr) (c' : Nat), k ≤ n ∧ i = .int .i64 k ∧ x = .slice A' ((t.take k).filter fun r => r.p != p).length c' ∧ OwnRecs wr w.heap.size A' ((t.take k).filter fun r => r.p != p).length c' ((t.take k).filter fun r => r.p != p) ∧ Below w.heap.size w wr) (fun _ i _ => n - (intOf i).toNat)
 case atStart => exact ⟨0, none, 0, Nat.zero_le _, rfl, rfl, OwnRecs.nil _ _, Below.refl _ _⟩
 case round =>
  obtain ⟨k, A', c', hk, rfl, rfl, hown, hbw⟩ := hrel
  have OW := Lh hown
  have BW := Lh hbw
  clear hown hbw
  by_cases hkn : k < n
  ·have hT := HT.out.below BW.out
   obtain ⟨b, o, rfl, hlt, c0, c1, c2, c3, c4, c5, c6, c7⟩ := hT.row hkn
   have HR := Lh (hT.is_at hkn)
   have ST := Lh (STEP.out k hkn)
   have hlm := HLE.out k
   clear hT
   obtain ⟨r, hr⟩ : ∃ r, r = t.getD k zR := ⟨_, rfl⟩
   rw [← hr] at c0 c1 c2 c3 c4 c5 c6 c7 HR ST
   obtain ⟨M, hM⟩ : ∃ M, M = (t.take k).filter fun r => r.p != p := ⟨_, rfl⟩
   rw [← hM] at OW ST hlm ⊢
   obtain ⟨m, hm⟩ : ∃ m, m = M.length := ⟨_, rfl⟩
   rw [← hm] at OW hlm ⊢
   have HM := Lh hm
   clear hr hM hm
   by_cases hp : r.p = p
   ·have hb : (r.p != p) = false := by simpa using hp
    rw [hb] at ST
    clear hp
    go_wp2
    go_roundw
    case rel =>
     have hst := ST.out
     rw [if_neg (by decide), List.append_nil] at hst
     refine ⟨k + 1, A', c', by omega, by go_num, ?_, ?_, BW.out⟩
     ·rw [hst, ← HM.out]
     ·rw [hst, ← HM.out]; exact OW.out
    case measure => simp [intOf]; omega
   ·have hb : (r.p != p) = true := by simpa using hp
    rw [hb] at ST
    clear hp
    go_wp2_with (at_builtin; refine wpList_recs w wr rfl (.tmp 20) (.tmp 25) rfl w.heap.size A' m c' M rfl OW.out r HR.out rfl (by omega) BW.out (Nat.le_refl _) ?_; intro A2 c2 w2 hO2 hB2; have O2 := Lh hO2; have B2 := Lh hB2; clear hO2 hB2)
    go_roundw
    case rel =>
     have hst := ST.out
     rw [if_pos rfl] at hst
     have hml : (M ++ [r]).length = m + 1 := by rw [List.length_append, ← HM.out]; rfl
     refine ⟨k + 1, A2, c2, by omega, by go_num, ?_, ?_, B2.out⟩
     ·rw [hst, hml]
     ·rw [hst, hml]; exact O2.out
    case measure => simp [intOf]; omega
  ·obtain rfl : k = n := by omega
   have hf := HF.out
   go_wp2
   go_ret
   rw [hf]
   exact ⟨A', c', rfl, OW.out, BW.out⟩
def wTo (t : List Rc) (r : Rc) : Nat → List Rc
 | 0 => []
 | k + 1 => wTo t r k ++ atR t r k
theorem wTo_all (t : List Rc) (r : Rc) : wTo t r 3 = withR t r := by
 show (([] ++ atR t r 0) ++ atR t r 1) ++ atR t r 2 = _
 unfold withR
 simp
theorem atR_le (t : List Rc) (r : Rc) (p : Int) : (atR t r p).length ≤ 1 := by
 unfold atR
 split
 ·exact Nat.le_refl _
 ·cases t.find? fun s => s.p == p <;> simp
theorem wTo_le (t : List Rc) (r : Rc) (k : Nat) : (wTo t r k).length ≤ k := by
 induction k with
 | zero => exact Nat.le_refl _
 | succ k ih =>
  have := atR_le t r k
  unfold wTo
  rw [List.length_append]
  omega
theorem rwith11_any (A : Option Addr) (n c : Nat) (t : List Rc) (r : Rc) (w : World) (ht : Recs w A n c t) (hr : isR r) (hn : n ≤ 1000) :
  Calls Tryz.prog 101 #[.slice A n c, recV r] w fun e w' => ∃ A' c', e = .returned (.slice A' (withR t r).length c') ∧ OwnRecs w' w.heap.size A' (withR t r).length c' (withR t r) ∧ Below w.heap.size w w' := by
 obtain ⟨x, hbel⟩ := rec_box w r
 obtain ⟨w0, hw0⟩ : ∃ x, x = w.alloc (.cells #[.int .i64 r.p, .int .u32 r.b, .int .u32 r.e, .int .i64 r.l, .int .u8 r.h, .int .i64 r.f, .bool r.q, .bool r.a] 64) := ⟨_, rfl⟩
 rw [← hw0] at x hbel
 have hlt := x.lt
 have X := Lh x
 have BEL := Lh hbel
 have HT := Lh (ht.below hbel)
 have HR := Lh hr
 rw [← wTo_all]
 have STEP := Lh (fun k => (show wTo t r (k + 1) = wTo t r k ++ atR t r (k : Int) from rfl))
 have LE := Lh (wTo_le t r)
 have hsz := hbel.size
 clear x hbel ht hr
 go_enter Tryz.func101, Tryz.ntmps101
 go_wp2
 rw [← hw0]
 clear hw0
 go_loopw [5, 6] (fun x i wr => ∃ (k : Nat) (A' : Option Addr) (c' : Nat), k ≤ 3 ∧ i = .int .i64 k ∧ x = .slice A' (wTo t r k).length c' ∧ OwnRecs wr w0.heap.size A' (wTo t r k).length c' (wTo t r k) ∧ Below w0.heap.size w0 wr) (fun _ i _ => 3 - (intOf i).toNat)
 case atStart => exact ⟨0, none, 0, Nat.zero_le _, rfl, rfl, OwnRecs.nil _ _, Below.refl _ _⟩
 case round =>
  obtain ⟨k, A', c', hk, rfl, rfl, hown, hbw⟩ := hrel
  have OW := Lh hown
  have BW := Lh hbw
  clear hown hbw
  by_cases hkn : k < 3
  ·have hkn' : (k : Int) < 3 := by omega
   have X2 := X.out.below BW.out hlt
   obtain ⟨c0, c1, c2, c3, c4, c5, c6, c7⟩ := X2.rec
   have ST := Lh (STEP.out k)
   have hlm := LE.out k
   have hT := Lh (HT.out.below BW.out)
   obtain ⟨M, hM⟩ : ∃ M, M = wTo t r k := ⟨_, rfl⟩
   rw [← hM] at OW ST hlm ⊢
   obtain ⟨m, hm⟩ : ∃ m, m = M.length := ⟨_, rfl⟩
   rw [← hm] at OW hlm ⊢
   have HM := Lh hm
   clear hM hm X2
   by_cases hp : (k : Int) = r.p
   ·have hb : ((k : Int) == r.p) = true := by simpa using hp
    have hat := ST.out
    rw [show atR t r (k : Int) = [r] from if_pos hp] at hat
    have ST := Lh hat
    clear hp hat
    go_wp2_with (at_builtin; refine wpList_recs w0 wr rfl (.tmp 15) (.tmp 17) rfl w0.heap.size A' m c' M rfl OW.out r HR.out rfl (by omega) BW.out (Nat.le_refl _) ?_; intro A2 c2' w2 hO2 hB2; have O2 := Lh hO2; have B2 := Lh hB2; clear hO2 hB2)
    go_roundw
    case rel =>
     have hst := ST.out
     have hml : (M ++ [r]).length = m + 1 := by rw [List.length_append, ← HM.out]; rfl
     refine ⟨k + 1, A2, c2', by omega, by go_num, ?_, ?_, B2.out⟩
     ·rw [hst, hml]
     ·rw [hst, hml]; exact O2.out
    case measure => simp [intOf]; omega
   ·have hb : ((k : Int) == r.p) = false := by simpa using hp
    have hat := ST.out
    rw [show atR t r (k : Int) = (fR t (k : Int)).toList from if_neg hp] at hat
    have ST := Lh hat
    have AT := Lh (at_any A n c t (k : Int) wr hT.out)
    clear hp hat
    cases hf : fR t (k : Int) with
    | none =>
     rw [hf] at ST
     have HF := Lh hf
     clear hf
     go_wp2_with fail
     refine AT.out.mono ?_
     rintro e w2 ⟨⟨i, _, hfi, _⟩ | ⟨_, rfl⟩, rfl⟩
     ·rw [HF.out] at hfi; cases hfi
     ·go_wp2
      go_roundw
      case rel =>
       have hst := ST.out
       rw [show (none : Option Rc).toList = [] from rfl, List.append_nil] at hst
       refine ⟨k + 1, A', c', by omega, by go_num, ?_, ?_, BW.out⟩
       ·rw [hst, ← HM.out]
       ·rw [hst, ← HM.out]; exact OW.out
      case measure => simp [intOf]; omega
    | some s =>
     rw [hf] at ST
     have HF := Lh hf
     clear hf
     go_wp2_with fail
     refine AT.out.mono ?_
     rintro e w2 ⟨⟨i, hi, _, rfl⟩ | ⟨hfi, _⟩, rfl⟩
     ·have hi0 : ¬ (i : Int) < 0 := by omega
      go_wp2_with fail
      refine AT.out.mono ?_
      rintro e w2 ⟨⟨i2, hi2, hf2, rfl⟩ | ⟨hfi, _⟩, rfl⟩
      ·obtain ⟨b, o, rfl, hlt2, d0, d1, d2, d3, d4, d5, d6, d7⟩ := hT.out.row hi2
       have HS := Lh (hT.out.is_at hi2)
       have hs : t.getD i2 zR = s := by rw [HF.out] at hf2; injection hf2 with hf2; exact hf2.symm
       rw [hs] at d0 d1 d2 d3 d4 d5 d6 d7 HS
       clear hf2 hs c0 c1 c2 c3 c4 c5 c6 c7
       go_wp2_with (at_builtin; refine wpList_recs w0 w2 rfl (.tmp 23) (.tmp 30) rfl w0.heap.size A' m c' M rfl OW.out s HS.out rfl (by omega) BW.out (Nat.le_refl _) ?_; intro A2 c2' w3 hO2 hB2; have O2 := Lh hO2; have B2 := Lh hB2; clear hO2 hB2)
       go_roundw
       case rel =>
        have hst := ST.out
        rw [show (some s).toList = [s] from rfl] at hst
        have hml : (M ++ [s]).length = m + 1 := by rw [List.length_append, ← HM.out]; rfl
        refine ⟨k + 1, A2, c2', by omega, by go_num, ?_, ?_, B2.out⟩
        ·rw [hst, hml]
        ·rw [hst, hml]; exact O2.out
       case measure => simp [intOf]; omega
      ·rw [HF.out] at hfi; cases hfi
     ·rw [HF.out] at hfi; cases hfi
  ·obtain rfl : k = 3 := by omega
   go_wp2
   go_ret
   exact ⟨A', c', rfl, OW.out.lower hsz, BEL.out.trans (BW.out.mono hsz)⟩
theorem Arg.cut {w : World} {b o c n lo hi : Nat} {t : Txt} (h : Arg w .u8 (some ⟨b, o, none⟩) n c t) (h1 : lo ≤ hi) (h2 : hi ≤ n) : Seq w w.heap.size (some ⟨b, o + lo, none⟩) (ints .u8 ((t.drop lo).take (hi - lo))) := by
 have h3 := (h.seq.drop lo).take (hi - lo)
 unfold ints at h3 ⊢
 rwa [← List.map_drop, ← List.map_take] at h3
def OfOut (w : World) (t : Txt) (e : Ending) (w' : World) : Prop := ((isN t ∧ e = .returned (.tuple #[recV (rawR t), .bool true])) ∨ (¬ isN t ∧ ∃ s, e = .returned (.tuple #[recV s, .bool false]))) ∧ Below w.heap.size w w'
theorem Arg.at_ {w : World} {A : Option Addr} {n c : Nat} {t : Txt} (h : Arg w .u8 A n c t) (hn : 0 < n) : ∃ b o, A = some ⟨b, o, none⟩ ∧ ∀ j, j < n → w.cell? ⟨b, o + j, none⟩ = some (.int .u8 (t.getD j 0)) := by
 have hl := h.len
 obtain ⟨b, o, e, _, hc⟩ := h.seq.at_ (by rw [ints_length]; omega)
 exact ⟨b, o, e, fun j hj => hc j _ (ints_getD .u8 t j (by omega))⟩
theorem of_short (A : Option Addr) (n c : Nat) (t : Txt) (w : World) (ht : Arg w .u8 A n c t) (h : n ≠ 14) : Calls Tryz.prog 100 #[.slice A n c] w (OfOut w t) := by
 have hlen := ht.len
 have HN := Lh (show ¬ isN t from fun k => h (hlen.symm.trans k.1))
 obtain ⟨x, hbel⟩ := rec_box w zR
 have hbel : Below w.heap.size w (w.alloc (.cells #[.int .i64 0, .int .u32 0, .int .u32 0, .int .i64 0, .int .u8 0, .int .i64 0, .bool false, .bool false] 64)) := hbel
 have X := Lh x
 obtain ⟨c0, c1, c2, c3, c4, c5, c6, c7⟩ := x.rec
 have f0 := x.free 0
 have f1 := x.free 1
 have f2 := x.free 2
 have f3 := x.free 3
 have f4 := x.free 4
 have f5 := x.free 5
 have f6 := x.free 6
 have f7 := x.free 7
 have B := Lh hbel
 unfold zR at c0 c1 c2 c3 c4 c5 c6 c7 f0 f1 f2 f3 f4 f5 f6 f7
 dsimp only at c0 c1 c2 c3 c4 c5 c6 c7 f0 f1 f2 f3 f4 f5 f6 f7
 have hb : ((n : Int) != 14) = true := by rw [bne_iff_ne]; omega
 clear x hbel ht h hlen
 go_enter Tryz.func100, Tryz.ntmps100
 go_wp2
 refine bodyPost_ret (v := .tuple #[recV zR, .bool false]) ?_ rfl ⟨.inr ⟨HN.out, zR, rfl⟩, B.out⟩
 simp [results, Tryz.f100, go_sem, zR, c0, c1, c2, c3, c4, c5, c6, c7]
theorem of_head (A : Option Addr) (c : Nat) (t : Txt) (w : World) (ht : Arg w .u8 A 14 c t) (h : ¬ (t.getD 0 0 = 1 ∧ t.getD 13 0 ≤ 3)) : Calls Tryz.prog 100 #[.slice A 14 c] w (OfOut w t) := by
 have HN := Lh (show ¬ isN t from fun k => h ⟨k.2.1, k.2.2.1⟩)
 obtain ⟨x, hbel⟩ := rec_box w zR
 have hbel : Below w.heap.size w (w.alloc (.cells #[.int .i64 0, .int .u32 0, .int .u32 0, .int .i64 0, .int .u8 0, .int .i64 0, .bool false, .bool false] 64)) := hbel
 have X := Lh x
 obtain ⟨c0, c1, c2, c3, c4, c5, c6, c7⟩ := x.rec
 have f0 := x.free 0
 have f1 := x.free 1
 have f2 := x.free 2
 have f3 := x.free 3
 have f4 := x.free 4
 have f5 := x.free 5
 have f6 := x.free 6
 have f7 := x.free 7
 have B := Lh hbel
 unfold zR at c0 c1 c2 c3 c4 c5 c6 c7 f0 f1 f2 f3 f4 f5 f6 f7
 dsimp only at c0 c1 c2 c3 c4 c5 c6 c7 f0 f1 f2 f3 f4 f5 f6 f7
 obtain ⟨b, o, rfl, hc⟩ := (ht.below hbel).at_ (by decide)
 have t0 := hc 0 (by decide)
 have t13 := hc 13 (by decide)
 rw [Nat.add_zero] at t0
 obtain ⟨x0, hx0⟩ : ∃ x, x = t.getD 0 0 := ⟨_, rfl⟩
 obtain ⟨x13, hx13⟩ : ∃ x, x = t.getD 13 0 := ⟨_, rfl⟩
 rw [← hx0] at t0 h
 rw [← hx13] at t13 h
 clear x hbel ht hc hx0 hx13
 by_cases h0 : x0 = 1
 ·have h3 : 3 < x13 := by
   rcases Int.lt_or_le 3 x13 with k | k
   ·exact k
   ·exact absurd ⟨h0, k⟩ h
  subst h0
  clear h
  go_enter Tryz.func100, Tryz.ntmps100
  go_wp2
  refine bodyPost_ret (v := .tuple #[recV zR, .bool false]) ?_ rfl ⟨.inr ⟨HN.out, zR, rfl⟩, B.out⟩
  simp [results, Tryz.f100, go_sem, zR, c0, c1, c2, c3, c4, c5, c6, c7]
 ·have hb : (x0 != 1) = true := by rw [bne_iff_ne]; exact h0
  clear h h0
  go_enter Tryz.func100, Tryz.ntmps100
  go_wp2
  refine bodyPost_ret (v := .tuple #[recV zR, .bool false]) ?_ rfl ⟨.inr ⟨HN.out, zR, rfl⟩, B.out⟩
  simp [results, Tryz.f100, go_sem, zR, c0, c1, c2, c3, c4, c5, c6, c7]
end Go.Proofs.YtifgcfepbenpjaaGreat
