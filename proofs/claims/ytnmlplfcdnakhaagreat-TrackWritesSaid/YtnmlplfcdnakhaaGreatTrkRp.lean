/- Layer 8: the document's own Plan and Write. -/
import Derived.Test.YtnmlplfcdnakhaaGreatTrkW
import Derived.Test.YtnmlplfcdnakhaaGreatTrkR
import Derived.Deep.RegionHeld3
import Derived.Deep.RegionWith
import Derived.Deep.Cut
import Derived.Deep.CutBlock
import Derived.Deep.CutRange
namespace Go.Proofs.YtnmlplfcdnakhaaGreat
open Go.RowKit
set_option linter.unusedVariables false

/-- A row of the call's own stands at no spot. -/
theorem owns_sp {w : World} {base : Nat} {t : TypeId} {j : Nat} {A : Option Addr} {n c : Nat} {vs : List Value} (h : w.ownsRow base t j (.slice A n c) n vs) : ∀ a, A = some a → a.spot = none ∨ c = 0 := by
  intro a ha
  rcases h.2 with ⟨e, h0⟩ | ⟨g, cap, cur, e, _, _, h1, h2, _⟩ <;> cases e
  · cases ha
  · cases ha
    exact .inl rfl

set_option maxRecDepth 100000 in
set_option maxHeartbeats 6400000 in
theorem rplanT_any (P T A M W Q : Int) (D : Option Addr) (n c : Nat) (D' : Option Addr) (n' c' : Nat) (S : List Sec) (C : List Pnd) (p k : Int) (Ab : Option Addr) (nb cb : Nat) (b : Txt) (w : World) (hq : Dsk w D n c D' n' c' S C) (hs : SmallD S C) (hb : Arg w .u8 Ab nb cb b) (hby : ∀ z ∈ b, isByte z) :
    Calls Tryz.prog 7 #[cfgV P T A M W Q, diskV D n c D' n' c', .int .i64 p, .int .i64 k, .slice Ab nb cb] w (RPlan w (tpL P T A M W Q S C p k b) (tpE P T A M W Q S C p k b)) := by
  obtain ⟨x, hbel⟩ := TBox.new P T A M W Q hq
  obtain ⟨w0, hw0⟩ : ∃ x : World, x = (w.alloc (.cells #[.int .i64 P, .int .i64 T, .int .i64 A, .int .i64 M, .int .i64 W, .int .i64 Q] 23)).alloc (.cells #[.slice D n c, .slice D' n' c'] 27) := ⟨_, rfl⟩
  have hsz : w0.heap.size = w.heap.size + 1 + 1 := by rw [hw0]; simp
  rw [← hw0] at x hbel
  have X := Lib.hid x
  have B := Lib.hid hbel
  have RB := Lib.hid (hb.below hbel)
  have AK := Lib.hid (fun wx hx => rasked_any P T A M W Q D n c D' n' c' S C p k wx hx hs)
  have hlen := hb.len
  obtain ⟨c0, c1, c2, c3, c4, c5, d0, d1⟩ := x.cells
  by_cases h0 : tgE P T A M W Q S C p k b = 0
  · obtain ⟨e1, e2, e3, e4, e5⟩ := tp_of h0
    obtain ⟨hm, hi, hl⟩ := tgE_zero h0
    have h1 : taE P T A M W Q S C p k = 0 := by unfold taE; rw [if_pos hm, if_pos hi]
    rw [h1] at AK
    obtain rfl : nb = 28 := by omega
    have OT := Lib.hid (fun w' : World => (show Calls Tryz.prog 16 #[cfgV P T A M W Q, .int .i64 p, .int .i64 k] w' (fun e w'' => e = .returned (.int .i64 (atT P T A p k)) ∧ Below w'.heap.size w' w'') from roftrack_any P T A M W Q p k w' hm.1 hi))
    have SE := Lib.hid (fun wx (hx : Arg wx .u8 Ab 28 cb b) => (show Calls Tryz.prog 17 #[.slice Ab 28 cb] wx (fun e w' => ∃ A c, e = .returned (.slice A 32 c) ∧ w'.ownsRow wx.heap.size 5 1 (.slice A 32 c) 32 (ints .u8 (sealed b)) ∧ Below wx.heap.size wx w') from rsealed_any Ab 28 cb b wx hx (by decide) hby))
    have hsl : (sealed b).length = 32 := by rw [sealed_length, hl]
    have PL := Lib.hid (fun A0 c0 wx hx hy hz => rplan6_any D n c D' n' c' S C (atT P T A p k) 2 A0 32 c0 (sealed b) wx hx hs hy (sealed_byte hby) (by decide) hz)
    rw [e1, e2]
    unfold RPlan at PL ⊢
    obtain ⟨L, hL⟩ : ∃ L, L = cpL S C (atT P T A p k) 2 (sealed b) := ⟨_, rfl⟩
    obtain ⟨E, hE⟩ : ∃ L, L = cpE S C (atT P T A p k) 2 (sealed b) := ⟨_, rfl⟩
    rw [← hL, ← hE] at PL ⊢
    obtain ⟨m, hmm⟩ : ∃ m, m = L.length := ⟨_, rfl⟩
    rw [← hmm] at PL ⊢
    obtain ⟨a, ha⟩ : ∃ a, a = atT P T A p k := ⟨_, rfl⟩
    rw [← ha] at PL OT
    obtain ⟨t, ht⟩ : ∃ t, t = sealed b := ⟨_, rfl⟩
    rw [← ht] at PL SE hsl
    clear hq hs hb hby x hbel h0 h1 e1 e2 e3 e4 e5 hm hi hl hlen hsl hE hmm ha ht hsz hL
    go_enter Tryz.func7, Tryz.ntmps7
    go_wp2_with fail
    rw [← hw0]
    clear hw0
    refine (AK.out _ X.out.dsk.dsk).mono ?_
    rintro e w2 ⟨rfl, hb⟩
    have RB := Lib.hid (RB.out.below hb)
    have B := Lib.hid (B.out.trans (hb.mono B.out.size))
    have X := Lib.hid (X.out.below hb)
    clear hb c0 c1 c2 c3 c4 c5 d0 d1 AK
    go_upto_region 6 with fail
    have hcur : Below w2.heap.size w2 w2.drew := below_drewN (Below.refl _ _) 1
    have keepX : ∀ wx, Below w2.heap.size w2 wx → wx.cell? ⟨w.heap.size, 0, none⟩ = some (.int .i64 P) ∧ wx.cell? ⟨w.heap.size, 1, none⟩ = some (.int .i64 T) ∧ wx.cell? ⟨w.heap.size, 2, none⟩ = some (.int .i64 A) ∧ wx.cell? ⟨w.heap.size, 3, none⟩ = some (.int .i64 M) ∧ wx.cell? ⟨w.heap.size, 4, none⟩ = some (.int .i64 W) ∧ wx.cell? ⟨w.heap.size, 5, none⟩ = some (.int .i64 Q) ∧ wx.cell? ⟨w.heap.size + 1, 0, none⟩ = some (.slice D n c) ∧ wx.cell? ⟨w.heap.size + 1, 1, none⟩ = some (.slice D' n' c') := fun wx hx => (X.out.below hx).cells
    have hkX := keepX _ hcur
    go_region_held3 (fun w' => w'.cell? ⟨w.heap.size, 0, none⟩ = some (.int .i64 P) ∧ w'.cell? ⟨w.heap.size, 1, none⟩ = some (.int .i64 T) ∧ w'.cell? ⟨w.heap.size, 2, none⟩ = some (.int .i64 A) ∧ w'.cell? ⟨w.heap.size, 3, none⟩ = some (.int .i64 M) ∧ w'.cell? ⟨w.heap.size, 4, none⟩ = some (.int .i64 W) ∧ w'.cell? ⟨w.heap.size, 5, none⟩ = some (.int .i64 Q) ∧ w'.cell? ⟨w.heap.size + 1, 0, none⟩ = some (.slice D n c) ∧ w'.cell? ⟨w.heap.size + 1, 1, none⟩ = some (.slice D' n' c'))
      (first | exact hkX | go_keep)
      (first
        | (go_at_call 16; with_reducible refine (OT.out w2.drew).mono ?_; rintro e wT ⟨rfl, hbT⟩; have hcur := hcur.trans (hbT.mono hcur.size); have hkX := keepX _ hcur)
        | (go_at_call 17; with_reducible refine (SE.out wT (RB.out.below hcur)).mono ?_; rintro e wO ⟨AS, cS, rfl, hownO, hbO⟩; have hcur := hcur.trans (hbO.mono hcur.size); have hkX := keepX _ hcur; try have hZ := hZ.below hbO hZ.lt)
        | (go_at_call 15; with_reducible refine (PL.out AS cS wO (X.out.below hcur).dsk.dsk (Arg.own hownO) (owns_sp hownO)).mono ?_; rintro e w6 ⟨AL, cL, rfl, hL, hb⟩; have hcur := hcur.trans (hb.mono hcur.size); have hkX := keepX _ hcur))
    all_goals
      have B := Lib.hid (B.out.trans (hcur.mono B.out.size))
      clear keepX hkX
      go_wp2
      go_ret2
      exact ⟨AL, cL, rfl, hL, B.out⟩
  · obtain ⟨e1, e2, e3, e4, e5⟩ := tp_not h0
    rw [e1, e2]
    by_cases ha : taE P T A M W Q S C p k = 0
    · have hn : nb ≠ 28 := fun e => h0 (by unfold tgE; rw [if_pos ha, if_pos (by omega)])
      have e6 : tgE P T A M W Q S C p k b = 2 := by unfold tgE; rw [if_pos ha, if_neg (by omega)]
      rw [e6]
      rw [ha] at AK
      have hni : ((nb : Int) != 28) = true := bne_iff_ne.2 (by omega)
      clear hq hs hb hby x hbel h0 e1 e2 e3 e4 e5 e6 ha hn hsz hlen
      go_enter Tryz.func7, Tryz.ntmps7
      go_wp2_with fail
      rw [← hw0]
      clear hw0
      refine (AK.out _ X.out.dsk.dsk).mono ?_
      rintro e w2 ⟨rfl, hb⟩
      have B := Lib.hid (B.out.trans (hb.mono B.out.size))
      clear hb c0 c1 c2 c3 c4 c5 d0 d1 AK
      go_wp2
      go_ret2
      exact RPlan.none _ _ _ _ rfl B.out
    · have e6 : tgE P T A M W Q S C p k b = taE P T A M W Q S C p k := by unfold tgE; rw [if_neg ha]
      rw [e6]
      obtain ⟨E, hE⟩ : ∃ E, E = taE P T A M W Q S C p k := ⟨_, rfl⟩
      rw [← hE] at AK ha ⊢
      have h1 : (E != 0) = true := bne_iff_ne.2 ha
      have h2 : (E == 0) = false := beq_eq_false_iff_ne.2 ha
      clear hq hs hb hby x hbel h0 e1 e2 e3 e4 e5 e6 hE hsz hlen
      go_enter Tryz.func7, Tryz.ntmps7
      go_wp2_with fail
      rw [← hw0]
      clear hw0
      refine (AK.out _ X.out.dsk.dsk).mono ?_
      rintro e w2 ⟨rfl, hb⟩
      have B := Lib.hid (B.out.trans (hb.mono B.out.size))
      clear hb c0 c1 c2 c3 c4 c5 d0 d1 AK
      go_wp2
      go_ret2
      exact RPlan.none _ _ _ _ rfl B.out

set_option maxRecDepth 100000 in
set_option maxHeartbeats 6400000 in
theorem rwriteT_any (P T A M W Q : Int) (D : Option Addr) (n c : Nat) (D' : Option Addr) (n' c' : Nat) (S : List Sec) (C : List Pnd) (p k : Int) (Ab : Option Addr) (nb cb : Nat) (b : Txt) (w : World) (hq : Dsk w D n c D' n' c' S C) (hs : SmallD S C) (hb : Arg w .u8 Ab nb cb b) (hby : ∀ z ∈ b, isByte z) :
    Calls Tryz.prog 9 #[cfgV P T A M W Q, diskV D n c D' n' c', .int .i64 p, .int .i64 k, .slice Ab nb cb] w (DiskOut w (twS P T A M W Q S C p k b) (twC P T A M W Q S C p k b) (twE P T A M W Q S C p k b)) := by
  obtain ⟨x, hbel⟩ := TBox.new P T A M W Q hq
  obtain ⟨w0, hw0⟩ : ∃ x : World, x = (w.alloc (.cells #[.int .i64 P, .int .i64 T, .int .i64 A, .int .i64 M, .int .i64 W, .int .i64 Q] 23)).alloc (.cells #[.slice D n c, .slice D' n' c'] 27) := ⟨_, rfl⟩
  have hsz : w0.heap.size = w.heap.size + 1 + 1 := by rw [hw0]; simp
  rw [← hw0] at x hbel
  have hb9 : Below w0.heap.size w0 (w0.alloc (.cells #[.slice none 0 0, .slice none 0 0] 27)) := (Below.refl _ _).alloc (Nat.le_refl _) _
  have z := Blk.new w0 27 [.slice none 0 0, .slice none 0 0]
  rw [hsz] at z
  obtain ⟨w1, hw1⟩ : ∃ x : World, x = w0.alloc (.cells #[.slice none 0 0, .slice none 0 0] 27) := ⟨_, rfl⟩
  rw [← hw1] at hb9 z
  have x := x.below hb9
  have hbel := hbel.trans (hb9.mono hbel.size)
  have Z := Lib.hid z
  clear hb9 z
  have X := Lib.hid x
  have B := Lib.hid hbel
  have RB := Lib.hid (hb.below hbel)
  have AK := Lib.hid (fun wx hx => rasked_any P T A M W Q D n c D' n' c' S C p k wx hx hs)
  have hlen := hb.len
  obtain ⟨c0, c1, c2, c3, c4, c5, d0, d1⟩ := x.cells
  by_cases h0 : tgE P T A M W Q S C p k b = 0
  · obtain ⟨e1, e2, e3, e4, e5⟩ := tp_of h0
    obtain ⟨hm, hi, hl⟩ := tgE_zero h0
    have h1 : taE P T A M W Q S C p k = 0 := by unfold taE; rw [if_pos hm, if_pos hi]
    rw [h1] at AK
    obtain rfl : nb = 28 := by omega
    have OT := Lib.hid (fun w' : World => (show Calls Tryz.prog 16 #[cfgV P T A M W Q, .int .i64 p, .int .i64 k] w' (fun e w'' => e = .returned (.int .i64 (atT P T A p k)) ∧ Below w'.heap.size w' w'') from roftrack_any P T A M W Q p k w' hm.1 hi))
    have SE := Lib.hid (fun wx (hx : Arg wx .u8 Ab 28 cb b) => (show Calls Tryz.prog 17 #[.slice Ab 28 cb] wx (fun e w' => ∃ A c, e = .returned (.slice A 32 c) ∧ w'.ownsRow wx.heap.size 5 1 (.slice A 32 c) 32 (ints .u8 (sealed b)) ∧ Below wx.heap.size wx w') from rsealed_any Ab 28 cb b wx hx (by decide) hby))
    have hsl : (sealed b).length = 32 := by rw [sealed_length, hl]
    have PL := Lib.hid (fun A0 c0 wx hx hy hz => rwrite6_any D n c D' n' c' S C (atT P T A p k) 2 A0 32 c0 (sealed b) wx hx hs hy (sealed_byte hby) (by decide) hz)
    rw [e3, e4, e5]
    unfold DiskOut at PL ⊢
    obtain ⟨L, hL⟩ : ∃ L, L = cwS S C (atT P T A p k) 2 (sealed b) := ⟨_, rfl⟩
    obtain ⟨K, hK⟩ : ∃ L, L = cwC S C (atT P T A p k) 2 (sealed b) := ⟨_, rfl⟩
    obtain ⟨E, hE⟩ : ∃ L, L = cwE S C (atT P T A p k) 2 (sealed b) := ⟨_, rfl⟩
    rw [← hL, ← hK, ← hE] at PL ⊢
    obtain ⟨m, hmm⟩ : ∃ m, m = L.length := ⟨_, rfl⟩
    obtain ⟨m2, hmm2⟩ : ∃ m, m = K.length := ⟨_, rfl⟩
    rw [← hmm, ← hmm2] at PL ⊢
    obtain ⟨a, ha⟩ : ∃ a, a = atT P T A p k := ⟨_, rfl⟩
    rw [← ha] at PL OT
    obtain ⟨t, ht⟩ : ∃ t, t = sealed b := ⟨_, rfl⟩
    rw [← ht] at PL SE hsl
    clear hq hs hb hby x hbel h0 h1 e1 e2 e3 e4 e5 hm hi hl hlen hsl hE hmm ha ht hsz hL hK hmm2
    go_enter Tryz.func9, Tryz.ntmps9
    go_wp2_with fail
    rw [← hw0, ← hw1]
    clear hw0 hw1
    refine (AK.out _ X.out.dsk.dsk).mono ?_
    rintro e w2 ⟨rfl, hb⟩
    have RB := Lib.hid (RB.out.below hb)
    have B := Lib.hid (B.out.trans (hb.mono B.out.size))
    have X := Lib.hid (X.out.below hb)
    have Z := Lib.hid (Z.out.below hb Z.out.lt)
    clear hb c0 c1 c2 c3 c4 c5 d0 d1 AK
    go_upto_region 6 with fail
    have hS : Below w2.heap.size w2 w2 := Below.refl _ _
    go_cut [13, 14] from 31 to 41 (fun x e wx => ∃ g A9 c9 A9' c9', x = .pointer (some ⟨g, 0, none⟩) ∧ e = .int .i64 E ∧ Blk wx g 27 [.slice A9 m c9, .slice A9' m2 c9'] ∧ OwnDsk wx w.heap.size A9 m c9 A9' m2 c9' L K ∧ Below w2.heap.size w2 wx)
    case first =>
      have hcur : Below w2.heap.size w2 w2.drew := below_drewN (Below.refl _ _) 1
      have keepX : ∀ wx, Below w2.heap.size w2 wx → wx.cell? ⟨w.heap.size, 0, none⟩ = some (.int .i64 P) ∧ wx.cell? ⟨w.heap.size, 1, none⟩ = some (.int .i64 T) ∧ wx.cell? ⟨w.heap.size, 2, none⟩ = some (.int .i64 A) ∧ wx.cell? ⟨w.heap.size, 3, none⟩ = some (.int .i64 M) ∧ wx.cell? ⟨w.heap.size, 4, none⟩ = some (.int .i64 W) ∧ wx.cell? ⟨w.heap.size, 5, none⟩ = some (.int .i64 Q) ∧ wx.cell? ⟨w.heap.size + 1, 0, none⟩ = some (.slice D n c) ∧ wx.cell? ⟨w.heap.size + 1, 1, none⟩ = some (.slice D' n' c') := fun wx hx => (X.out.below hx).cells
      have hkX := keepX _ hcur
      go_region_held3 (fun w' => w'.cell? ⟨w.heap.size, 0, none⟩ = some (.int .i64 P) ∧ w'.cell? ⟨w.heap.size, 1, none⟩ = some (.int .i64 T) ∧ w'.cell? ⟨w.heap.size, 2, none⟩ = some (.int .i64 A) ∧ w'.cell? ⟨w.heap.size, 3, none⟩ = some (.int .i64 M) ∧ w'.cell? ⟨w.heap.size, 4, none⟩ = some (.int .i64 W) ∧ w'.cell? ⟨w.heap.size, 5, none⟩ = some (.int .i64 Q) ∧ w'.cell? ⟨w.heap.size + 1, 0, none⟩ = some (.slice D n c) ∧ w'.cell? ⟨w.heap.size + 1, 1, none⟩ = some (.slice D' n' c'))
        (first | exact hkX | exact keepX _ (below_drewN ((Below.refl _ _).alloc (Nat.le_refl _) _) 1) | exact keepX _ (hcur.alloc hcur.size _) | exact keepX _ ((hcur.setCell (p := ⟨_, 0, none⟩) hL _).setCell (p := ⟨_, 1, none⟩) hL _) | go_keep)
        (first
          | (go_at_call 16; with_reducible refine (OT.out w2.drew).mono ?_; rintro e wT ⟨rfl, hbT⟩; have hcur := hcur.trans (hbT.mono hcur.size); have hkX := keepX _ hcur)
          | (go_at_call 16; have hL := Nat.le_refl w2.heap.size; have hcur : Below w2.heap.size w2 (w2.alloc (.cells #[.slice none 0 0, .slice none 0 0] 27)).drew := below_drewN ((Below.refl _ _).alloc (Nat.le_refl _) _) 1; have hZ0 := Blk.new w2 27 [.slice none 0 0, .slice none 0 0]; have hZ := hZ0.below (below_drewN (Below.refl _ _) 1) hZ0.lt; with_reducible refine (OT.out _).mono ?_; rintro e wT ⟨rfl, hbT⟩; have hZ := hZ.below hbT hZ.lt; have hcur := hcur.trans (hbT.mono hcur.size); have hkX := keepX _ hcur)
          | (go_at_call 17; with_reducible refine (SE.out wT (RB.out.below hcur)).mono ?_; rintro e wO ⟨AS, cS, rfl, hownO, hbO⟩; have hcur := hcur.trans (hbO.mono hcur.size); have hkX := keepX _ hcur; try have hZ := hZ.below hbO hZ.lt)
          | (go_at_call 17; have hL := hcur.size; have hcur := hcur.alloc hcur.size (.cells #[.slice none 0 0, .slice none 0 0] 27); have hZ := Blk.new wT 27 [.slice none 0 0, .slice none 0 0]; with_reducible refine (SE.out _ (RB.out.below hcur)).mono ?_; rintro e wO ⟨AS, cS, rfl, hownO, hbO⟩; have hZ := hZ.below hbO hZ.lt; have hcur := hcur.trans (hbO.mono hcur.size); have hkX := keepX _ hcur)
          | (go_at_call 19; have hM := hcur.size; with_reducible refine (PL.out AS cS _ (X.out.below hcur).dsk.dsk (Arg.own hownO) (owns_sp hownO)).mono ?_; rintro e w3 ⟨A9, c9, A9', c9', rfl, hown, hb⟩; have hcur := hcur.trans (hb.mono hcur.size); have hkX := keepX _ hcur; try (have hZ := hZ.below hb hZ.lt; have z0 := hZ.cell 0; have z1 := hZ.cell 1; have g0 := hZ.free 0; have g1 := hZ.free 1; simp only [List.getElem?_cons_zero, List.getElem?_cons_succ] at z0 z1))
          | (go_at_call 19; have hL := hcur.size; have hcur := hcur.alloc hcur.size (.cells #[.slice none 0 0, .slice none 0 0] 27); have hZ := Blk.new wO 27 [.slice none 0 0, .slice none 0 0]; have hownO := owns_below hownO ((Below.refl wO.heap.size wO).alloc (Nat.le_refl _) (.cells #[.slice none 0 0, .slice none 0 0] 27)); have hM := hcur.size; with_reducible refine (PL.out AS cS _ (X.out.below hcur).dsk.dsk (Arg.own hownO) (owns_sp hownO)).mono ?_; rintro e w3 ⟨A9, c9, A9', c9', rfl, hown, hb⟩; have hcur := hcur.trans (hb.mono hcur.size); have hkX := keepX _ hcur; have hZ := hZ.below hb hZ.lt; have z0 := hZ.cell 0; have z1 := hZ.cell 1; have g0 := hZ.free 0; have g1 := hZ.free 1; simp only [List.getElem?_cons_zero, List.getElem?_cons_succ] at z0 z1))
      all_goals (go_wp2_with fail; go_meet)
      all_goals first
        | exact ⟨_, A9, c9, A9', c9', rfl, rfl, Blk.new _ _ _, (hown.below ((Below.refl _ _).alloc (Nat.le_refl _) _)).lower (Nat.le_trans B.out.size hM), hcur.alloc hcur.size _⟩
        | exact ⟨_, A9, c9, A9', c9', rfl, rfl, hZ.two _ _, (hown.two hZ _ _).lower (Nat.le_trans B.out.size hM), ((hcur.setCell (p := ⟨_, 0, none⟩) hL _).setCell (p := ⟨_, 1, none⟩) hL _)⟩
    case rest =>
      obtain ⟨g, AL, cL, AL', cL', rfl, rfl, hg, ho, hb⟩ := hcut
      have B := Lib.hid (B.out.trans (hb.mono B.out.size))
      have Z := Lib.hid (Z.out.below hb Z.out.lt)
      obtain ⟨z0, z1⟩ : _ ∧ _ := ⟨Z.out.cell 0, Z.out.cell 1⟩
      obtain ⟨y0, y1⟩ : _ ∧ _ := ⟨hg.cell 0, hg.cell 1⟩
      simp only [List.getElem?_cons_zero, List.getElem?_cons_succ] at z0 z1 y0 y1
      have f0 := Z.out.free 0
      have f1 := Z.out.free 1
      have hG : w.heap.size ≤ w.heap.size + 1 + 1 := by omega
      have OF := Lib.hid ((ho.box Z.out 0 (.slice AL m cL)).box (Z.out.set 0 _) 1 (.slice AL' m2 cL'))
      have BF := Lib.hid ((B.out.setCell (p := ⟨w.heap.size + 1 + 1, 0, none⟩) hG (.slice AL m cL)).setCell (p := ⟨w.heap.size + 1 + 1, 1, none⟩) hG (.slice AL' m2 cL'))
      have R := Lib.hid ((Z.out.set 0 (.slice AL m cL)).set 1 (.slice AL' m2 cL'))
      clear hb hg ho hS B X RB OT SE PL
      go_wp2
      have r0 := R.out.cell 0
      have r1 := R.out.cell 1
      simp only [List.getElem?_cons_zero, List.getElem?_cons_succ, List.set_cons_zero, List.set_cons_succ] at r0 r1
      refine bodyPost_ret (v := .tuple #[diskV AL m cL AL' m2 cL', .int .i64 E]) ?_ rfl ⟨AL, cL, AL', cL', rfl, OF.out, BF.out⟩
      clear z0 z1 f0 f1 y0 y1
      simp [results, Tryz.f9, go_sem, r0, r1]
  · obtain ⟨e1, e2, e3, e4, e5⟩ := tp_not h0
    rw [e3, e4, e5]
    by_cases ha : taE P T A M W Q S C p k = 0
    · have hn : nb ≠ 28 := fun e => h0 (by unfold tgE; rw [if_pos ha, if_pos (by omega)])
      have e6 : tgE P T A M W Q S C p k b = 2 := by unfold tgE; rw [if_pos ha, if_neg (by omega)]
      rw [e6]
      rw [ha] at AK
      have hni : ((nb : Int) != 28) = true := bne_iff_ne.2 (by omega)
      clear hq hs hb hby x hbel h0 e1 e2 e3 e4 e5 e6 ha hn hsz hlen
      go_enter Tryz.func9, Tryz.ntmps9
      go_wp2_with fail
      rw [← hw0, ← hw1]
      clear hw0 hw1
      refine (AK.out _ X.out.dsk.dsk).mono ?_
      rintro e w2 ⟨rfl, hb⟩
      have B := Lib.hid (B.out.trans (hb.mono B.out.size))
      have Z := Lib.hid (Z.out.below hb Z.out.lt)
      obtain ⟨z0, z1⟩ : _ ∧ _ := ⟨Z.out.cell 0, Z.out.cell 1⟩
      simp only [List.getElem?_cons_zero, List.getElem?_cons_succ] at z0 z1
      have f0 := Z.out.free 0
      have f1 := Z.out.free 1
      clear hb c0 c1 c2 c3 c4 c5 d0 d1 AK
      have hG : w.heap.size ≤ w.heap.size + 1 + 1 := by omega
      have BF := Lib.hid ((B.out.setCell (p := ⟨w.heap.size + 1 + 1, 0, none⟩) hG (.slice none 0 0)).setCell (p := ⟨w.heap.size + 1 + 1, 1, none⟩) hG (.slice none 0 0))
      have R := Lib.hid ((Z.out.set 0 (.slice none 0 0)).set 1 (.slice none 0 0))
      clear B
      go_wp2
      have r0 := R.out.cell 0
      have r1 := R.out.cell 1
      simp only [List.getElem?_cons_zero, List.getElem?_cons_succ, List.set_cons_zero, List.set_cons_succ] at r0 r1
      refine bodyPost_ret (v := .tuple #[diskV none 0 0 none 0 0, .int .i64 2]) ?_ rfl ⟨none, 0, none, 0, rfl, OwnDsk.nil _ _, BF.out⟩
      clear z0 z1 f0 f1
      simp [results, Tryz.f9, go_sem, r0, r1]
    · have e6 : tgE P T A M W Q S C p k b = taE P T A M W Q S C p k := by unfold tgE; rw [if_neg ha]
      rw [e6]
      obtain ⟨E, hE⟩ : ∃ E, E = taE P T A M W Q S C p k := ⟨_, rfl⟩
      rw [← hE] at AK ha ⊢
      have h1 : (E != 0) = true := bne_iff_ne.2 ha
      have h2 : (E == 0) = false := beq_eq_false_iff_ne.2 ha
      clear hq hs hb hby x hbel h0 e1 e2 e3 e4 e5 e6 hE hsz hlen
      go_enter Tryz.func9, Tryz.ntmps9
      go_wp2_with fail
      rw [← hw0, ← hw1]
      clear hw0 hw1
      refine (AK.out _ X.out.dsk.dsk).mono ?_
      rintro e w2 ⟨rfl, hb⟩
      have B := Lib.hid (B.out.trans (hb.mono B.out.size))
      have Z := Lib.hid (Z.out.below hb Z.out.lt)
      obtain ⟨z0, z1⟩ : _ ∧ _ := ⟨Z.out.cell 0, Z.out.cell 1⟩
      simp only [List.getElem?_cons_zero, List.getElem?_cons_succ] at z0 z1
      have f0 := Z.out.free 0
      have f1 := Z.out.free 1
      clear hb c0 c1 c2 c3 c4 c5 d0 d1 AK
      have hG : w.heap.size ≤ w.heap.size + 1 + 1 := by omega
      have BF := Lib.hid ((B.out.setCell (p := ⟨w.heap.size + 1 + 1, 0, none⟩) hG (.slice none 0 0)).setCell (p := ⟨w.heap.size + 1 + 1, 1, none⟩) hG (.slice none 0 0))
      have R := Lib.hid ((Z.out.set 0 (.slice none 0 0)).set 1 (.slice none 0 0))
      clear B
      go_wp2
      have r0 := R.out.cell 0
      have r1 := R.out.cell 1
      simp only [List.getElem?_cons_zero, List.getElem?_cons_succ, List.set_cons_zero, List.set_cons_succ] at r0 r1
      refine bodyPost_ret (v := .tuple #[diskV none 0 0 none 0 0, .int .i64 E]) ?_ rfl ⟨none, 0, none, 0, rfl, OwnDsk.nil _ _, BF.out⟩
      clear z0 z1 f0 f1
      simp [results, Tryz.f9, go_sem, r0, r1]

end Go.Proofs.YtnmlplfcdnakhaaGreat
