/- Layer 8: the program's toWrite, Plan, Write. -/
import Derived.Test.YtnmlplfcdnakhaaTrkP2
namespace Go.Proofs.Ytnmlplfcdnakhaa
open Go.RowKit
set_option linter.unusedVariables false

def tgE (P T A M W Q : Int) (S : List Sec) (C : List Pnd) (p k : Int) (b : Txt) : Int := if taE P T A M W Q S C p k = 0 then (if b.length = 28 then 0 else 2) else taE P T A M W Q S C p k
theorem tgE_zero {P T A M W Q : Int} {S : List Sec} {C : List Pnd} {p k : Int} {b : Txt} (h : tgE P T A M W Q S C p k b = 0) : mayT P T A M W Q S C ∧ isT P T p k ∧ b.length = 28 := by
  unfold tgE at h
  split at h
  · rename_i h1
    split at h
    · rename_i h2
      exact ⟨(taE_zero h1).1, (taE_zero h1).2, h2⟩
    · cases h
  · rename_i h1; exact absurd h h1

set_option maxRecDepth 100000 in
set_option maxHeartbeats 6400000 in
theorem towrite_yes (P T A M W Q : Int) (D : Option Addr) (n c : Nat) (D' : Option Addr) (n' c' : Nat) (S : List Sec) (C : List Pnd) (p k : Int) (Ab : Option Addr) (nb cb : Nat) (b : Txt) (w : World) (hq : Dsk w D n c D' n' c' S C) (hs : SmallD S C) (hb : Arg w .u8 Ab nb cb b) (hby : ∀ z ∈ b, isByte z) (h0 : tgE P T A M W Q S C p k b = 0) :
    Calls Try.prog 128 #[cfgV P T A M W Q, diskV D n c D' n' c', .int .i64 p, .int .i64 k, .slice Ab nb cb] w fun e w' => ∃ A' c', e = .returned (.tuple #[.int .i64 (atT P T A p k), .slice A' 32 c', .int .i64 0]) ∧ w'.ownsRow w.heap.size 5 1 (.slice A' 32 c') 32 (ints .u8 (sealed b)) ∧ Below w.heap.size w w' := by
  obtain ⟨hm, hi, hl⟩ := tgE_zero h0
  obtain ⟨x, hbel⟩ := TBox.new P T A M W Q hq
  obtain ⟨w0, hw0⟩ : ∃ x : World, x = (w.alloc (.cells #[.int .i64 P, .int .i64 T, .int .i64 A, .int .i64 M, .int .i64 W, .int .i64 Q] 74)).alloc (.cells #[.slice D n c, .slice D' n' c'] 32) := ⟨_, rfl⟩
  have hsz : w0.heap.size = w.heap.size + 1 + 1 := by rw [hw0]; simp
  rw [← hw0] at x hbel
  have X := Lib.hid x
  have B := Lib.hid hbel
  obtain ⟨c0, c1, c2, c3, c4, c5, d0, d1⟩ := x.cells
  have hnb : nb = 28 := by rw [← hb.len]; exact hl
  have VO := Lib.hid (fun wx hx => volumeOf_yes P T A M W Q D n c D' n' c' S C p wx hx hs hm)
  have SE := Lib.hid (fun w' : World => vsec_any P T A M W Q D n c D' n' c' p k w' hm.1)
  rw [show saN P T A p k = atT P T A p k from if_pos hi, show saE P T p k = 0 from if_pos hi] at SE
  obtain ⟨a, ha⟩ : ∃ a, a = atT P T A p k := ⟨_, rfl⟩
  rw [← ha] at SE ⊢
  have SL := Lib.hid (fun wx (hx : Arg wx .u8 Ab nb cb b) => seal_gen Ab nb cb b wx hx hby)
  have e1 : seE b = 0 := by unfold seE; rw [if_neg (by omega)]
  have e2 : seB b = sealed b := by unfold seB; rw [if_neg (by omega)]
  have hsl : (sealed b).length = 32 := by rw [sealed_length, hl]
  rw [e1, e2] at SL
  obtain ⟨t, ht⟩ : ∃ t, t = sealed b := ⟨_, rfl⟩
  rw [← ht] at SL hsl ⊢
  subst hnb
  have RB := Lib.hid (hb.below hbel)
  have HSL := Lib.hid hsl
  clear hq hs x hbel hm hi hl ha e1 e2 hsl ht h0 hb hby hsz
  go_enter Try.func128, Try.ntmps128
  go_wp2_with fail
  rw [← hw0]
  clear hw0
  refine (VO.out _ X.out.dsk.dsk).mono ?_
  rintro e w2 ⟨rfl, hb⟩
  have B := Lib.hid (B.out.trans (hb.mono B.out.size))
  have X := Lib.hid (X.out.below hb)
  have Y := VBox.new P T A M W Q p X.out.dsk.dsk
  have hb3 : Below w2.heap.size w2 (w2.alloc (.cells #[.int .i64 P, .int .i64 T, .int .i64 A, .int .i64 M, .int .i64 W, .int .i64 Q, .slice D n c, .slice D' n' c', .int .i64 p] 169)) := (Below.refl _ _).alloc (Nat.le_refl _) _
  have B := Lib.hid (B.out.trans (hb3.mono B.out.size))
  obtain ⟨v0, v1, v2, v3, v4, v5, v6, v7, v8⟩ := Y.blk.vol
  have Y := Lib.hid Y
  have RB := Lib.hid ((RB.out.below hb).below hb3)
  clear hb hb3 c0 c1 c2 c3 c4 c5 d0 d1 VO
  go_wp2_with fail
  refine (SE.out _).mono ?_
  rintro e w3 ⟨rfl, hb⟩
  have B := Lib.hid (B.out.trans (hb.mono B.out.size))
  have RB := Lib.hid (RB.out.below hb)
  clear hb v0 v1 v2 v3 v4 v5 v6 v7 v8 SE
  go_wp2_with fail
  refine (SL.out _ RB.out).mono ?_
  intro e w4 hout
  obtain ⟨AT, cT, rfl, hown, hb⟩ := RowOut.len hout rfl HSL.out
  have O4 := Lib.hid (owns_base hown B.out.size)
  have B := Lib.hid (B.out.trans (hb.mono B.out.size))
  clear hout hown hb SL
  go_wp2
  go_ret3
  exact ⟨AT, cT, rfl, O4.out, B.out⟩

set_option maxRecDepth 100000 in
set_option maxHeartbeats 6400000 in
theorem towrite_no (P T A M W Q : Int) (D : Option Addr) (n c : Nat) (D' : Option Addr) (n' c' : Nat) (S : List Sec) (C : List Pnd) (p k : Int) (Ab : Option Addr) (nb cb : Nat) (b : Txt) (w : World) (hq : Dsk w D n c D' n' c' S C) (hs : SmallD S C) (hb : Arg w .u8 Ab nb cb b) (hby : ∀ z ∈ b, isByte z) (h0 : tgE P T A M W Q S C p k b ≠ 0) :
    Calls Try.prog 128 #[cfgV P T A M W Q, diskV D n c D' n' c', .int .i64 p, .int .i64 k, .slice Ab nb cb] w fun e w' => e = .returned (.tuple #[.int .i64 0, .slice none 0 0, .int .i64 (tgE P T A M W Q S C p k b)]) ∧ Below w.heap.size w w' := by
  obtain ⟨x, hbel⟩ := TBox.new P T A M W Q hq
  obtain ⟨w0, hw0⟩ : ∃ x : World, x = (w.alloc (.cells #[.int .i64 P, .int .i64 T, .int .i64 A, .int .i64 M, .int .i64 W, .int .i64 Q] 74)).alloc (.cells #[.slice D n c, .slice D' n' c'] 32) := ⟨_, rfl⟩
  have hsz : w0.heap.size = w.heap.size + 1 + 1 := by rw [hw0]; simp
  rw [← hw0] at x hbel
  have X := Lib.hid x
  have B := Lib.hid hbel
  obtain ⟨c0, c1, c2, c3, c4, c5, d0, d1⟩ := x.cells
  have hbl := hb.len
  unfold tgE taE at h0 ⊢
  by_cases hm : mayT P T A M W Q S C
  · rw [if_pos hm] at h0 ⊢
    have VO := Lib.hid (fun wx hx => volumeOf_yes P T A M W Q D n c D' n' c' S C p wx hx hs hm)
    have SE := Lib.hid (fun w' : World => vsec_any P T A M W Q D n c D' n' c' p k w' hm.1)
    by_cases hi : isT P T p k
    · rw [if_pos hi, if_pos rfl] at h0 ⊢
      rw [show saN P T A p k = atT P T A p k from if_pos hi, show saE P T p k = 0 from if_pos hi] at SE
      obtain ⟨a, ha⟩ : ∃ a, a = atT P T A p k := ⟨_, rfl⟩
      rw [← ha] at SE
      by_cases hl : b.length = 28
      · rw [if_pos hl] at h0; exact absurd rfl h0
      rw [if_neg hl]
      have hl2 : ((nb : Int) != 28) = true := bne_iff_ne.2 (by omega)
      have hl3 : ((nb : Int) == 28) = false := beq_eq_false_iff_ne.2 (by omega)
      clear hq hs x hbel hm hi ha h0 hb hby hsz hl hbl
      go_enter Try.func128, Try.ntmps128
      go_wp2_with fail
      rw [← hw0]
      clear hw0
      refine (VO.out _ X.out.dsk.dsk).mono ?_
      rintro e w2 ⟨rfl, hb⟩
      have B := Lib.hid (B.out.trans (hb.mono B.out.size))
      have X := Lib.hid (X.out.below hb)
      have Y := VBox.new P T A M W Q p X.out.dsk.dsk
      have hb3 : Below w2.heap.size w2 (w2.alloc (.cells #[.int .i64 P, .int .i64 T, .int .i64 A, .int .i64 M, .int .i64 W, .int .i64 Q, .slice D n c, .slice D' n' c', .int .i64 p] 169)) := (Below.refl _ _).alloc (Nat.le_refl _) _
      have B := Lib.hid (B.out.trans (hb3.mono B.out.size))
      obtain ⟨v0, v1, v2, v3, v4, v5, v6, v7, v8⟩ := Y.blk.vol
      have Y := Lib.hid Y
      clear hb hb3 c0 c1 c2 c3 c4 c5 d0 d1 VO
      go_wp2_with fail
      refine (SE.out _).mono ?_
      rintro e w3 ⟨rfl, hb⟩
      have B := Lib.hid (B.out.trans (hb.mono B.out.size))
      clear hb v0 v1 v2 v3 v4 v5 v6 v7 v8 SE
      go_wp2
      go_ret3
      exact ⟨rfl, B.out⟩
    · rw [if_neg hi, if_neg (by decide)]
      rw [show saN P T A p k = 0 from if_neg hi, show saE P T p k = 80 from if_neg hi] at SE
      clear hq hs x hbel hm hi h0 hb hby hsz hbl
      go_enter Try.func128, Try.ntmps128
      go_wp2_with fail
      rw [← hw0]
      clear hw0
      refine (VO.out _ X.out.dsk.dsk).mono ?_
      rintro e w2 ⟨rfl, hb⟩
      have B := Lib.hid (B.out.trans (hb.mono B.out.size))
      have X := Lib.hid (X.out.below hb)
      have Y := VBox.new P T A M W Q p X.out.dsk.dsk
      have hb3 : Below w2.heap.size w2 (w2.alloc (.cells #[.int .i64 P, .int .i64 T, .int .i64 A, .int .i64 M, .int .i64 W, .int .i64 Q, .slice D n c, .slice D' n' c', .int .i64 p] 169)) := (Below.refl _ _).alloc (Nat.le_refl _) _
      have B := Lib.hid (B.out.trans (hb3.mono B.out.size))
      obtain ⟨v0, v1, v2, v3, v4, v5, v6, v7, v8⟩ := Y.blk.vol
      have Y := Lib.hid Y
      clear hb hb3 c0 c1 c2 c3 c4 c5 d0 d1 VO
      go_wp2_with fail
      refine (SE.out _).mono ?_
      rintro e w3 ⟨rfl, hb⟩
      have B := Lib.hid (B.out.trans (hb.mono B.out.size))
      clear hb v0 v1 v2 v3 v4 v5 v6 v7 v8 SE
      go_wp2
      go_ret3
      exact ⟨rfl, B.out⟩
  · rw [if_neg hm, if_neg (by decide)]
    have VO := Lib.hid (fun wx hx => volumeOf_no P T A M W Q D n c D' n' c' S C p wx hx hs hm)
    clear hq hs x hbel hm h0 hb hby hsz hbl
    go_enter Try.func128, Try.ntmps128
    go_wp2_with fail
    rw [← hw0]
    clear hw0
    refine (VO.out _ X.out.dsk.dsk).mono ?_
    rintro e w2 ⟨rfl, hb⟩
    have B := Lib.hid (B.out.trans (hb.mono B.out.size))
    have hb3 : Below w2.heap.size w2 (w2.alloc (.cells #[.int .i64 0, .int .i64 0, .int .i64 0, .int .i64 0, .int .i64 0, .int .i64 0, .slice none 0 0, .slice none 0 0, .int .i64 0] 169)) := (Below.refl _ _).alloc (Nat.le_refl _) _
    have B := Lib.hid (B.out.trans (hb3.mono B.out.size))
    clear hb hb3 c0 c1 c2 c3 c4 c5 d0 d1 VO
    go_wp2
    go_ret3
    exact ⟨rfl, B.out⟩

theorem tp_of {P T A M W Q : Int} {S : List Sec} {C : List Pnd} {p k : Int} {b : Txt} (h : tgE P T A M W Q S C p k b = 0) :
    tpE P T A M W Q S C p k b = cpE S C (atT P T A p k) 2 (sealed b) ∧ tpL P T A M W Q S C p k b = cpL S C (atT P T A p k) 2 (sealed b) ∧ twE P T A M W Q S C p k b = cwE S C (atT P T A p k) 2 (sealed b) ∧
    twS P T A M W Q S C p k b = cwS S C (atT P T A p k) 2 (sealed b) ∧ twC P T A M W Q S C p k b = cwC S C (atT P T A p k) 2 (sealed b) := by
  obtain ⟨hm, hi, hl⟩ := tgE_zero h
  have h1 : taE P T A M W Q S C p k = 0 := by unfold taE; rw [if_pos hm, if_pos hi]
  have e1 : tpE P T A M W Q S C p k b = cpE S C (atT P T A p k) 2 (sealed b) := by unfold tpE; rw [if_pos h1, if_pos hl]
  have e3 : twE P T A M W Q S C p k b = cwE S C (atT P T A p k) 2 (sealed b) := by unfold twE; rw [if_pos h1, if_pos hl]
  refine ⟨e1, ?_, e3, ?_, ?_⟩
  · unfold tpL
    rw [e1]
    split
    · rfl
    · rename_i h2
      unfold cpL
      rw [if_neg h2]
  · unfold twS cwS
    rw [e3]
  · unfold twC cwC
    rw [e3]
theorem tp_not {P T A M W Q : Int} {S : List Sec} {C : List Pnd} {p k : Int} {b : Txt} (h : tgE P T A M W Q S C p k b ≠ 0) :
    tpE P T A M W Q S C p k b = tgE P T A M W Q S C p k b ∧ tpL P T A M W Q S C p k b = [] ∧ twE P T A M W Q S C p k b = tgE P T A M W Q S C p k b ∧ twS P T A M W Q S C p k b = [] ∧ twC P T A M W Q S C p k b = [] := by
  have e1 : tpE P T A M W Q S C p k b = tgE P T A M W Q S C p k b := by
    unfold tgE at h ⊢
    unfold tpE
    split
    · rename_i h1
      rw [if_pos h1] at h
      split
      · rename_i h2; rw [if_pos h2] at h; exact absurd rfl h
      · rfl
    · rfl
  have e3 : twE P T A M W Q S C p k b = tgE P T A M W Q S C p k b := by
    unfold tgE at h ⊢
    unfold twE
    split
    · rename_i h1
      rw [if_pos h1] at h
      split
      · rename_i h2; rw [if_pos h2] at h; exact absurd rfl h
      · rfl
    · rfl
  exact ⟨e1, by unfold tpL; rw [e1, if_neg h], e3, by unfold twS; rw [e3, if_neg h], by unfold twC; rw [e3, if_neg h]⟩

set_option maxRecDepth 100000 in
set_option maxHeartbeats 6400000 in
theorem tplan_any (P T A M W Q : Int) (D : Option Addr) (n c : Nat) (D' : Option Addr) (n' c' : Nat) (S : List Sec) (C : List Pnd) (p k : Int) (Ab : Option Addr) (nb cb : Nat) (b : Txt) (w : World) (hq : Dsk w D n c D' n' c' S C) (hs : SmallD S C) (hb : Arg w .u8 Ab nb cb b) (hby : ∀ z ∈ b, isByte z) :
    Calls Try.prog 64 #[cfgV P T A M W Q, diskV D n c D' n' c', .int .i64 p, .int .i64 k, .slice Ab nb cb] w (PlanOut w (tpL P T A M W Q S C p k b) (tpE P T A M W Q S C p k b)) := by
  obtain ⟨x, hbel⟩ := TBox.new P T A M W Q hq
  obtain ⟨w0, hw0⟩ : ∃ x : World, x = (w.alloc (.cells #[.int .i64 P, .int .i64 T, .int .i64 A, .int .i64 M, .int .i64 W, .int .i64 Q] 74)).alloc (.cells #[.slice D n c, .slice D' n' c'] 32) := ⟨_, rfl⟩
  have hsz : w0.heap.size = w.heap.size + 1 + 1 := by rw [hw0]; simp
  rw [← hw0] at x hbel
  obtain ⟨w1, hw1⟩ : ∃ x : World, x = w0 := ⟨_, rfl⟩
  rw [← hw1] at x hbel
  have X := Lib.hid x
  have B := Lib.hid hbel
  have RB := Lib.hid (hb.below hbel)
  obtain ⟨c0, c1, c2, c3, c4, c5, d0, d1⟩ := x.cells
  by_cases h0 : tgE P T A M W Q S C p k b = 0
  · obtain ⟨e1, e2, e3, e4, e5⟩ := tp_of h0
    obtain ⟨hm, hi, hl⟩ := tgE_zero h0
    have TW := Lib.hid (fun wx hx hy => towrite_yes P T A M W Q D n c D' n' c' S C p k Ab nb cb b wx hx hs hy hby h0)
    have hsl : (sealed b).length = 32 := by rw [sealed_length, hl]
    rw [e1, e2]
    have PL := Lib.hid (fun A0 c0 wx hx hy => plan_any D n c D' n' c' S C (atT P T A p k) 2 A0 32 c0 (sealed b) wx hx hs hy (sealed_byte hby) (by decide))
    unfold PlanOut at PL ⊢
    obtain ⟨L, hL⟩ : ∃ L, L = cpL S C (atT P T A p k) 2 (sealed b) := ⟨_, rfl⟩
    obtain ⟨E, hE⟩ : ∃ L, L = cpE S C (atT P T A p k) 2 (sealed b) := ⟨_, rfl⟩
    rw [← hL, ← hE] at PL ⊢
    obtain ⟨m, hmm⟩ : ∃ m, m = L.length := ⟨_, rfl⟩
    rw [← hmm] at PL ⊢
    obtain ⟨a, ha⟩ : ∃ a, a = atT P T A p k := ⟨_, rfl⟩
    rw [← ha] at PL TW
    obtain ⟨t, ht⟩ : ∃ t, t = sealed b := ⟨_, rfl⟩
    rw [← ht] at PL TW hsl
    clear hq hs hb hby x hbel h0 e1 e2 e3 e4 e5 hm hi hl hsl hE hmm ha ht hsz hL
    go_enter Try.func64, Try.ntmps64
    go_wp2_with fail
    rw [← hw0, ← hw1]
    clear hw0 hw1
    refine (TW.out _ X.out.dsk.dsk RB.out).mono ?_
    rintro e w2 ⟨AT, cT, rfl, hown, hb⟩
    have RT := Lib.hid (Arg.own hown)
    have B := Lib.hid (B.out.trans (hb.mono B.out.size))
    have X := Lib.hid (X.out.below hb)
    clear hb c0 c1 c2 c3 c4 c5 d0 d1 TW hown
    obtain ⟨c0, c1, c2, c3, c4, c5, d0, d1⟩ := X.out.cells
    go_wp2_with fail
    refine (PL.out AT cT _ X.out.dsk.dsk RT.out).mono ?_
    rintro e w3 ⟨AL, cL, rfl, hown, hb⟩
    have OL := Lib.hid (hown.lower B.out.size)
    have B := Lib.hid (B.out.trans (hb.mono B.out.size))
    clear hb hown c0 c1 c2 c3 c4 c5 d0 d1 PL
    go_wp2
    go_ret2
    exact ⟨AL, cL, rfl, OL.out, B.out⟩
  · obtain ⟨e1, e2, e3, e4, e5⟩ := tp_not h0
    have TW := Lib.hid (fun wx hx hy => towrite_no P T A M W Q D n c D' n' c' S C p k Ab nb cb b wx hx hs hy hby h0)
    rw [e1, e2]
    obtain ⟨E, hE⟩ : ∃ E, E = tgE P T A M W Q S C p k b := ⟨_, rfl⟩
    rw [← hE] at TW h0 ⊢
    have h1 : (E != 0) = true := bne_iff_ne.2 h0
    have h2 : (E == 0) = false := beq_eq_false_iff_ne.2 h0
    clear hq hs hb hby x hbel h0 e1 e2 e3 e4 e5 hE hsz
    go_enter Try.func64, Try.ntmps64
    go_wp2_with fail
    rw [← hw0, ← hw1]
    clear hw0 hw1
    refine (TW.out _ X.out.dsk.dsk RB.out).mono ?_
    rintro e w2 ⟨rfl, hb⟩
    have B := Lib.hid (B.out.trans (hb.mono B.out.size))
    clear hb c0 c1 c2 c3 c4 c5 d0 d1 TW
    go_wp2
    go_ret2
    exact PlanOut.none _ _ _ _ rfl B.out

set_option maxRecDepth 100000 in
set_option maxHeartbeats 6400000 in
theorem twrite_any (P T A M W Q : Int) (D : Option Addr) (n c : Nat) (D' : Option Addr) (n' c' : Nat) (S : List Sec) (C : List Pnd) (p k : Int) (Ab : Option Addr) (nb cb : Nat) (b : Txt) (w : World) (hq : Dsk w D n c D' n' c' S C) (hs : SmallD S C) (hb : Arg w .u8 Ab nb cb b) (hby : ∀ z ∈ b, isByte z) :
    Calls Try.prog 62 #[cfgV P T A M W Q, diskV D n c D' n' c', .int .i64 p, .int .i64 k, .slice Ab nb cb] w (DiskOut w (twS P T A M W Q S C p k b) (twC P T A M W Q S C p k b) (twE P T A M W Q S C p k b)) := by
  obtain ⟨x, hbel⟩ := TBox.new P T A M W Q hq
  obtain ⟨w0, hw0⟩ : ∃ x : World, x = (w.alloc (.cells #[.int .i64 P, .int .i64 T, .int .i64 A, .int .i64 M, .int .i64 W, .int .i64 Q] 74)).alloc (.cells #[.slice D n c, .slice D' n' c'] 32) := ⟨_, rfl⟩
  have hsz : w0.heap.size = w.heap.size + 1 + 1 := by rw [hw0]; simp
  rw [← hw0] at x hbel
  have hb9 : Below w0.heap.size w0 (w0.alloc (.cells #[.slice none 0 0, .slice none 0 0] 32)) := (Below.refl _ _).alloc (Nat.le_refl _) _
  have z := Blk.new w0 32 [.slice none 0 0, .slice none 0 0]
  rw [hsz] at z
  obtain ⟨w1, hw1⟩ : ∃ x : World, x = w0.alloc (.cells #[.slice none 0 0, .slice none 0 0] 32) := ⟨_, rfl⟩
  rw [← hw1] at hb9 z
  have x := x.below hb9
  have hbel := hbel.trans (hb9.mono hbel.size)
  have Z := Lib.hid z
  clear hb9 z
  have X := Lib.hid x
  have B := Lib.hid hbel
  have RB := Lib.hid (hb.below hbel)
  obtain ⟨c0, c1, c2, c3, c4, c5, d0, d1⟩ := x.cells
  by_cases h0 : tgE P T A M W Q S C p k b = 0
  · obtain ⟨e1, e2, e3, e4, e5⟩ := tp_of h0
    obtain ⟨hm, hi, hl⟩ := tgE_zero h0
    have TW := Lib.hid (fun wx hx hy => towrite_yes P T A M W Q D n c D' n' c' S C p k Ab nb cb b wx hx hs hy hby h0)
    have hsl : (sealed b).length = 32 := by rw [sealed_length, hl]
    rw [e3, e4, e5]
    have PL := Lib.hid (fun A0 c0 wx hx hy => cwrite_any D n c D' n' c' S C (atT P T A p k) 2 A0 32 c0 (sealed b) wx hx hs hy (sealed_byte hby) (by decide))
    unfold DiskOut at PL ⊢
    obtain ⟨L, hL⟩ : ∃ L, L = cwS S C (atT P T A p k) 2 (sealed b) := ⟨_, rfl⟩
    obtain ⟨K, hK⟩ : ∃ L, L = cwC S C (atT P T A p k) 2 (sealed b) := ⟨_, rfl⟩
    obtain ⟨E, hE⟩ : ∃ L, L = cwE S C (atT P T A p k) 2 (sealed b) := ⟨_, rfl⟩
    rw [← hL, ← hK, ← hE] at PL ⊢
    obtain ⟨m, hmm⟩ : ∃ m, m = L.length := ⟨_, rfl⟩
    obtain ⟨m2, hmm2⟩ : ∃ m, m = K.length := ⟨_, rfl⟩
    rw [← hmm, ← hmm2] at PL ⊢
    obtain ⟨a, ha⟩ : ∃ a, a = atT P T A p k := ⟨_, rfl⟩
    rw [← ha] at PL TW
    obtain ⟨t, ht⟩ : ∃ t, t = sealed b := ⟨_, rfl⟩
    rw [← ht] at PL TW hsl
    clear hq hs hb hby x hbel h0 e1 e2 e3 e4 e5 hm hi hl hsl hE hmm ha ht hsz hL hK hmm2
    go_enter Try.func62, Try.ntmps62
    go_wp2_with fail
    rw [← hw0, ← hw1]
    clear hw0 hw1
    refine (TW.out _ X.out.dsk.dsk RB.out).mono ?_
    rintro e w2 ⟨AT, cT, rfl, hown, hb⟩
    have RT := Lib.hid (Arg.own hown)
    have B := Lib.hid (B.out.trans (hb.mono B.out.size))
    have X := Lib.hid (X.out.below hb)
    have Z := Lib.hid (Z.out.below hb Z.out.lt)
    clear hb c0 c1 c2 c3 c4 c5 d0 d1 TW hown
    obtain ⟨c0, c1, c2, c3, c4, c5, d0, d1⟩ := X.out.cells
    go_wp2_with fail
    refine (PL.out AT cT _ X.out.dsk.dsk RT.out).mono ?_
    rintro e w3 ⟨AL, cL, AL', cL', rfl, hown, hb⟩
    have OL := Lib.hid (hown.lower B.out.size)
    have B := Lib.hid (B.out.trans (hb.mono B.out.size))
    have Z := Lib.hid (Z.out.below hb Z.out.lt)
    obtain ⟨z0, z1⟩ : _ ∧ _ := ⟨Z.out.cell 0, Z.out.cell 1⟩
    simp only [List.getElem?_cons_zero, List.getElem?_cons_succ] at z0 z1
    have f0 := Z.out.free 0
    have f1 := Z.out.free 1
    have hG : w.heap.size ≤ w.heap.size + 1 + 1 := by omega
    have OF := Lib.hid ((OL.out.box Z.out 0 (.slice AL m cL)).box (Z.out.set 0 _) 1 (.slice AL' m2 cL'))
    have BF := Lib.hid ((B.out.setCell (p := ⟨w.heap.size + 1 + 1, 0, none⟩) hG (.slice AL m cL)).setCell (p := ⟨w.heap.size + 1 + 1, 1, none⟩) hG (.slice AL' m2 cL'))
    have R := Lib.hid ((Z.out.set 0 (.slice AL m cL)).set 1 (.slice AL' m2 cL'))
    clear hb hown c0 c1 c2 c3 c4 c5 d0 d1 PL OL B
    go_wp2
    have r0 := R.out.cell 0
    have r1 := R.out.cell 1
    simp only [List.getElem?_cons_zero, List.getElem?_cons_succ, List.set_cons_zero, List.set_cons_succ] at r0 r1
    refine bodyPost_ret (v := .tuple #[diskV AL m cL AL' m2 cL', .int .i64 E]) ?_ rfl ⟨AL, cL, AL', cL', rfl, OF.out, BF.out⟩
    clear z0 z1 f0 f1
    simp [results, Try.f62, go_sem, r0, r1]
  · obtain ⟨e1, e2, e3, e4, e5⟩ := tp_not h0
    have TW := Lib.hid (fun wx hx hy => towrite_no P T A M W Q D n c D' n' c' S C p k Ab nb cb b wx hx hs hy hby h0)
    rw [e3, e4, e5]
    obtain ⟨E, hE⟩ : ∃ E, E = tgE P T A M W Q S C p k b := ⟨_, rfl⟩
    rw [← hE] at TW h0 ⊢
    have h1 : (E != 0) = true := bne_iff_ne.2 h0
    have h2 : (E == 0) = false := beq_eq_false_iff_ne.2 h0
    clear hq hs hb hby x hbel h0 e1 e2 e3 e4 e5 hE hsz
    go_enter Try.func62, Try.ntmps62
    go_wp2_with fail
    rw [← hw0, ← hw1]
    clear hw0 hw1
    refine (TW.out _ X.out.dsk.dsk RB.out).mono ?_
    rintro e w2 ⟨rfl, hb⟩
    have B := Lib.hid (B.out.trans (hb.mono B.out.size))
    have Z := Lib.hid (Z.out.below hb Z.out.lt)
    obtain ⟨z0, z1⟩ : _ ∧ _ := ⟨Z.out.cell 0, Z.out.cell 1⟩
    simp only [List.getElem?_cons_zero, List.getElem?_cons_succ] at z0 z1
    have f0 := Z.out.free 0
    have f1 := Z.out.free 1
    clear hb c0 c1 c2 c3 c4 c5 d0 d1 TW
    have hG : w.heap.size ≤ w.heap.size + 1 + 1 := by omega
    have BF := Lib.hid ((B.out.setCell (p := ⟨w.heap.size + 1 + 1, 0, none⟩) hG (.slice none 0 0)).setCell (p := ⟨w.heap.size + 1 + 1, 1, none⟩) hG (.slice none 0 0))
    have R := Lib.hid ((Z.out.set 0 (.slice none 0 0)).set 1 (.slice none 0 0))
    clear B
    go_wp2
    have r0 := R.out.cell 0
    have r1 := R.out.cell 1
    simp only [List.getElem?_cons_zero, List.getElem?_cons_succ, List.set_cons_zero, List.set_cons_succ] at r0 r1
    refine bodyPost_ret (v := .tuple #[diskV none 0 0 none 0 0, .int .i64 E]) ?_ rfl ⟨none, 0, none, 0, rfl, OwnDsk.nil _ _, BF.out⟩
    clear z0 z1 f0 f1
    simp [results, Try.f62, go_sem, r0, r1]

end Go.Proofs.Ytnmlplfcdnakhaa
