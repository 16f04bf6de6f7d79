/- Texts of layers 1 to 12, joined. -/
import Derived.Test.YtifgcfepbenpjaaGreatOa42
set_option maxRecDepth 100000
set_option maxHeartbeats 12800000
set_option linter.unusedVariables false
namespace Go.Proofs.YtifgcfepbenpjaaGreat
open Go.RowKit
theorem jae_may {P T A M W Q : Int} {S : List Sec} {C : List Pnd} {a : Int} (h : jaE P T A M W Q S C a = 0) : mayT P T A M W Q S C ∧ arJ a := by
 unfold jaE at h
 split at h
 ·split at h
  ·exact ⟨by assumption, by assumption⟩
  ·cases h
 ·cases h
theorem first_wrap {P T A M W Q : Int} {S : List Sec} {C : List Pnd} {a j : Int} (h : jaE P T A M W Q S C a = 0) (hj : 0 ≤ j) (hA : j < A) : 0 ≤ 2 + a * A ∧ 2 + a * A ≤ 100 ∧ IntKind.i64.wrap (2 + a * A + j) = 2 + a * A + j := by
 obtain ⟨h1, h2⟩ := jae_may h
 have h3 := h1.1
 unfold mayC at h3
 have e : a * A = 0 ∨ a * A = A := by
  unfold arJ at h2
  rcases (show a = 0 ∨ a = 1 by omega) with r | r
  ·rw [r]; left; simp
  ·rw [r]; right; simp
 obtain ⟨k, hk⟩ := Int.eq_ofNat_of_zero_le (show 0 ≤ 2 + a * A + j by omega)
 refine ⟨by omega, by omega, ?_⟩
 rw [hk]
 exact Lib.wrap_i64_small k (by omega)
def jaN (P T A M W Q : Int) (S : List Sec) (C : List Pnd) (a : Int) : Int := if jaE P T A M W Q S C a = 0 then 2 + a * A else 0
theorem firstof_any (P T A M W Q : Int) (D : Option Addr) (n c : Nat) (D' : Option Addr) (n' c' : Nat) (S : List Sec) (C : List Pnd) (a : Int) (w : World) (hq : Dsk w D n c D' n' c' S C) (hs : SmallD S C) :
  Calls Tryz.prog 81 #[cfgV P T A M W Q, diskV D n c D' n' c', .int .i64 a] w fun e w' => e = .returned (.tuple #[.int .i64 (jaN P T A M W Q S C a), .int .i64 (jaE P T A M W Q S C a)]) ∧ Below w.heap.size w w' := by
 obtain ⟨x, hbel⟩ := TBox.new P T A M W Q hq
 obtain ⟨w0, hw0⟩ : ∃ x : World, x = (w.alloc (.cells #[.int .i64 P, .int .i64 T, .int .i64 A, .int .i64 M, .int .i64 W, .int .i64 Q] 36)).alloc (.cells #[.slice D n c, .slice D' n' c'] 25) := ⟨_, rfl⟩
 rw [← hw0] at x hbel
 have X := Lh x
 have B := Lh hbel
 have CK := Lh (tcheck_any P T A M W Q D n c D' n' c' S C w0 x.dsk.dsk hs)
 obtain ⟨c0, c1, c2, c3, c4, c5, d0, d1⟩ := x.cells
 by_cases hm : mayT P T A M W Q S C
 ·rw [show tcE P T A M W Q S C = 0 from if_pos hm] at CK
  have hmc : mayC P T A M W Q := hm.1
  have hA1 : 1 ≤ A := by unfold mayC at hmc; omega
  have hE : jaE P T A M W Q S C a = areE P T A M W Q a 0 := by
   unfold jaE areE
   rw [if_pos hm, if_pos hmc]
   by_cases h : arJ a
   ·rw [if_pos h, if_pos ⟨h.1, h.2, by omega, by omega⟩]
   ·rw [if_neg h, if_neg (fun k => h ⟨k.1, k.2.1⟩)]
  have hN : jaN P T A M W Q S C a = areN P T A M W Q a 0 := by
   unfold jaN jaE areN
   rw [if_pos hm, if_pos hmc]
   by_cases h : arJ a
   ·rw [if_pos h, if_pos rfl, if_pos ⟨h.1, h.2, by omega, by omega⟩]
    omega
   ·rw [if_neg h, if_neg (by decide), if_neg (fun k => h ⟨k.1, k.2.1⟩)]
  rw [hE, hN]
  have AR := Lh (fun wx => parea_any P T A M W Q a 0 wx)
  obtain ⟨E, hEE⟩ : ∃ E, E = areE P T A M W Q a 0 := ⟨_, rfl⟩
  obtain ⟨y, hy⟩ : ∃ y, y = areN P T A M W Q a 0 := ⟨_, rfl⟩
  rw [← hEE, ← hy] at AR ⊢
  clear hm hmc hA1 hE hN hEE hy hq hs hbel
  go_enter Tryz.func81, Tryz.ntmps81
  go_wp2_with fail
  rw [← hw0]
  clear hw0
  refine CK.out.mono ?_
  rintro e w1 ⟨rfl, hb⟩
  have B := Lh (B.out.trans (hb.mono B.out.size))
  have X := Lh (X.out.below hb)
  clear hb x CK c0 c1 c2 c3 c4 c5 d0 d1
  obtain ⟨c0, c1, c2, c3, c4, c5, d0, d1⟩ := X.out.cells
  go_wp2_with fail
  refine (AR.out _).mono ?_
  rintro e w2 ⟨rfl, hb⟩
  have B := Lh (B.out.trans (hb.mono B.out.size))
  clear hb X AR c0 c1 c2 c3 c4 c5 d0 d1
  go_wp2
  go_ret2
  exact ⟨rfl, B.out⟩
 ·rw [show tcE P T A M W Q S C = 8 from if_neg hm] at CK
  have hE : jaE P T A M W Q S C a = 8 := if_neg hm
  rw [show jaN P T A M W Q S C a = 0 by unfold jaN; rw [hE]; rfl, hE]
  clear hm hE hq hs hbel
  go_enter Tryz.func81, Tryz.ntmps81
  go_wp2_with fail
  rw [← hw0]
  clear hw0
  refine CK.out.mono ?_
  rintro e w1 ⟨rfl, hb⟩
  have B := Lh (B.out.trans (hb.mono B.out.size))
  clear hb x CK c0 c1 c2 c3 c4 c5 d0 d1
  go_wp2
  go_ret2
  exact ⟨rfl, B.out⟩
def bootE (P T A M W Q : Int) (S : List Sec) (C : List Pnd) (m : Mt) : Int := if boE P T A M W Q S C m = 0 then (if m.s.1 = 4294967295 then 9 else spE P T A M W Q S C (bootS m)) else 8
def bootM (P T A M W Q : Int) (S : List Sec) (C : List Pnd) (m : Mt) : Mt := if bootE P T A M W Q S C m = 0 then ⟨bootS m, m.n, 0, m.t⟩ else zM
def bootA (P T A M W Q : Int) (S : List Sec) (C : List Pnd) (m : Mt) : List Ac := if bootE P T A M W Q S C m = 0 then actsA (spL P T A M W Q S C (bootS m)) else []
def PlanOut12 (w : World) (m : Mt) (l : List Ac) (E : Int) (e : Ending) (w' : World) : Prop := ∃ A' c' A2 c2 L, e = .returned (.tuple #[metV m.s.1 m.s.2.1 m.s.2.2 m.n m.u A' m.t.length c', .slice A2 l.length c2, .int .i64 E]) ∧ OwnRecs w' w.heap.size A' m.t.length c' m.t ∧ OwnAcs w' w.heap.size A2 l.length c2 L ∧ AxIs w' L l ∧ Below w.heap.size w w'
theorem rboot12_any (P T A M W Q : Int) (D : Option Addr) (nd d : Nat) (D' : Option Addr) (nd' d' : Nat) (S : List Sec) (C : List Pnd) (v a g n u : Int) (B : Option Addr) (k c : Nat) (t : List Rc) (w : World) (hq : Dsk w D nd d D' nd' d' S C) (hs : SmallD S C) (hi : isS (v, a, g)) (ht : Recs w B k c t) (hk : k ≤ 100000) :
  Calls Tryz.prog 22 #[cfgV P T A M W Q, diskV D nd d D' nd' d', metV v a g n u B k c] w (PlanOut12 w (bootM P T A M W Q S C ⟨(v, a, g), n, u, t⟩) (bootA P T A M W Q S C ⟨(v, a, g), n, u, t⟩) (bootE P T A M W Q S C ⟨(v, a, g), n, u, t⟩)) := by
 have hlen := ht.len
 obtain ⟨x, hbel⟩ := MBox.new P T A M W Q v a g n u hq ht
 obtain ⟨z, h2⟩ := met_box (((w.alloc (.cells #[.int .i64 P, .int .i64 T, .int .i64 A, .int .i64 M, .int .i64 W, .int .i64 Q] 36)).alloc (.cells #[.slice D nd d, .slice D' nd' d'] 25)).alloc (.cells #[.int .u32 v, .int .i64 a, .int .u64 g, .int .i64 n, .int .i64 u, .slice B k c] 32)) 0 0 0 0 0 none 0 0
 rw [World.size_alloc, World.size_alloc, World.size_alloc] at z
 have x := x.below h2
 obtain ⟨w0, hw0⟩ : ∃ x : World, x = ((((w.alloc (.cells #[.int .i64 P, .int .i64 T, .int .i64 A, .int .i64 M, .int .i64 W, .int .i64 Q] 36)).alloc (.cells #[.slice D nd d, .slice D' nd' d'] 25)).alloc (.cells #[.int .u32 v, .int .i64 a, .int .u64 g, .int .i64 n, .int .i64 u, .slice B k c] 32)).alloc (.cells #[.int .u32 0, .int .i64 0, .int .u64 0, .int .i64 0, .int .i64 0, .slice none 0 0] 32)) := ⟨_, rfl⟩
 rw [← hw0] at x z h2
 have X := Lh x
 have Z := Lh z
 have BB := Lh (hbel.trans (h2.mono hbel.size))
 have BO := Lh (fun wx hx hy => rboth12_any P T A M W Q v a g n u D nd d D' nd' d' S C B k c t wx hx hs hy hk)
 obtain ⟨⟨c0, c1, c2, c3, c4, c5, c6, c7⟩, d0, d1, d2, d3, d4, d5⟩ := x.cells
 clear x z h2 hbel
 by_cases h0 : boE P T A M W Q S C ⟨(v, a, g), n, u, t⟩ = 0
 ·rw [h0] at BO
  have hmm : mayT P T A M W Q S C ∧ mayM P T A M W Q ⟨(v, a, g), n, u, t⟩ := Classical.byContradiction fun hn => by
   unfold boE at h0
   rw [if_neg hn] at h0
   cases h0
  have har : arS a := hmm.2.2.1
  by_cases hv : v = 4294967295
  ·have hE : bootE P T A M W Q S C ⟨(v, a, g), n, u, t⟩ = 9 := by unfold bootE; rw [if_pos h0]; exact if_pos hv
   unfold bootM bootA
   rw [hE, if_neg (by decide), if_neg (by decide)]
   subst hv
   clear hi hq hs ht hk h0 hmm har hE hlen
   go_enter Tryz.func22, Tryz.ntmps22
   go_wp2_with fail
   rw [← hw0]
   clear hw0
   refine (BO.out _ X.out.two.dsk.dsk X.out.tab).mono ?_
   rintro e w1 ⟨rfl, hb⟩
   have BB := Lh (BB.out.trans (hb.mono BB.out.size))
   have X := Lh (X.out.below hb)
   have Z := Lh (Z.out.below hb Z.out.lt)
   clear hb BO c0 c1 c2 c3 c4 c5 c6 c7 d0 d1 d2 d3 d4 d5
   obtain ⟨⟨c0, c1, c2, c3, c4, c5, c6, c7⟩, d0, d1, d2, d3, d4, d5⟩ := X.out.cells
   have fz := Z.out.free
   obtain ⟨e0, e1, e2, e3, e4, e5⟩ := Z.out.met
   go_wp2
   obtain ⟨z0, z1, z2, z3, z4, z5⟩ := (Z.out.sixM 0 0 0 0 0 none 0 0).met
   refine bodyPost_ret (v := .tuple #[metV 0 0 0 0 0 none 0 0, .slice none 0 0, .int .i64 9]) ?_ rfl ⟨none, 0, none, 0, [], rfl, OwnRecs.nil _ _, OwnAcs.nil _ _, AxIs.nil _, below_sixM BB.out (by omega) 0 0 0 0 0 none 0 0⟩
   clear c0 c1 c2 c3 c4 c5 c6 c7 d0 d1 d2 d3 d4 d5 fz e0 e1 e2 e3 e4 e5
   simp [results, Tryz.f22, go_sem, z0, z1, z2, z3, z4, z5]
  ·have hE : bootE P T A M W Q S C ⟨(v, a, g), n, u, t⟩ = spE P T A M W Q S C (v + 1, a, g) := by unfold bootE; rw [if_pos h0]; exact if_neg hv
   have hv1 : v + 1 < 4294967296 := by have := hi.1.2; dsimp only at this; omega
   have BT := Lh (fun wx hx hy => rbooted_any P T A M W Q D nd d D' nd' d' S C v a g n u B k c t wx hx hs hmm.1 hi hv1 har hy hk)
   have PN := Lh (fun wx hx => rplan9_any P T A M W Q D nd d D' nd' d' S C (v + 1) a g wx hx hs ⟨⟨by have := hi.1.1; dsimp only at this ⊢; omega, hv1⟩, hi.2⟩)
   unfold NoteOut at BT
   unfold RPlan at PN
   obtain ⟨E2, hE2⟩ : ∃ y, y = spE P T A M W Q S C (v + 1, a, g) := ⟨_, rfl⟩
   have PL := Lh (fun h => plP_is (P := P) (T := T) (A := A) (M := M) (W := W) (Q := Q) (S := S) (C := C) (s := (v + 1, a, g)) h)
   rw [← hE2] at PN hE PL
   have hl2 : (actsA (plP S C (v + 1, a, g))).length = 2 := by simp [actsA, wrA, plP_len]
   dsimp only at BT
   rw [hl2, hlen] at BT
   obtain ⟨LP, hLP⟩ : ∃ y, y = actsA (plP S C (v + 1, a, g)) := ⟨_, rfl⟩
   rw [← hLP] at BT hl2
   have hne : ¬ v = 4294967295 := hv
   obtain ⟨sl, hsl⟩ : ∃ y, y = spL P T A M W Q S C (v + 1, a, g) := ⟨_, rfl⟩
   obtain ⟨sn, hsn⟩ : ∃ y, y = sl.length := ⟨_, rfl⟩
   rw [← hsl, ← hsn] at PN
   unfold bootM bootA
   rw [hE]
   by_cases h2 : E2 = 0
   ·have hLL : actsA (spL P T A M W Q S C (bootS ⟨(v, a, g), n, u, t⟩)) = LP := by rw [hLP, ← PL.out h2]; rfl
    rw [if_pos h2, if_pos h2, hLL]
    unfold PlanOut12 bootS
    dsimp only
    rw [h2] at PN ⊢
    rw [hl2, hlen]
    clear hE hE2 hsl hsn hLP hLL PL h2 hmm h0 har hi hq hs ht hk hv1 hlen hl2
    go_enter Tryz.func22, Tryz.ntmps22
    go_wp2_with fail
    rw [← hw0]
    clear hw0
    refine (BO.out _ X.out.two.dsk.dsk X.out.tab).mono ?_
    rintro e w1 ⟨rfl, hb⟩
    have BB := Lh (BB.out.trans (hb.mono BB.out.size))
    have X := Lh (X.out.below hb)
    have Z := Lh (Z.out.below hb Z.out.lt)
    clear hb BO c0 c1 c2 c3 c4 c5 c6 c7 d0 d1 d2 d3 d4 d5
    obtain ⟨⟨c0, c1, c2, c3, c4, c5, c6, c7⟩, d0, d1, d2, d3, d4, d5⟩ := X.out.cells
    go_wp2_with fail
    refine (BT.out _ X.out.two.dsk.dsk X.out.tab).mono ?_
    rintro e w2 ⟨A1, x1, A2, x2, L2, rfl, hown, hoA, hax, hb⟩
    have G1 := Lh Z.out.lt
    have S1 := Lh BB.out.size
    obtain ⟨y, hk1⟩ := met_box w2 (v + 1) a g n 0 A1 k x1
    have BB := Lh ((BB.out.trans (hb.mono BB.out.size)).trans (hk1.mono (BB.out.trans (hb.mono BB.out.size)).size))
    have X := Lh ((X.out.below hb).below hk1)
    have Z := Lh ((Z.out.below hb Z.out.lt).below hk1 (Nat.lt_of_lt_of_le Z.out.lt hb.size))
    have O := Lh (hown.below hk1)
    have OA := Lh (hoA.below hk1)
    have AX := Lh (hax.below hk1)
    have Y := Lh y
    clear hown hoA hax hb hk1 BT c0 c1 c2 c3 c4 c5 c6 c7 d0 d1 d2 d3 d4 d5
    obtain ⟨⟨c0, c1, c2, c3, c4, c5, c6, c7⟩, d0, d1, d2, d3, d4, d5⟩ := X.out.cells
    obtain ⟨y0, y1, y2, y3, y4, y5⟩ := y.met
    clear y
    go_wp2_with fail
    refine (PN.out _ X.out.two.dsk.dsk).mono ?_
    rintro e w3 ⟨A5, x5, rfl, hP, hb⟩
    have BB := Lh (BB.out.trans (hb.mono BB.out.size))
    have X := Lh (X.out.below hb)
    have Z := Lh (Z.out.below hb Z.out.lt)
    have O := Lh (O.out.below hb)
    have OA := Lh (OA.out.below hb)
    have AX := Lh (AX.out.below hb)
    have Y := Lh (Y.out.below hb Y.out.lt)
    clear hP hb PN c0 c1 c2 c3 c4 c5 c6 c7 d0 d1 d2 d3 d4 d5 y0 y1 y2 y3 y4 y5
    obtain ⟨y0, y1, y2, y3, y4, y5⟩ := Y.out.met
    have fz := Z.out.free
    obtain ⟨e0, e1, e2, e3, e4, e5⟩ := Z.out.met
    go_wp2
    obtain ⟨z0, z1, z2, z3, z4, z5⟩ := (Z.out.sixM (v + 1) a g n 0 A1 k x1).met
    refine bodyPost_ret (v := .tuple #[metV (v + 1) a g n 0 A1 k x1, .slice A2 2 x2, .int .i64 0]) ?_ rfl ⟨A1, x1, A2, x2, L2, rfl, OwnRecs.lower (OwnRecs.sixM O.out (G := w.heap.size + 1 + 1 + 1) G1.out (v + 1) a g n 0 A1 k x1) S1.out, OwnAcs.lower ((((((OA.out.away G1.out 0 _).away G1.out 1 _).away G1.out 2 _).away G1.out 3 _).away G1.out 4 _).away G1.out 5 _) S1.out, ⟨AX.out.1, fun i hi => ⟨(AX.out.2 i hi).1, (AX.out.2 i hi).2.1, Arg.offM Z.out (grown_six _ _ _ _ _ _ _ _ _ _) (AX.out.2 i hi).2.2⟩⟩, below_sixM BB.out (by omega) (v + 1) a g n 0 A1 k x1⟩
    clear fz e0 e1 e2 e3 e4 e5 y0 y1 y2 y3 y4 y5
    simp [results, Tryz.f22, go_sem, z0, z1, z2, z3, z4, z5]
   ·rw [if_neg h2, if_neg h2]
    have hz : (E2 != 0) = true := by simpa using h2
    clear hE hE2 hsl hsn hLP PL h2 hmm h0 har hi hq hs ht hk hv1 hlen hl2
    go_enter Tryz.func22, Tryz.ntmps22
    go_wp2_with fail
    rw [← hw0]
    clear hw0
    refine (BO.out _ X.out.two.dsk.dsk X.out.tab).mono ?_
    rintro e w1 ⟨rfl, hb⟩
    have BB := Lh (BB.out.trans (hb.mono BB.out.size))
    have X := Lh (X.out.below hb)
    have Z := Lh (Z.out.below hb Z.out.lt)
    clear hb BO c0 c1 c2 c3 c4 c5 c6 c7 d0 d1 d2 d3 d4 d5
    obtain ⟨⟨c0, c1, c2, c3, c4, c5, c6, c7⟩, d0, d1, d2, d3, d4, d5⟩ := X.out.cells
    go_wp2_with fail
    refine (BT.out _ X.out.two.dsk.dsk X.out.tab).mono ?_
    rintro e w2 ⟨A1, x1, A2, x2, L2, rfl, hown, hoA, hax, hb⟩
    have G1 := Lh Z.out.lt
    have S1 := Lh BB.out.size
    obtain ⟨y, hk1⟩ := met_box w2 (v + 1) a g n 0 A1 k x1
    have BB := Lh ((BB.out.trans (hb.mono BB.out.size)).trans (hk1.mono (BB.out.trans (hb.mono BB.out.size)).size))
    have X := Lh ((X.out.below hb).below hk1)
    have Z := Lh ((Z.out.below hb Z.out.lt).below hk1 (Nat.lt_of_lt_of_le Z.out.lt hb.size))
    have O := Lh (hown.below hk1)
    have OA := Lh (hoA.below hk1)
    have AX := Lh (hax.below hk1)
    have Y := Lh y
    clear hown hoA hax hb hk1 BT c0 c1 c2 c3 c4 c5 c6 c7 d0 d1 d2 d3 d4 d5
    obtain ⟨⟨c0, c1, c2, c3, c4, c5, c6, c7⟩, d0, d1, d2, d3, d4, d5⟩ := X.out.cells
    obtain ⟨y0, y1, y2, y3, y4, y5⟩ := y.met
    clear y
    go_wp2_with fail
    refine (PN.out _ X.out.two.dsk.dsk).mono ?_
    rintro e w3 ⟨A5, x5, rfl, hP, hb⟩
    have BB := Lh (BB.out.trans (hb.mono BB.out.size))
    have X := Lh (X.out.below hb)
    have Z := Lh (Z.out.below hb Z.out.lt)
    have O := Lh (O.out.below hb)
    have OA := Lh (OA.out.below hb)
    have AX := Lh (AX.out.below hb)
    have Y := Lh (Y.out.below hb Y.out.lt)
    clear hP hb PN c0 c1 c2 c3 c4 c5 c6 c7 d0 d1 d2 d3 d4 d5 y0 y1 y2 y3 y4 y5
    obtain ⟨y0, y1, y2, y3, y4, y5⟩ := Y.out.met
    have fz := Z.out.free
    obtain ⟨e0, e1, e2, e3, e4, e5⟩ := Z.out.met
    go_wp2
    obtain ⟨z0, z1, z2, z3, z4, z5⟩ := (Z.out.sixM 0 0 0 0 0 none 0 0).met
    refine bodyPost_ret (v := .tuple #[metV 0 0 0 0 0 none 0 0, .slice none 0 0, .int .i64 E2]) ?_ rfl ⟨none, 0, none, 0, [], rfl, OwnRecs.nil _ _, OwnAcs.nil _ _, AxIs.nil _, below_sixM BB.out (by omega) 0 0 0 0 0 none 0 0⟩
    clear fz e0 e1 e2 e3 e4 e5 y0 y1 y2 y3 y4 y5
    simp [results, Tryz.f22, go_sem, z0, z1, z2, z3, z4, z5]
 ·have hE : bootE P T A M W Q S C ⟨(v, a, g), n, u, t⟩ = 8 := if_neg h0
  have h8 : boE P T A M W Q S C ⟨(v, a, g), n, u, t⟩ = 8 := by
   unfold boE at h0 ⊢
   split at h0
   ·exact absurd rfl h0
   ·rename_i hn; exact if_neg hn
  rw [h8] at BO
  unfold bootM bootA
  rw [hE, if_neg (by decide), if_neg (by decide)]
  clear hi hq hs ht hk h0 h8 hE hlen
  go_enter Tryz.func22, Tryz.ntmps22
  go_wp2_with fail
  rw [← hw0]
  clear hw0
  refine (BO.out _ X.out.two.dsk.dsk X.out.tab).mono ?_
  rintro e w1 ⟨rfl, hb⟩
  have BB := Lh (BB.out.trans (hb.mono BB.out.size))
  have X := Lh (X.out.below hb)
  have Z := Lh (Z.out.below hb Z.out.lt)
  clear hb BO c0 c1 c2 c3 c4 c5 c6 c7 d0 d1 d2 d3 d4 d5
  obtain ⟨⟨c0, c1, c2, c3, c4, c5, c6, c7⟩, d0, d1, d2, d3, d4, d5⟩ := X.out.cells
  have fz := Z.out.free
  obtain ⟨e0, e1, e2, e3, e4, e5⟩ := Z.out.met
  go_wp2
  obtain ⟨z0, z1, z2, z3, z4, z5⟩ := (Z.out.sixM 0 0 0 0 0 none 0 0).met
  refine bodyPost_ret (v := .tuple #[metV 0 0 0 0 0 none 0 0, .slice none 0 0, .int .i64 8]) ?_ rfl ⟨none, 0, none, 0, [], rfl, OwnRecs.nil _ _, OwnAcs.nil _ _, AxIs.nil _, below_sixM BB.out (by omega) 0 0 0 0 0 none 0 0⟩
  clear c0 c1 c2 c3 c4 c5 c6 c7 d0 d1 d2 d3 d4 d5 fz e0 e1 e2 e3 e4 e5
  simp [results, Tryz.f22, go_sem, z0, z1, z2, z3, z4, z5]
end Go.Proofs.YtifgcfepbenpjaaGreat
