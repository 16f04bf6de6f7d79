/- Texts of layers 1 to 12, joined. -/
import Derived.Test.YtifgcfepbenpjaaGreatCr46
set_option maxRecDepth 100000
set_option maxHeartbeats 12800000
set_option linter.unusedVariables false
namespace Go.Proofs.YtifgcfepbenpjaaGreat
open Go.RowKit
def hdT (g : Int) : Txt := digs 8 g ++ [1]
theorem hdT_row (g : Int) : rowTo [g, 1] [8, 1] 2 = hdT g := by
 have h : rowTo [g, 1] [8, 1] 2 = (([] ++ digs 8 g) ++ digs 1 1) := rfl
 rw [h]
 simp [digs, hdT]
theorem hdT_length (g : Int) : (hdT g).length = 9 := by simp [hdT, digs_length]
theorem hdT_byte (g : Int) : ∀ z ∈ hdT g, isByte z := fun z hz => by
 rcases List.mem_append.1 hz with h | h
 ·exact digs_byte _ _ z h
 ·rw [List.mem_singleton.1 h]; exact ⟨by decide, by decide⟩
theorem fits2 {g : Int} (hg : isG g) : fitsTo [g, 1] [8, 1] 2 = true := by
 have h1 : g / 256 ^ 8 = 0 := Int.ediv_eq_zero_of_lt hg.1 (by rw [show (256 : Int) ^ 8 = 18446744073709551616 by decide]; exact hg.2)
 show ((true && decide (g / 256 ^ 8 = 0)) && decide ((1 : Int) / 256 ^ 1 = 0)) = true
 rw [h1]
 decide
theorem beg_take {g : Int} {x : Txt} (hg : isG g) (hx : x.length = 32) (hb : ∀ z ∈ x, isByte z) : (x.take 9 = hdT g) ↔ begT g x := by
 have e : x.take 9 = x.take 8 ++ [x.getD 8 0] := by
  rw [show (9 : Nat) = 8 + 1 from rfl, List.take_add_one, gtD, geE (by omega)]
  rfl
 have l8 : (x.take 8).length = 8 := by rw [List.length_take]; omega
 have hdv : digs 8 (val (x.take 8)) = x.take 8 := by
  have := digs_val (x.take 8) (fun z hz => hb z (List.mem_of_mem_take hz))
  rw [l8] at this
  exact this
 unfold begT hdT
 rw [e]
 constructor
 ·intro h
  have := List.append_inj h (by rw [l8, digs_length])
  exact ⟨by simpa using this.2, by rw [this.1]; exact val_digs 8 g hg.1 (Int.ediv_eq_zero_of_lt hg.1 (by rw [show (256 : Int) ^ 8 = 18446744073709551616 by decide]; exact hg.2))⟩
 ·rintro ⟨h1, h2⟩
  rw [h1, ← h2, hdv]
theorem phas_any (A : Option Addr) (c : Nat) (x : Txt) (A' : Option Addr) (c' : Nat) (y : Txt) (w : World) (hx : Arg w .u8 A 32 c x) (hy : Arg w .u8 A' 9 c' y) (bx : ∀ z ∈ x, isByte z) (by_ : ∀ z ∈ y, isByte z) :
  Calls Tryz.prog 163 #[.slice A 32 c, .slice A' 9 c'] w fun e w' => e = .returned (.bool (decide (x.take 9 = y))) ∧ w' = w := by
 have hl := hx.len
 obtain ⟨b, o, rfl, _, _⟩ := hx.seq 0 (.int .u8 (x.getD 0 0)) (ints_getD .u8 x 0 (by omega))
 have hp := hx.piece (lo := 0) (hi := 9) (by omega) (by omega)
 rw [Nat.add_zero, Nat.sub_zero, Nat.sub_zero, List.drop_zero] at hp
 have EQ := Lh (pequal11_any (some ⟨b, o, none⟩) 9 c (x.take 9) A' 9 c' y w hp hy (fun z hz => bx z (List.mem_of_mem_take hz)) by_)
 have hc : 32 ≤ c ∧ c ≤ maxLen := ⟨hx.cap, hx.max⟩
 unfold maxLen at hc
 have hc9 : ¬ (c : Int) < 9 := by omega
 obtain ⟨R, hR⟩ : ∃ R, R = decide (x.take 9 = y) := ⟨_, rfl⟩
 rw [← hR] at EQ ⊢
 clear hR hx hy bx by_ hl hp
 go_enter Tryz.func163, Tryz.ntmps163
 go_wp2_with fail
 refine EQ.out.mono ?_
 rintro e w1 ⟨rfl, rfl⟩
 clear EQ
 go_wp2
 go_ret
 exact ⟨rfl, rfl⟩
theorem pbeg_any (A : Option Addr) (c : Nat) (x : Txt) (gen : Int) (w : World) (hx : Arg w .u8 A 32 c x) (bx : ∀ z ∈ x, isByte z) (hg : isG gen) :
  Calls Tryz.prog 129 #[.slice A 32 c, .int .u64 gen] w fun e w' => e = .returned (.bool (decide (begT gen x))) ∧ Below w.heap.size w w' := by
 have hd : decide (begT gen x) = decide (x.take 9 = hdT gen) := by rw [decide_eq_decide]; exact (beg_take hg hx.len bx).symm
 rw [hd]
 have h1 : Below w.heap.size w (w.alloc (.cells #[.int .u64 gen, .int .u64 1] 27)) := (Below.refl _ _).alloc (Nat.le_refl _) _
 have L1 := lit_row w 27 .u64 [gen, 1] #[.int .u64 gen, .int .u64 1] w.heap.size (w.heap.size + 1) rfl rfl (Nat.lt_succ_self _)
 have h2 : Below (w.alloc (.cells #[.int .u64 gen, .int .u64 1] 27)).heap.size (w.alloc (.cells #[.int .u64 gen, .int .u64 1] 27)) ((w.alloc (.cells #[.int .u64 gen, .int .u64 1] 27)).alloc (.cells #[.int .i64 8, .int .i64 1] 3)) := (Below.refl _ _).alloc (Nat.le_refl _) _
 have L2 := lit_row (w.alloc (.cells #[.int .u64 gen, .int .u64 1] 27)) 3 .i64 [8, 1] #[.int .i64 8, .int .i64 1] (w.heap.size + 1) ((w.alloc (.cells #[.int .u64 gen, .int .u64 1] 27)).alloc (.cells #[.int .i64 8, .int .i64 1] 3)).heap.size rfl (by rw [World.size_alloc]) (by simp)
 have L1 := (L1.below (h2.mono (by simp))).more (B' := ((w.alloc (.cells #[.int .u64 gen, .int .u64 1] 27)).alloc (.cells #[.int .i64 8, .int .i64 1] 3)).heap.size) (by simp)
 have hb := h1.trans (h2.mono h1.size)
 obtain ⟨w1, hw1⟩ : ∃ y, y = (w.alloc (.cells #[.int .u64 gen, .int .u64 1] 27)).alloc (.cells #[.int .i64 8, .int .i64 1] 3) := ⟨_, rfl⟩
 rw [← hw1] at L1 L2 hb
 have W1 := show ∀ z ∈ [gen, 1], isWord z by
  intro z hz
  have h0 := hg.1
  have h9 := hg.2
  simp only [List.mem_cons, List.not_mem_nil, or_false] at hz
  unfold isWord
  rcases hz with rfl | rfl <;> omega
 have WR := Lh (write_ok (some ⟨w.heap.size, 0, none⟩) (some ⟨w.heap.size + 1, 0, none⟩) 2 2 2 2 [gen, 1] [8, 1] w1 L2 rfl (by decide) L1 rfl rfl W1)
 have FT := Lh (show fitsTo [gen, 1] [8, 1] [8, 1].length = true from fits2 hg)
 have AX := Lh (hx.below hb)
 have BX := Lh bx
 have BB := Lh hb
 have HD := Lh (hdT_row gen)
 clear hd h1 L1 h2 L2 hb W1 hx bx hg
 go_enter Tryz.func129, Tryz.ntmps129
 go_wp2_with fail
 rw [← hw1]
 clear hw1
 refine WR.out.mono ?_
 intro e w2 hout
 obtain ⟨A2, c2, rfl, hown, hb⟩ := (WroteOut.yes hout FT.out).len (zs' := hdT gen) (n := 9) HD.out (hdT_length _)
 have PX := Lh (phas_any A c x A2 c2 (hdT gen) w2 (AX.out.below hb) (Arg.own hown) BX.out (hdT_byte gen))
 have BB := Lh (BB.out.trans (hb.mono BB.out.size))
 clear hout hown hb WR FT HD
 go_wp2_with fail
 refine PX.out.mono ?_
 rintro e w3 ⟨rfl, rfl⟩
 clear PX
 go_wp2
 go_ret
 exact ⟨rfl, BB.out⟩
theorem str_none {A : Int} {S : List Sec} {C : List Pnd} {m : Mt} {a k : Int} (h : optAt S C (2 + a * A + k) = none) : strB A S C m a k = false := by unfold strB; rw [h]
theorem str_some {A : Int} {S : List Sec} {C : List Pnd} {m : Mt} {a k : Int} {x : Txt} (h : optAt S C (2 + a * A + k) = some x) : strB A S C m a k = (decide (begT m.s.2.2 x) || decide (begT (nextM m) x)) := by unfold strB; rw [h]
theorem pstray_any (P T A M W Q : Int) (D : Option Addr) (nd d : Nat) (D' : Option Addr) (nd' d' : Nat) (S : List Sec) (C : List Pnd) (v a g n u : Int) (B : Option Addr) (k c : Nat) (t : List Rc) (ar : Int) (j : Int) (w : World) (hq : Dsk w D nd d D' nd' d' S C) (hs : SmallD S C) (hm : mayC P T A M W Q) (hkm : mayM P T A M W Q ⟨(v, a, g), n, u, t⟩) (hi : isS (v, a, g)) (har : arJ ar) (hj : 0 ≤ j ∧ j < A) :
  Calls Tryz.prog 83 #[ldV P T A M W Q D nd d D' nd' d' v a g n u B k c, .int .i64 ar, .int .i64 j] w fun e w' => e = .returned (.bool (strB A S C ⟨(v, a, g), n, u, t⟩ ar j)) ∧ Below w.heap.size w w' := by
 obtain ⟨x, hbel⟩ := led_box w P T A M W Q D nd d D' nd' d' v a g n u B k c
 obtain ⟨w1, hw1⟩ : ∃ y, y = w.alloc (.cells #[.int .i64 P, .int .i64 T, .int .i64 A, .int .i64 M, .int .i64 W, .int .i64 Q, .slice D nd d, .slice D' nd' d', .int .u32 v, .int .i64 a, .int .u64 g, .int .i64 n, .int .i64 u, .slice B k c] 90) := ⟨_, rfl⟩
 rw [← hw1] at x hbel
 have X := Lh x
 have BB := Lh hbel
 have DQ := Lh (hq.below hbel)
 have hE : areE P T A M W Q ar j = 0 := by
  unfold areE
  rw [if_pos hm, if_pos ⟨har.1, har.2, hj.1, by omega⟩]
 have hN : areN P T A M W Q ar j = 2 + ar * A + j := by
  unfold areN
  rw [if_pos hm, if_pos ⟨har.1, har.2, hj.1, by omega⟩]
 have AR := Lh (fun wx => parea_any P T A M W Q ar j wx)
 rw [hE, hN] at AR
 have RD := Lh (fun wx hx => dsk_does.read D nd d D' nd' d' S C (2 + ar * A + j) wx hx hs)
 unfold BytesOut at RD
 have hv0 : 0 ≤ v ∧ v < 4294967296 := hi.1
 have hu0 : 0 ≤ u ∧ u ≤ 65535 := hkm.2.2.2.1
 have NX := Lh (fun wx => pnext_any P T A M W Q D nd d D' nd' d' v a g n u B k c wx hv0 hu0)
 have hg2 : isG (65536 * v + u + 1) := ⟨by omega, by omega⟩
 obtain ⟨at0, hat⟩ : ∃ y, y = 2 + ar * A + j := ⟨_, rfl⟩
 obtain ⟨g2, hge⟩ : ∃ y, y = 65536 * v + u + 1 := ⟨_, rfl⟩
 have SN := fun h => str_none (A := A) (S := S) (C := C) (m := ⟨(v, a, g), n, u, t⟩) (a := ar) (k := j) h
 have SS := fun x h => str_some (A := A) (S := S) (C := C) (m := ⟨(v, a, g), n, u, t⟩) (a := ar) (k := j) (x := x) h
 rw [show nextM ⟨(v, a, g), n, u, t⟩ = g2 from hge.symm] at SS
 dsimp only at SS
 rw [← hat] at AR RD SN SS
 rw [← hge] at NX hg2
 obtain ⟨R, hR⟩ : ∃ y, y = strB A S C ⟨(v, a, g), n, u, t⟩ ar j := ⟨_, rfl⟩
 rw [← hR] at SN SS ⊢
 obtain ⟨E, hEE⟩ : ∃ y, y = rdE S C at0 := ⟨_, rfl⟩
 obtain ⟨tx, htx⟩ : ∃ y, y = rdB S C at0 := ⟨_, rfl⟩
 have hgood := fun h => rd_good (at_ := at0) h hq.secs.byte hq.pnds.byte
 have hopt : optAt S C at0 = if E = 0 then some tx else none := by rw [hEE, htx]; rfl
 rw [← hEE, ← htx] at RD hgood
 obtain ⟨c0, c1, c2, c3, c4, c5, c6, c7, d0, d1, d2, d3, d4, d5⟩ := x.led
 clear x hbel hq hs hm hkm har hj hE hN hv0 hu0 hat hge hR hEE htx
 by_cases h0 : E = 0
 ·rw [if_pos h0] at hopt
  subst h0
  obtain ⟨hl, hby⟩ := hgood rfl
  have HG := Lh (And.intro hl hby)
  have SR := SS tx hopt
  rw [hl] at RD
  clear SN SS hopt hl hby hgood
  by_cases h1 : begT g tx
  ·have hB := decide_eq_true h1
   rw [hB, Bool.true_or] at SR
   subst SR
   go_enter Tryz.func83, Tryz.ntmps83
   go_wp2_with fail
   rw [← hw1]
   clear hw1
   refine (AR.out _).mono ?_
   rintro e w2 ⟨rfl, hb⟩
   have X := Lh (X.out.below hb X.out.lt)
   have BB := Lh (BB.out.trans (hb.mono BB.out.size))
   have DQ := Lh (DQ.out.below hb)
   clear hb AR c0 c1 c2 c3 c4 c5 c6 c7 d0 d1 d2 d3 d4 d5
   obtain ⟨c0, c1, c2, c3, c4, c5, c6, c7, d0, d1, d2, d3, d4, d5⟩ := X.out.led
   go_wp2_with fail
   refine (RD.out _ DQ.out).mono ?_
   rintro e w3 ⟨A3, x3, rfl, hown, hb⟩
   have TX := Lh (Arg.own hown)
   have X := Lh (X.out.below hb X.out.lt)
   have BB := Lh (BB.out.trans (hb.mono BB.out.size))
   clear hown hb RD c0 c1 c2 c3 c4 c5 c6 c7 d0 d1 d2 d3 d4 d5
   obtain ⟨c0, c1, c2, c3, c4, c5, c6, c7, d0, d1, d2, d3, d4, d5⟩ := X.out.led
   go_wp2_with fail
   refine (pbeg_any A3 x3 tx g _ TX.out HG.out.2 hi.2).mono ?_
   rw [hB]
   rintro e w4 ⟨rfl, hb⟩
   have X := Lh (X.out.below hb X.out.lt)
   have BB := Lh (BB.out.trans (hb.mono BB.out.size))
   have TX := Lh (TX.out.below hb)
   clear hb hB h1 c0 c1 c2 c3 c4 c5 c6 c7 d0 d1 d2 d3 d4 d5
   obtain ⟨c0, c1, c2, c3, c4, c5, c6, c7, d0, d1, d2, d3, d4, d5⟩ := X.out.led
   go_wp2
   go_ret
   exact ⟨rfl, BB.out⟩
  ·have hB := decide_eq_false h1
   rw [hB, Bool.false_or] at SR
   subst SR
   go_enter Tryz.func83, Tryz.ntmps83
   go_wp2_with fail
   rw [← hw1]
   clear hw1
   refine (AR.out _).mono ?_
   rintro e w2 ⟨rfl, hb⟩
   have X := Lh (X.out.below hb X.out.lt)
   have BB := Lh (BB.out.trans (hb.mono BB.out.size))
   have DQ := Lh (DQ.out.below hb)
   clear hb AR c0 c1 c2 c3 c4 c5 c6 c7 d0 d1 d2 d3 d4 d5
   obtain ⟨c0, c1, c2, c3, c4, c5, c6, c7, d0, d1, d2, d3, d4, d5⟩ := X.out.led
   go_wp2_with fail
   refine (RD.out _ DQ.out).mono ?_
   rintro e w3 ⟨A3, x3, rfl, hown, hb⟩
   have TX := Lh (Arg.own hown)
   have X := Lh (X.out.below hb X.out.lt)
   have BB := Lh (BB.out.trans (hb.mono BB.out.size))
   clear hown hb RD c0 c1 c2 c3 c4 c5 c6 c7 d0 d1 d2 d3 d4 d5
   obtain ⟨c0, c1, c2, c3, c4, c5, c6, c7, d0, d1, d2, d3, d4, d5⟩ := X.out.led
   go_wp2_with fail
   refine (pbeg_any A3 x3 tx g _ TX.out HG.out.2 hi.2).mono ?_
   rw [hB]
   rintro e w4 ⟨rfl, hb⟩
   have X := Lh (X.out.below hb X.out.lt)
   have BB := Lh (BB.out.trans (hb.mono BB.out.size))
   have TX := Lh (TX.out.below hb)
   clear hb hB h1 c0 c1 c2 c3 c4 c5 c6 c7 d0 d1 d2 d3 d4 d5
   obtain ⟨c0, c1, c2, c3, c4, c5, c6, c7, d0, d1, d2, d3, d4, d5⟩ := X.out.led
   go_wp2_with fail
   refine (NX.out _).mono ?_
   rintro e w5 ⟨rfl, hb⟩
   have BB := Lh (BB.out.trans (hb.mono BB.out.size))
   have TX := Lh (TX.out.below hb)
   clear hb NX c0 c1 c2 c3 c4 c5 c6 c7 d0 d1 d2 d3 d4 d5
   go_wp2_with fail
   refine (pbeg_any A3 x3 tx g2 _ TX.out HG.out.2 hg2).mono ?_
   rintro e w6 ⟨rfl, hb⟩
   have BB := Lh (BB.out.trans (hb.mono BB.out.size))
   clear hb
   go_wp2
   go_ret
   exact ⟨rfl, BB.out⟩
 ·rw [if_neg h0] at hopt
  have SR := SN hopt
  subst SR
  have hz : (E == 0) = false := beq_eq_false_iff_ne.2 h0
  clear SN SS hopt hgood h0
  go_enter Tryz.func83, Tryz.ntmps83
  go_wp2_with fail
  rw [← hw1]
  clear hw1
  refine (AR.out _).mono ?_
  rintro e w2 ⟨rfl, hb⟩
  have X := Lh (X.out.below hb X.out.lt)
  have BB := Lh (BB.out.trans (hb.mono BB.out.size))
  have DQ := Lh (DQ.out.below hb)
  clear hb AR c0 c1 c2 c3 c4 c5 c6 c7 d0 d1 d2 d3 d4 d5
  obtain ⟨c0, c1, c2, c3, c4, c5, c6, c7, d0, d1, d2, d3, d4, d5⟩ := X.out.led
  go_wp2_with fail
  refine (RD.out _ DQ.out).mono ?_
  rintro e w3 ⟨A3, x3, rfl, hown, hb⟩
  have TX := Lh (Arg.own hown)
  have X := Lh (X.out.below hb X.out.lt)
  have BB := Lh (BB.out.trans (hb.mono BB.out.size))
  clear hown hb RD c0 c1 c2 c3 c4 c5 c6 c7 d0 d1 d2 d3 d4 d5
  obtain ⟨c0, c1, c2, c3, c4, c5, c6, c7, d0, d1, d2, d3, d4, d5⟩ := X.out.led
  go_wp2
  go_ret
  exact ⟨rfl, BB.out⟩
theorem pisord_any (P T A M W Q : Int) (D : Option Addr) (nd d : Nat) (D' : Option Addr) (nd' d' : Nat) (S : List Sec) (C : List Pnd) (v a g n u : Int) (B : Option Addr) (k c : Nat) (t : List Rc) (w : World) (hq : Dsk w D nd d D' nd' d' S C) (hs : SmallD S C) (hm : mayC P T A M W Q) (hkm : mayM P T A M W Q ⟨(v, a, g), n, u, t⟩) (hi : isS (v, a, g)) :
  Calls Tryz.prog 43 #[ldV P T A M W Q D nd d D' nd' d' v a g n u B k c] w fun e w' => e = .returned (.bool (fineB A S C ⟨(v, a, g), n, u, t⟩)) ∧ Below w.heap.size w w' := by
 obtain ⟨x, hbel⟩ := led_box w P T A M W Q D nd d D' nd' d' v a g n u B k c
 obtain ⟨w1, hw1⟩ : ∃ y, y = w.alloc (.cells #[.int .i64 P, .int .i64 T, .int .i64 A, .int .i64 M, .int .i64 W, .int .i64 Q, .slice D nd d, .slice D' nd' d', .int .u32 v, .int .i64 a, .int .u64 g, .int .i64 n, .int .i64 u, .slice B k c] 90) := ⟨_, rfl⟩
 rw [← hw1] at x hbel
 have X := Lh x
 have BB := Lh hbel
 have DQ := Lh (hq.below hbel)
 have hA0 : 0 ≤ A := by have h := hm; unfold mayC at h; omega
 have hA32 : A ≤ 32 := by have h := hm; unfold mayC at h; omega
 have hn0 : 0 ≤ n ∧ n ≤ A := hkm.2.2.1
 obtain ⟨A', rfl⟩ : ∃ y : Nat, A = (y : Int) := ⟨A.toNat, by omega⟩
 obtain ⟨n', rfl⟩ : ∃ y : Nat, n = (y : Int) := ⟨n.toNat, by omega⟩
 have hnA : n' ≤ A' := by omega
 have hA32 : A' ≤ 32 := by omega
 have ST := Lh (fun (j q : Nat) (hj : j < 2) (hk : q < A') wx hx => pstray_any P T A' M W Q D nd d D' nd' d' S C v a g n' u B k c t (j : Int) (q : Int) wx hx hs hm hkm hi ⟨by omega, by omega⟩ ⟨by omega, by omega⟩)
 have FT := Lh (fun h => fineB_true (A := (A' : Int)) (S := S) (C := C) (m := ⟨(v, a, g), (n' : Int), u, t⟩) h)
 have FF := Lh (fun (j q : Nat) (hj : j < 2) (hq : q < A') h => fineB_false (A := (A' : Int)) (S := S) (C := C) (m := ⟨(v, a, g), (n' : Int), u, t⟩) (a := j) (k := q) hj (by omega) h)
 obtain ⟨R, hR⟩ : ∃ y, y = fineB (A' : Int) S C ⟨(v, a, g), (n' : Int), u, t⟩ := ⟨_, rfl⟩
 rw [← hR] at FT FF ⊢
 have OK := Lh (fun (j q : Nat) => (show okS (A' : Int) S C ⟨(v, a, g), (n' : Int), u, t⟩ (j : Int) (q : Int) = (decide ((j : Int) = a ∧ (q : Int) < (n' : Int)) || !strB (A' : Int) S C ⟨(v, a, g), (n' : Int), u, t⟩ (j : Int) (q : Int)) from rfl))
 obtain ⟨c0, c1, c2, c3, c4, c5, c6, c7, d0, d1, d2, d3, d4, d5⟩ := x.led
 clear x hbel hq hs hm hkm hi hR hA0 hn0
 go_enter Tryz.func43, Tryz.ntmps43
 go_upto_region 1 with fail
 rw [← hw1]
 clear hw1
 go_wp2
 go_loopw [6] (fun i wr => ∃ j : Nat, j ≤ 2 ∧ i = .int .i64 j ∧ (∀ a' k' : Nat, a' < j → (k' : Int) < (A' : Int) → okS (A' : Int) S C ⟨(v, a, g), (n' : Int), u, t⟩ (a' : Int) (k' : Int) = true) ∧ Below w1.heap.size w1 wr) (fun i _ => 2 - (intOf i).toNat)
 case atStart => exact ⟨0, Nat.zero_le _, rfl, fun a' k' h => absurd h (Nat.not_lt_zero _), Below.refl _ _⟩
 case round =>
  obtain ⟨j, hj, rfl, hjo, hbr⟩ := hrel
  have JO := Lh hjo
  have BR := Lh hbr
  clear hjo hbr c0 c1 c2 c3 c4 c5 c6 c7 d0 d1 d2 d3 d4 d5
  obtain ⟨c0, c1, c2, c3, c4, c5, c6, c7, d0, d1, d2, d3, d4, d5⟩ := (X.out.below BR.out X.out.lt).led
  by_cases hj2 : j < 2
  ·have hji : (j : Int) < 2 := by omega
   by_cases hja : (j : Int) = a
   ·have hjb : ((j : Int) == a) = true := beq_iff_eq.2 hja
    have HF0 := Lh hnA
    have HJA := Lh hja
    clear hja
    go_wp2
    go_loopw [5] (fun i wr => ∃ q : Nat, n' ≤ q ∧ q ≤ A' ∧ i = .int .i64 q ∧ (∀ k' : Nat, k' < q → okS (A' : Int) S C ⟨(v, a, g), (n' : Int), u, t⟩ (j : Int) (k' : Int) = true) ∧ Below w1.heap.size w1 wr) (fun i _ => A' - (intOf i).toNat)
    case atStart => exact ⟨n', Nat.le_refl _, HF0.out, rfl, fun k' hk' => by rw [OK.out]; rw [decide_eq_true (⟨HJA.out, by omega⟩ : (j : Int) = a ∧ (k' : Int) < (n' : Int))]; rfl, BR.out⟩
    case round =>
     obtain ⟨q, hq0, hqA, rfl, hok, hbq⟩ := hrel
     have KO := Lh hok
     have BQ := Lh hbq
     clear hok hbq c0 c1 c2 c3 c4 c5 c6 c7 d0 d1 d2 d3 d4 d5
     obtain ⟨c0, c1, c2, c3, c4, c5, c6, c7, d0, d1, d2, d3, d4, d5⟩ := (X.out.below BQ.out X.out.lt).led
     by_cases hqa : q < A'
     ·have hqi : (q : Int) < (A' : Int) := by omega
      have OKQ := OK.out j q
      have FFQ := Lh (FF.out j q (by omega) hqa)
      have SQ := ST.out j q (by omega) hqa wr (DQ.out.below BQ.out)
      obtain ⟨b, hb0⟩ : ∃ y, y = strB (A' : Int) S C ⟨(v, a, g), (n' : Int), u, t⟩ (j : Int) (q : Int) := ⟨_, rfl⟩
      rw [← hb0] at OKQ SQ
      have hdd : decide ((j : Int) = a ∧ (q : Int) < (n' : Int)) = false := decide_eq_false fun h => by omega
      rw [hdd, Bool.false_or] at OKQ
      have OKQ := Lh OKQ
      clear hb0 hdd
      cases b with
      | true =>
       have SQ := Lh SQ
       go_wp2_with fail
       refine SQ.out.mono ?_
       rintro e w5 ⟨rfl, hb⟩
       have BQ := Lh (BQ.out.trans (hb.mono BQ.out.size))
       have hRf := FFQ.out OKQ.out
       clear hb SQ c0 c1 c2 c3 c4 c5 c6 c7 d0 d1 d2 d3 d4 d5
       subst hRf
       go_wp2
       go_ret
       exact ⟨rfl, BB.out.trans (BQ.out.mono BB.out.size)⟩
      | false =>
       have SQ := Lh SQ
       go_wp2_with fail
       refine SQ.out.mono ?_
       rintro e w5 ⟨rfl, hb⟩
       have BQ := Lh (BQ.out.trans (hb.mono BQ.out.size))
       clear hb SQ c0 c1 c2 c3 c4 c5 c6 c7 d0 d1 d2 d3 d4 d5
       go_wp2
       go_roundw
       case rel => exact ⟨q + 1, by omega, by omega, by go_num, fun k' hk' => by rcases Nat.lt_succ_iff_lt_or_eq.1 hk' with h | rfl; exact KO.out k' h; exact OKQ.out, BQ.out⟩
       all_goals (try case measure => simp [intOf]; omega)
     ·obtain rfl : q = A' := by omega
      go_wp2
      go_roundw
      case rel => exact ⟨j + 1, by omega, by go_num, fun a' k' ha' hk' => by rcases Nat.lt_succ_iff_lt_or_eq.1 ha' with h | rfl; exact JO.out a' k' h hk'; exact KO.out k' (by omega), BQ.out⟩
      all_goals (try case measure => simp [intOf]; omega)
   ·have hjb : ((j : Int) == a) = false := beq_eq_false_iff_ne.2 hja
    have HF0 := Lh (Nat.zero_le A')
    have HJA := Lh hja
    clear hja
    go_wp2
    go_loopw [5] (fun i wr => ∃ q : Nat, 0 ≤ q ∧ q ≤ A' ∧ i = .int .i64 q ∧ (∀ k' : Nat, k' < q → okS (A' : Int) S C ⟨(v, a, g), (n' : Int), u, t⟩ (j : Int) (k' : Int) = true) ∧ Below w1.heap.size w1 wr) (fun i _ => A' - (intOf i).toNat)
    case atStart => exact ⟨0, Nat.le_refl _, HF0.out, rfl, fun k' hk' => by rw [OK.out]; exact absurd hk' (Nat.not_lt_zero _), BR.out⟩
    case round =>
     obtain ⟨q, hq0, hqA, rfl, hok, hbq⟩ := hrel
     have KO := Lh hok
     have BQ := Lh hbq
     clear hok hbq c0 c1 c2 c3 c4 c5 c6 c7 d0 d1 d2 d3 d4 d5
     obtain ⟨c0, c1, c2, c3, c4, c5, c6, c7, d0, d1, d2, d3, d4, d5⟩ := (X.out.below BQ.out X.out.lt).led
     by_cases hqa : q < A'
     ·have hqi : (q : Int) < (A' : Int) := by omega
      have OKQ := OK.out j q
      have FFQ := Lh (FF.out j q (by omega) hqa)
      have SQ := ST.out j q (by omega) hqa wr (DQ.out.below BQ.out)
      obtain ⟨b, hb0⟩ : ∃ y, y = strB (A' : Int) S C ⟨(v, a, g), (n' : Int), u, t⟩ (j : Int) (q : Int) := ⟨_, rfl⟩
      rw [← hb0] at OKQ SQ
      have hdd : decide ((j : Int) = a ∧ (q : Int) < (n' : Int)) = false := decide_eq_false fun h => HJA.out h.1
      rw [hdd, Bool.false_or] at OKQ
      have OKQ := Lh OKQ
      clear hb0 hdd
      cases b with
      | true =>
       have SQ := Lh SQ
       go_wp2_with fail
       refine SQ.out.mono ?_
       rintro e w5 ⟨rfl, hb⟩
       have BQ := Lh (BQ.out.trans (hb.mono BQ.out.size))
       have hRf := FFQ.out OKQ.out
       clear hb SQ c0 c1 c2 c3 c4 c5 c6 c7 d0 d1 d2 d3 d4 d5
       subst hRf
       go_wp2
       go_ret
       exact ⟨rfl, BB.out.trans (BQ.out.mono BB.out.size)⟩
      | false =>
       have SQ := Lh SQ
       go_wp2_with fail
       refine SQ.out.mono ?_
       rintro e w5 ⟨rfl, hb⟩
       have BQ := Lh (BQ.out.trans (hb.mono BQ.out.size))
       clear hb SQ c0 c1 c2 c3 c4 c5 c6 c7 d0 d1 d2 d3 d4 d5
       go_wp2
       go_roundw
       case rel => exact ⟨q + 1, by omega, by omega, by go_num, fun k' hk' => by rcases Nat.lt_succ_iff_lt_or_eq.1 hk' with h | rfl; exact KO.out k' h; exact OKQ.out, BQ.out⟩
       all_goals (try case measure => simp [intOf]; omega)
     ·obtain rfl : q = A' := by omega
      go_wp2
      go_roundw
      case rel => exact ⟨j + 1, by omega, by go_num, fun a' k' ha' hk' => by rcases Nat.lt_succ_iff_lt_or_eq.1 ha' with h | rfl; exact JO.out a' k' h hk'; exact KO.out k' (by omega), BQ.out⟩
      all_goals (try case measure => simp [intOf]; omega)
  ·obtain rfl : j = 2 := by omega
   have hRt := FT.out fun a k ha hk => JO.out a k ha hk
   subst hRt
   go_wp2
   go_ret
   exact ⟨rfl, BB.out.trans (BR.out.mono BB.out.size)⟩
def orB (P T A M W Q : Int) (S : List Sec) (C : List Pnd) (m : Mt) : Bool := if boE P T A M W Q S C m = 0 then fineB A S C m else false
theorem porderly_any (P T A M W Q : Int) (D : Option Addr) (nd d : Nat) (D' : Option Addr) (nd' d' : Nat) (S : List Sec) (C : List Pnd) (v a g n u : Int) (B : Option Addr) (k c : Nat) (t : List Rc) (w : World) (hq : Dsk w D nd d D' nd' d' S C) (hs : SmallD S C) (hi : isS (v, a, g)) (ht : Recs w B k c t) (hk : k ≤ 1000) :
  Calls Tryz.prog 14 #[cfgV P T A M W Q, diskV D nd d D' nd' d', metV v a g n u B k c] w fun e w' => e = .returned (.tuple #[.bool (orB P T A M W Q S C ⟨(v, a, g), n, u, t⟩), .int .i64 (boE P T A M W Q S C ⟨(v, a, g), n, u, t⟩)]) ∧ Below w.heap.size w w' := by
 obtain ⟨x, hbel⟩ := MBox.new P T A M W Q v a g n u hq ht
 obtain ⟨w0, hw0⟩ : ∃ x : World, x = (((w.alloc (.cells #[.int .i64 P, .int .i64 T, .int .i64 A, .int .i64 M, .int .i64 W, .int .i64 Q] 36)).alloc (.cells #[.slice D nd d, .slice D' nd' d'] 25)).alloc (.cells #[.int .u32 v, .int .i64 a, .int .u64 g, .int .i64 n, .int .i64 u, .slice B k c] 32)) := ⟨_, rfl⟩
 rw [← hw0] at x hbel
 have X := Lh x
 have BB := Lh hbel
 have LG := fun wx hx hy => pledger_any P T A M W Q D nd d D' nd' d' S C v a g n u B k c t wx hx hs hy hk
 obtain ⟨⟨c0, c1, c2, c3, c4, c5, c6, c7⟩, d0, d1, d2, d3, d4, d5⟩ := x.cells
 clear x
 unfold orB
 rcases bo_or P T A M W Q S C ⟨(v, a, g), n, u, t⟩ with h0 | h0
 ·have hmm0 : mayT P T A M W Q S C ∧ mayM P T A M W Q ⟨(v, a, g), n, u, t⟩ := Classical.byContradiction fun hn => by
   unfold boE at h0
   rw [if_neg hn] at h0
   cases h0
  have LG := Lh (fun wx hx hy => (LG wx hx hy).mono fun e w' h => led_yes (by rw [h0] at h; exact h))
  have IO := Lh (fun wx hx => pisord_any P T A M W Q D nd d D' nd' d' S C v a g n u B k c t wx hx hs hmm0.1.1 hmm0.2 hi)
  rw [if_pos h0, h0]
  obtain ⟨R, hR⟩ : ∃ y, y = fineB A S C ⟨(v, a, g), n, u, t⟩ := ⟨_, rfl⟩
  rw [← hR] at IO ⊢
  clear hR h0 hmm0 hbel hq hs hi ht hk
  go_enter Tryz.func14, Tryz.ntmps14
  go_wp2_with fail
  rw [← hw0]
  clear hw0
  refine (LG.out _ X.out.two.dsk.dsk X.out.tab).mono ?_
  rintro e w1 ⟨rfl, hb⟩
  obtain ⟨y, hk1⟩ := led_box w1 P T A M W Q D nd d D' nd' d' v a g n u B k c
  obtain ⟨w2, hw2⟩ : ∃ x : World, x = w1.alloc (.cells #[.int .i64 P, .int .i64 T, .int .i64 A, .int .i64 M, .int .i64 W, .int .i64 Q, .slice D nd d, .slice D' nd' d', .int .u32 v, .int .i64 a, .int .u64 g, .int .i64 n, .int .i64 u, .slice B k c] 90) := ⟨_, rfl⟩
  rw [← hw2] at y hk1
  have BB := Lh ((BB.out.trans (hb.mono BB.out.size)).trans (hk1.mono (BB.out.trans (hb.mono BB.out.size)).size))
  have X := Lh ((X.out.below hb).below hk1)
  have Y := Lh y
  clear hb hk1 y LG c0 c1 c2 c3 c4 c5 c6 c7 d0 d1 d2 d3 d4 d5
  go_upto_region 2 with fail
  rw [← hw2]
  clear hw2
  obtain ⟨g0, g1, g2, g3, g4, g5, g6, g7, g8, g9, g10, g11, g12, g13⟩ := Y.out.led
  go_wp2_with fail
  refine (IO.out _ X.out.two.dsk.dsk).mono ?_
  rintro e w3 ⟨rfl, hb⟩
  have BB := Lh (BB.out.trans (hb.mono BB.out.size))
  clear hb IO g0 g1 g2 g3 g4 g5 g6 g7 g8 g9 g10 g11 g12 g13
  go_wp2
  go_ret2
  exact ⟨rfl, BB.out⟩
 ·have LG := Lh (fun wx hx hy => (LG wx hx hy).mono fun e w' h => led_no (by rw [h0] at h; exact h))
  rw [if_neg (by rw [h0]; decide), h0]
  clear h0 hbel hq hs hi ht hk
  go_enter Tryz.func14, Tryz.ntmps14
  go_wp2_with fail
  rw [← hw0]
  clear hw0
  refine (LG.out _ X.out.two.dsk.dsk X.out.tab).mono ?_
  rintro e w1 ⟨rfl, hb⟩
  obtain ⟨y, hk1⟩ := led_box w1 0 0 0 0 0 0 none 0 0 none 0 0 0 0 0 0 0 none 0 0
  obtain ⟨w2, hw2⟩ : ∃ x : World, x = w1.alloc (.cells #[.int .i64 0, .int .i64 0, .int .i64 0, .int .i64 0, .int .i64 0, .int .i64 0, .slice none 0 0, .slice none 0 0, .int .u32 0, .int .i64 0, .int .u64 0, .int .i64 0, .int .i64 0, .slice none 0 0] 90) := ⟨_, rfl⟩
  rw [← hw2] at y hk1
  have BB := Lh ((BB.out.trans (hb.mono BB.out.size)).trans (hk1.mono (BB.out.trans (hb.mono BB.out.size)).size))
  have X := Lh ((X.out.below hb).below hk1)
  have Y := Lh y
  clear hb hk1 y LG c0 c1 c2 c3 c4 c5 c6 c7 d0 d1 d2 d3 d4 d5
  go_upto_region 2 with fail
  rw [← hw2]
  clear hw2
  go_wp2
  go_ret2
  exact ⟨rfl, BB.out⟩
end Go.Proofs.YtifgcfepbenpjaaGreat
