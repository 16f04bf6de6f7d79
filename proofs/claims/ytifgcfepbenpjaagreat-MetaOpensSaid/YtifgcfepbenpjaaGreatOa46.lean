/- Texts of layers 1 to 12, joined. -/
import Derived.Test.YtifgcfepbenpjaaGreatOa45
import Derived.Laws.Rows
import Derived.Lib.SliceRun
set_option maxRecDepth 100000
set_option maxHeartbeats 12800000
set_option linter.unusedVariables false
namespace Go.Proofs.YtifgcfepbenpjaaGreat
open Go.RowKit
theorem GathOut.trans {a b c : World} {G : Nat} {l l' : List Ac} (h : GathOut a G l b) (k : GathOut b G l' c) : GathOut a G l' c := ⟨k.1, h.2.1.trans k.2.1, h.2.2.trans k.2.2⟩
theorem GathOut.refl {w : World} {G : Nat} {l : List Ac} (h : Gath w G l) : GathOut w G l w := ⟨h, Below.refl _ _, ColTo.of (Below.refl w.heap.size w) (Nat.le_refl _)⟩
theorem GathOut.of {w w' : World} {G : Nat} {l : List Ac} (h : Gath w G l) (hb : Below w.heap.size w w') : GathOut w G l w' := ⟨h.below hb, hb.mono (Nat.le_of_lt h.lt), ColTo.of hb (Nat.le_refl _)⟩
theorem GathOut.more {a w w' : World} {G : Nat} {l : List Ac} (h : GathOut a G l w) (hb : Below w.heap.size w w') : GathOut a G l w' := h.trans (GathOut.of h.1 hb)
theorem wrA_step {ps : List Pnd} {k : Nat} (h : k < ps.length) : wrA (ps.take (k + 1)) = wrA (ps.take k) ++ [(1, (ps.getD k (0, [])).1, (ps.getD k (0, [])).2)] := by
 rw [take_snoc h ((0, []) : Pnd)]
 unfold wrA
 rw [List.map_append]
 rfl
abbrev colF (G : Nat) : Value := .func (.func 69) #[] #[.pointer (some ⟨G, 0, none⟩)]
theorem pcol_any (G : Nat) (l : List Ac) (k x : Int) (Ai : Option Addr) (ni ci : Nat) (b : Txt) (w : World) (hc : Gath w G l) (ht : OwnTxt w (G + 1) Ai ni ci b) (hb : ∀ z ∈ b, isByte z) (hl : l.length ≤ 1000) :
  Calls Tryz.prog 69 #[actV k x Ai ni ci, .pointer (some ⟨G, 0, none⟩)] w fun e w' => e = .returned (.tuple #[]) ∧ GathOut w G (l ++ [(k, x, b)]) w' := by
 obtain ⟨A, n, c, h1, L, h2, h3, h4, h5⟩ := hc
 have y := Blk.new w 75 (actL k x Ai ni ci)
 have hbel : Below w.heap.size w (w.alloc (.cells #[.int .u8 k, .int .i64 x, .slice Ai ni ci, .int .u32 0, .int .u32 0, .int .u8 0, .int .i64 0, .bool false, .int .i64 0, .int .u32 0, .int .u32 0, .int .i64 0, .int .u8 0, .int .i64 0, .bool false, .bool false, .int .u8 0, .int .u32 0, .int .u32 0, .int .i64 0, .int .u32 0, .int .i64 0, .slice none 0 0, .slice none 0 0, .int .i64 0, .int .i64 0, .int .u8 0, .slice none 0 0, .int .i64 0] 75)) := (Below.refl _ _).alloc (Nat.le_refl _) _
 obtain ⟨w1, hw1⟩ : ∃ y, y = w.alloc (.cells #[.int .u8 k, .int .i64 x, .slice Ai ni ci, .int .u32 0, .int .u32 0, .int .u8 0, .int .i64 0, .bool false, .int .i64 0, .int .u32 0, .int .u32 0, .int .i64 0, .int .u8 0, .int .i64 0, .bool false, .bool false, .int .u8 0, .int .u32 0, .int .u32 0, .int .i64 0, .int .u32 0, .int .i64 0, .slice none 0 0, .slice none 0 0, .int .i64 0, .int .i64 0, .int .u8 0, .slice none 0 0, .int .i64 0] 75) := ⟨_, rfl⟩
 change Blk (w.alloc (.cells #[.int .u8 k, .int .i64 x, .slice Ai ni ci, .int .u32 0, .int .u32 0, .int .u8 0, .int .i64 0, .bool false, .int .i64 0, .int .u32 0, .int .u32 0, .int .i64 0, .int .u8 0, .int .i64 0, .bool false, .bool false, .int .u8 0, .int .u32 0, .int .u32 0, .int .i64 0, .int .u32 0, .int .i64 0, .slice none 0 0, .slice none 0 0, .int .i64 0, .int .i64 0, .int .u8 0, .slice none 0 0, .int .i64 0] 75)) _ _ _ at y
 rw [← hw1] at y hbel
 have hG := h1.lt
 have q1 := h1.below hbel hG
 have hL := h2.below hbel
 have BX := Lh q1
 have HL := Lh hL
 have HN := Lh (show n + 1 ≤ 100000 by omega)
 have HG := Lh (show G + 1 ≤ w1.heap.size from Nat.le_trans hG hbel.size)
 have FIN := Lh (fun A' c' w2 x2 x3 x4 => gath_more (k := k) (x := x) (w1 := w2) (A' := A') (c' := c') q1 hL h3 h4 (fun i hi => ⟨(h5 i hi).1, (h5 i hi).2.1, (h5 i hi).2.2.below hbel⟩) (ht.below hbel) hb x2 x3 x4)
 have BE := Lh hbel
 have PRE := Lh (GathOut.of (show Gath w G l from ⟨A, n, c, h1, L, h2, h3, h4, h5⟩) hbel)
 have HY := Lh y
 have g0 := q1.cell 0
 have f0 := q1.free 0
 change w1.cell? ⟨G, 0, none⟩ = some (.slice A n c) at g0
 clear y hbel h1 h2 h3 h4 h5 ht hb hl hG q1 hL
 go_enter Tryz.func69, Tryz.ntmps69
 go_upto_region 1 with fail
 rw [← hw1]
 clear hw1
 go_wp2_with (first | (refine wpList_load_row (o := ⟨some 4, _, _, _, _, _⟩) rfl 75 (.tmp 2) rfl w.heap.size rfl 75 #[.int .u8 k, .int .i64 x, .slice Ai ni ci, .int .u32 0, .int .u32 0, .int .u8 0, .int .i64 0, .bool false, .int .i64 0, .int .u32 0, .int .u32 0, .int .i64 0, .int .u8 0, .int .i64 0, .bool false, .bool false, .int .u8 0, .int .u32 0, .int .u32 0, .int .i64 0, .int .u32 0, .int .i64 0, .slice none 0 0, .slice none 0 0, .int .i64 0, .int .i64 0, .int .u8 0, .slice none 0 0, .int .i64 0] (0, 0) _ HY.out Tryz.underlying75 rfl (by kernel_rfl) ?_) | (at_builtin; refine wpList_acs_g w1 rfl (.tmp 3) (.tmp 5) rfl (G + 1) A n c L rfl HL.out (k, x, Ai, ni, ci) rfl HN.out HG.out ?_; intro A' c' w2 x2 x3 x4; have OUT := Lh (FIN.out A' c' w2 x2 x3 x4); have f1 := (BX.out.below x3 (Nat.lt_succ_self G)).free 0; have f2 := (BX.out.below x3 (Nat.lt_succ_self G)).cell 0; change w2.cell? ⟨G, 0, none⟩ = some (.slice A n c) at f2; clear x2 x3 x4))
 first | go_end0 | refine bodyPost_ret (results_none rfl _ _ _) rfl ?_
 exact ⟨rfl, PRE.out.trans OUT.out⟩
theorem pcflush_any (G : Nat) (l : List Ac) (w : World) (hc : Gath w G l) (hl : l.length ≤ 1000) :
  Calls Tryz.prog 72 #[colF G] w fun e w' => e = .returned (.tuple #[]) ∧ GathOut w G (l ++ [(2, 0, [])]) w' := by
 have PC := Lh (pcol_any G l 2 0 none 0 0 [] w hc (OwnTxt.nil _ _) (by simp) hl)
 clear hc hl
 go_enter Tryz.func72, Tryz.ntmps72
 go_wp2_with fail
 refine PC.out.mono ?_
 rintro e w1 ⟨rfl, ho⟩
 have O := Lh ho
 clear ho PC
 go_wp2
 first | go_end0 | refine bodyPost_ret (results_none rfl _ _ _) rfl ?_
 exact ⟨rfl, O.out⟩
theorem pcwrites_any (G : Nat) (l : List Ac) (A : Option Addr) (n c : Nat) (ps : List Pnd) (w : World) (hc : Gath w G l) (hp : OwnPnds w (G + 1) A n c ps) (hn : n ≤ 100) (hl : l.length ≤ 500) :
  Calls Tryz.prog 114 #[colF G, .slice A n c] w fun e w' => e = .returned (.tuple #[]) ∧ GathOut w G (l ++ wrA ps) w' := by
 have hlen : ps.length = n := hp.out_len
 have HP := Lh hp
 have C0 := Lh (GathOut.refl hc)
 have ST := Lh (fun k (hk : k < n) => wrA_step (ps := ps) (k := k) (by rw [hlen]; exact hk))
 have FIN := Lh (show wrA (ps.take n) = wrA ps by rw [← hlen, List.take_length])
 have HL := Lh (fun k (hk : k ≤ n) => (show (l ++ wrA (ps.take k)).length ≤ 1000 by simp [wrA]; omega))
 have BY := Lh (fun k => (Pnds.of_own hp).byte_at k)
 have HM := Lh (show maxLen ≥ 100 by decide)
 clear hc hp hl hlen
 go_enter Tryz.func114, Tryz.ntmps114
 go_wp2
 go_loopw [8] (fun i wr => ∃ k : Nat, k ≤ n ∧ i = .int .i64 k ∧ GathOut w G (l ++ wrA (ps.take k)) wr) (fun i _ => n - (intOf i).toNat)
 case atStart => exact ⟨0, Nat.zero_le _, rfl, by rw [show l ++ wrA (ps.take 0) = l by simp [wrA]]; exact C0.out⟩
 case round =>
  obtain ⟨k, hk, rfl, hco⟩ := hrel
  have CO := Lh hco
  clear hco
  by_cases hkn : k < n
  ·have hki : (k : Int) < (n : Int) := by omega
   have hp2 := CO.out.2.2.pnds HP.out
   obtain ⟨b, Ai, ni, ci, rfl, _, i1, i0, _, hot, _, _, _⟩ := hp2.row hkn
   have SK := Lh (ST.out k hkn)
   obtain ⟨x1, hx1⟩ : ∃ y, y = (ps.getD k (0, [])).1 := ⟨_, rfl⟩
   obtain ⟨x2, hx2⟩ : ∃ y, y = (ps.getD k (0, [])).2 := ⟨_, rfl⟩
   have hby := BY.out k
   rw [← hx1] at i0 SK
   rw [← hx2] at hot SK hby
   have y := Blk.new wr 114 [.int .i64 x1, .slice Ai ni ci]
   have hk1 : Below wr.heap.size wr (wr.alloc (.cells #[.int .i64 x1, .slice Ai ni ci] 114)) := (Below.refl _ _).alloc (Nat.le_refl _) _
   have C1 := Lh (CO.out.more hk1)
   have PC := Lh (pcol_any G (l ++ wrA (ps.take k)) 1 x1 Ai ni ci x2 _ C1.out.1 (hot.below hk1) hby (HL.out k hk))
   obtain ⟨w2, hw2⟩ : ∃ y, y = wr.alloc (.cells #[.int .i64 x1, .slice Ai ni ci] 114) := ⟨_, rfl⟩
   change Blk (wr.alloc (.cells #[.int .i64 x1, .slice Ai ni ci] 114)) _ _ _ at y
   rw [← hw2] at y C1 PC
   have y0 := y.cell 0
   have y1 := y.cell 1
   change w2.cell? ⟨wr.heap.size, 0, none⟩ = some (.int .i64 x1) at y0
   change w2.cell? ⟨wr.heap.size, 1, none⟩ = some (.slice Ai ni ci) at y1
   clear hp2 hot hx1 hx2 hby y hk1
   go_upto_region 3 with fail
   rw [← hw2]
   clear hw2 i0 i1
   go_wp2_with fail
   refine PC.out.mono ?_
   rintro e w3 ⟨rfl, ho⟩
   have C2 := Lh (C1.out.trans ho)
   clear ho PC y0 y1
   go_wp2
   go_roundw
   case rel => exact ⟨k + 1, by omega, by go_num, by rw [SK.out, ← List.append_assoc]; exact C2.out⟩
   all_goals (try case measure => simp [intOf]; omega)
  ·obtain rfl : k = n := by omega
   go_wp2
   first | go_end0 | refine bodyPost_ret (results_none rfl _ _ _) rfl ?_
   exact ⟨rfl, by rw [← FIN.out]; exact CO.out⟩
theorem led_sup (w : World) (P T A M W Q : Int) (D : Option Addr) (nd d : Nat) (D' : Option Addr) (nd' d' : Nat) (v a g n u : Int) (B : Option Addr) (k c : Nat) (v2 a2 g2 : Int) :
  Blk ((w.alloc (.cells #[.int .i64 P, .int .i64 T, .int .i64 A, .int .i64 M, .int .i64 W, .int .i64 Q, .slice D nd d, .slice D' nd' d', .int .u32 v, .int .i64 a, .int .u64 g, .int .i64 n, .int .i64 u, .slice B k c] 90)).alloc (.cells #[.int .u32 v2, .int .i64 a2, .int .u64 g2] 29)) w.heap.size 90 (ldL P T A M W Q D nd d D' nd' d' v a g n u B k c) ∧ Blk ((w.alloc (.cells #[.int .i64 P, .int .i64 T, .int .i64 A, .int .i64 M, .int .i64 W, .int .i64 Q, .slice D nd d, .slice D' nd' d', .int .u32 v, .int .i64 a, .int .u64 g, .int .i64 n, .int .i64 u, .slice B k c] 90)).alloc (.cells #[.int .u32 v2, .int .i64 a2, .int .u64 g2] 29)) (w.heap.size + 1) 29 [.int .u32 v2, .int .i64 a2, .int .u64 g2] ∧ Below w.heap.size w ((w.alloc (.cells #[.int .i64 P, .int .i64 T, .int .i64 A, .int .i64 M, .int .i64 W, .int .i64 Q, .slice D nd d, .slice D' nd' d', .int .u32 v, .int .i64 a, .int .u64 g, .int .i64 n, .int .i64 u, .slice B k c] 90)).alloc (.cells #[.int .u32 v2, .int .i64 a2, .int .u64 g2] 29)) := by
 obtain ⟨x, hb⟩ := led_box w P T A M W Q D nd d D' nd' d' v a g n u B k c
 obtain ⟨y, hk⟩ := sup_box (w.alloc (.cells #[.int .i64 P, .int .i64 T, .int .i64 A, .int .i64 M, .int .i64 W, .int .i64 Q, .slice D nd d, .slice D' nd' d', .int .u32 v, .int .i64 a, .int .u64 g, .int .i64 n, .int .i64 u, .slice B k c] 90)) v2 a2 g2
 rw [World.size_alloc] at y
 exact ⟨x.below hk x.lt, y, hb.trans (hk.mono hb.size)⟩
theorem spl_one {P T A M W Q : Int} {S : List Sec} {C : List Pnd} {s : Sup} : (spL P T A M W Q S C s).length ≤ 1 := by
 unfold spL
 split
 ·rename_i h
  rw [(spL_good h).1]
  exact Nat.le_refl 1
 ·exact Nat.zero_le _
theorem pwsuper_any (G : Nat) (l : List Ac) (P T A M W Q : Int) (D : Option Addr) (nd d : Nat) (D' : Option Addr) (nd' d' : Nat) (S : List Sec) (C : List Pnd) (v a g n u : Int) (B : Option Addr) (k c : Nat) (v2 a2 g2 : Int) (w0 w : World) (hc : Gath w G l) (hq : Dsk w0 D nd d D' nd' d' S C) (hs : SmallD S C) (hb0 : Below w0.heap.size w0 w) (hi : isS (v2, a2, g2)) (hl : l.length ≤ 500) :
  Calls Tryz.prog 77 #[ldV P T A M W Q D nd d D' nd' d' v a g n u B k c, supV v2 a2 g2, colF G] w fun e w' => e = .returned (.int .i64 (spE P T A M W Q S C (v2, a2, g2))) ∧ GathOut w G (if spE P T A M W Q S C (v2, a2, g2) = 0 then l ++ actsA (spL P T A M W Q S C (v2, a2, g2)) else l) w' := by
 obtain ⟨x, y, hbel⟩ := led_sup w P T A M W Q D nd d D' nd' d' v a g n u B k c v2 a2 g2
 obtain ⟨w1, hw1⟩ : ∃ y, y = ((w.alloc (.cells #[.int .i64 P, .int .i64 T, .int .i64 A, .int .i64 M, .int .i64 W, .int .i64 Q, .slice D nd d, .slice D' nd' d', .int .u32 v, .int .i64 a, .int .u64 g, .int .i64 n, .int .i64 u, .slice B k c] 90)).alloc (.cells #[.int .u32 v2, .int .i64 a2, .int .u64 g2] 29)) := ⟨_, rfl⟩
 rw [← hw1] at x y hbel
 have DQ := Lh (hq.below (hb0.trans (hbel.mono hb0.size)))
 have CO := Lh (GathOut.of hc hbel)
 have PL := Lh (fun wx hx => splan_any P T A M W Q D nd d D' nd' d' S C v2 a2 g2 wx hx hs hi)
 unfold PlanOut at PL
 have HP1 := Lh (spl_one (P := P) (T := T) (A := A) (M := M) (W := W) (Q := Q) (S := S) (C := C) (s := (v2, a2, g2)))
 obtain ⟨ps, hps⟩ : ∃ y, y = spL P T A M W Q S C (v2, a2, g2) := ⟨_, rfl⟩
 obtain ⟨E, hE⟩ : ∃ y, y = spE P T A M W Q S C (v2, a2, g2) := ⟨_, rfl⟩
 rw [← hps] at PL HP1
 rw [← hE] at PL
 rw [← hps, ← hE]
 obtain ⟨m, hm⟩ : ∃ y, y = ps.length := ⟨_, rfl⟩
 rw [← hm] at PL HP1
 have HM := Lh hm
 have HGL := Lh (show G < w1.heap.size from CO.out.1.lt)
 have PW := Lh (fun A0 c0 wx (hx : Gath wx G l) (hp : OwnPnds wx (G + 1) A0 m c0 ps) => pcwrites_any G l A0 m c0 ps wx hx hp (by have := HP1.out; omega) hl)
 have PF := Lh (fun wx (hx : Gath wx G (l ++ wrA ps)) => pcflush_any G (l ++ wrA ps) wx hx (by have := HP1.out; have := HM.out; simp [wrA]; omega))
 have HA := Lh (show l ++ wrA ps ++ [(2, 0, [])] = l ++ actsA ps by rw [List.append_assoc]; rfl)
 obtain ⟨c0, c1, c2, c3, c4, c5, c6, c7, d0, d1, d2, d3, d4, d5⟩ := x.led
 obtain ⟨y0, y1, y2⟩ := y.tri
 clear x y hbel hq hs hb0 hi hl hps hE hm hc
 by_cases h0 : E = 0
 ·subst h0
  rw [if_pos rfl]
  go_enter Tryz.func77, Tryz.ntmps77
  go_wp2_with fail
  rw [← hw1]
  clear hw1
  refine (PL.out _ DQ.out).mono ?_
  rintro e w2 ⟨A2, x2, rfl, hp, hb⟩
  have HP := Lh (hp.lower (base' := G + 1) HGL.out)
  have CO := Lh (CO.out.more hb)
  clear hp hb PL y0 y1 y2 c0 c1 c2 c3 c4 c5 c6 c7 d0 d1 d2 d3 d4 d5
  go_wp2_with fail
  refine (PW.out _ _ _ CO.out.1 HP.out).mono ?_
  rintro e w3 ⟨rfl, ho⟩
  have CO := Lh (CO.out.trans ho)
  clear ho PW HP
  go_wp2_with fail
  refine (PF.out _ CO.out.1).mono ?_
  rintro e w4 ⟨rfl, ho⟩
  have CO := Lh (CO.out.trans ho)
  clear ho PF
  go_wp2
  go_ret
  exact ⟨rfl, by rw [← HA.out]; exact CO.out⟩
 ·rw [if_neg h0]
  have hz : (E != 0) = true := by simpa using h0
  clear h0
  go_enter Tryz.func77, Tryz.ntmps77
  go_wp2_with fail
  rw [← hw1]
  clear hw1
  refine (PL.out _ DQ.out).mono ?_
  rintro e w2 ⟨A2, x2, rfl, hp, hb⟩
  have HP := Lh (hp.lower (base' := G + 1) HGL.out)
  have CO := Lh (CO.out.more hb)
  clear hp hb PL y0 y1 y2 c0 c1 c2 c3 c4 c5 c6 c7 d0 d1 d2 d3 d4 d5
  go_wp2
  go_ret
  exact ⟨rfl, CO.out⟩
theorem GathOut.set {a w : World} {G H : Nat} {l : List Ac} {t : TypeId} {cs : List Value} (h : GathOut a G l w) (hb : Blk w H t cs) (h1 : t ≠ 75) (h2 : t ≠ 38) (h3 : t ≠ 5) (hG : G < H) (ha : a.heap.size ≤ H) (i : Nat) (u : Value) : GathOut a G l (w.setCell ⟨H, i, none⟩ u) := by
 obtain ⟨⟨A, n, c, k1, k2⟩, hB, hT⟩ := h
 refine ⟨⟨A, n, c, k1.away (by omega) i u, k2.keep fun g e cs' he _ hc => Below.heap_setCell w _ u g fun e2 => ?_⟩, hB.setCell (p := ⟨H, i, none⟩) (Nat.le_of_lt hG) u, ?_⟩
 ·have e3 : g = H := e2
  subst e3
  unfold Blk at hb
  rw [hb] at hc
  simp at hc
  rcases he with rfl | rfl
  ·exact h1 hc.2
  ·exact h3 hc.2
 ·exact ⟨Nat.le_trans hT.1 (by simp [World.setCell]), fun g hg q1 q2 => (Below.heap_setCell w _ u g (fun e => by have e' : g = H := e; omega)).trans (hT.2 g hg q1 q2)⟩
theorem GathOut.sixM {wa w : World} {G H : Nat} {l : List Ac} {v' a' g' n' u' : Int} {B' : Option Addr} {k' c' : Nat} (h : GathOut wa G l w) (hb : Blk w H 32 (metL v' a' g' n' u' B' k' c')) (hG : G < H) (ha : wa.heap.size ≤ H) (v a g n u : Int) (B : Option Addr) (k c : Nat) : GathOut wa G l ((((((w.setCell ⟨H, 0, none⟩ (.int .u32 v)).setCell ⟨H, 1, none⟩ (.int .i64 a)).setCell ⟨H, 2, none⟩ (.int .u64 g)).setCell ⟨H, 3, none⟩ (.int .i64 n)).setCell ⟨H, 4, none⟩ (.int .i64 u)).setCell ⟨H, 5, none⟩ (.slice B k c)) := by
 have q1 := h.set hb (by decide) (by decide) (by decide) hG ha 0 (.int .u32 v)
 have b1 := hb.set 0 (.int .u32 v)
 have q2 := q1.set b1 (by decide) (by decide) (by decide) hG ha 1 (.int .i64 a)
 have b2 := b1.set 1 (.int .i64 a)
 have q3 := q2.set b2 (by decide) (by decide) (by decide) hG ha 2 (.int .u64 g)
 have b3 := b2.set 2 (.int .u64 g)
 have q4 := q3.set b3 (by decide) (by decide) (by decide) hG ha 3 (.int .i64 n)
 have b4 := b3.set 3 (.int .i64 n)
 have q5 := q4.set b4 (by decide) (by decide) (by decide) hG ha 4 (.int .i64 u)
 have b5 := b4.set 4 (.int .i64 u)
 exact q5.set b5 (by decide) (by decide) (by decide) hG ha 5 (.slice B k c)
theorem OwnRecs.boxM {w : World} {base H : Nat} {A : Option Addr} {n c : Nat} {L : List Rc} {cs : List Value} (h : OwnRecs w base A n c L) (hb : Blk w H 32 cs) (i : Nat) (u : Value) : OwnRecs (w.setCell ⟨H, i, none⟩ u) base A n c L :=
 h.keep fun g cs' _ hc => Below.heap_setCell w _ u g fun e2 => by
  have e3 : g = H := e2
  subst e3
  unfold Blk at hb
  rw [hb] at hc
  simp at hc
theorem OwnRecs.boxSix {w : World} {base H : Nat} {A : Option Addr} {m d : Nat} {L : List Rc} {v' a' g' n' u' : Int} {B' : Option Addr} {k' c' : Nat} (h : OwnRecs w base A m d L) (hb : Blk w H 32 (metL v' a' g' n' u' B' k' c')) (v a g n u : Int) (B : Option Addr) (k c : Nat) : OwnRecs ((((((w.setCell ⟨H, 0, none⟩ (.int .u32 v)).setCell ⟨H, 1, none⟩ (.int .i64 a)).setCell ⟨H, 2, none⟩ (.int .u64 g)).setCell ⟨H, 3, none⟩ (.int .i64 n)).setCell ⟨H, 4, none⟩ (.int .i64 u)).setCell ⟨H, 5, none⟩ (.slice B k c)) base A m d L :=
 (((((h.boxM hb 0 _).boxM (hb.set 0 _) 1 _).boxM ((hb.set 0 _).set 1 _) 2 _).boxM (((hb.set 0 _).set 1 _).set 2 _) 3 _).boxM ((((hb.set 0 _).set 1 _).set 2 _).set 3 _) 4 _).boxM (((((hb.set 0 _).set 1 _).set 2 _).set 3 _).set 4 _) 5 _
def StepOut (w : World) (G base : Nat) (m : Mt) (l' : List Ac) (E : Int) (e : Ending) (w' : World) : Prop := ∃ A' c' l2, e = .returned (.tuple #[metV m.s.1 m.s.2.1 m.s.2.2 m.n m.u A' m.t.length c', .int .i64 E]) ∧ OwnRecs w' base A' m.t.length c' m.t ∧ GathOut w G l2 w' ∧ (E = 0 → l2 = l')
theorem pclone12_any (B : Option Addr) (k c : Nat) (t : List Rc) (w : World) (ht : Recs w B k c t) (hk : k ≤ 1000) :
  Calls Tryz.prog 78 #[.slice B k c] w fun e w' => ∃ A' c', e = .returned (.slice A' k c') ∧ OwnRecs w' w.heap.size A' k c' t ∧ Below w.heap.size w w' := by
 have hnil := Lib.run_eql_slice_nil (P := Tryz.prog) w 30 64 B k c 0 0 Tryz.underlying30
 cases B with
 | none =>
  have hk0 : k = 0 := by
   rcases Nat.eq_zero_or_pos k with h0 | h0
   ·exact h0
   ·obtain ⟨_, _, e, _⟩ := ht.row h0
    cases e
  subst hk0
  have ht0 : t = [] := List.eq_nil_of_length_eq_zero ht.len
  subst ht0
  clear ht
  go_enter Tryz.func78, Tryz.ntmps78
  go_wp2
  go_ret
  exact ⟨none, 0, rfl, OwnRecs.nil _ _, Below.refl _ _⟩
 | some ad =>
  have HT := Lh ht
  have HK := Lh (show k ≤ 100000 by omega)
  clear ht
  go_enter Tryz.func78, Tryz.ntmps78
  go_wp2_with (at_builtin; refine wpList_dup_recs w rfl (.tmp 5) (.tmp 6) rfl rfl (some ad) k c t rfl HT.out HK.out ?_; intro A' c' w2 hO hb2; have O := Lh hO; have B2 := Lh hb2; clear hO hb2)
  go_ret
  exact ⟨A', c', rfl, O.out, B2.out⟩
theorem pboot_any (G : Nat) (l : List Ac) (P T A M W Q : Int) (D : Option Addr) (nd d : Nat) (D' : Option Addr) (nd' d' : Nat) (S : List Sec) (C : List Pnd) (v a g n u : Int) (B : Option Addr) (k c : Nat) (t : List Rc) (w0 w : World) (hc : Gath w G l) (hq : Dsk w0 D nd d D' nd' d' S C) (hs : SmallD S C) (hwG : w0.heap.size ≤ G) (hb0 : Below w0.heap.size w0 w) (hi : isS (v, a, g)) (ht : Recs w0 B k c t) (hk : k ≤ 1000) (hl : l.length ≤ 100) :
  Calls Tryz.prog 39 #[ldV P T A M W Q D nd d D' nd' d' v a g n u B k c, colF G] w (StepOut w G w.heap.size (if (if v = 4294967295 then 9 else spE P T A M W Q S C (v + 1, a, g)) = 0 then ⟨(v + 1, a, g), n, 0, t⟩ else zM) (l ++ actsA (spL P T A M W Q S C (v + 1, a, g))) (if v = 4294967295 then 9 else spE P T A M W Q S C (v + 1, a, g))) := by
 have hlen := ht.len
 obtain ⟨x, hb1⟩ := led_box w P T A M W Q D nd d D' nd' d' v a g n u B k c
 obtain ⟨z, h2⟩ := met_box (w.alloc (.cells #[.int .i64 P, .int .i64 T, .int .i64 A, .int .i64 M, .int .i64 W, .int .i64 Q, .slice D nd d, .slice D' nd' d', .int .u32 v, .int .i64 a, .int .u64 g, .int .i64 n, .int .i64 u, .slice B k c] 90)) 0 0 0 0 0 none 0 0
 rw [World.size_alloc] at z
 replace x := x.below h2 x.lt
 replace hb1 := hb1.trans (h2.mono hb1.size)
 obtain ⟨w1, hw1⟩ : ∃ y, y = ((w.alloc (.cells #[.int .i64 P, .int .i64 T, .int .i64 A, .int .i64 M, .int .i64 W, .int .i64 Q, .slice D nd d, .slice D' nd' d', .int .u32 v, .int .i64 a, .int .u64 g, .int .i64 n, .int .i64 u, .slice B k c] 90)).alloc (.cells #[.int .u32 0, .int .i64 0, .int .u64 0, .int .i64 0, .int .i64 0, .slice none 0 0] 32)) := ⟨_, rfl⟩
 rw [← hw1] at x z hb1
 have hs1 : w1.heap.size = w.heap.size + 2 := by rw [hw1, World.size_alloc, World.size_alloc]
 have X := Lh x
 have Z := Lh z
 have CO := Lh (GathOut.of hc hb1)
 have B0 := Lh (hb0.trans (hb1.mono hb0.size))
 have HGL := Lh (show G < w.heap.size from hc.lt)
 obtain ⟨c0, c1, c2, c3, c4, c5, c6, c7, d0, d1, d2, d3, d4, d5⟩ := x.led
 obtain ⟨y, hk1⟩ := met_box w1 v a g n u B k c
 obtain ⟨y0, y1, y2, y3, y4, y5⟩ := y.met
 have fy := y.free
 clear x z hc hb0 y hk1 h2 hb1
 unfold StepOut
 by_cases hv : v = 4294967295
 ·rw [if_pos hv, if_neg (by decide)]
  subst hv
  dsimp only [zM, List.length_nil]
  have HS1 := Lh hs1
  clear hi hq hs ht hk hlen hl hs1
  go_enter Tryz.func39, Tryz.ntmps39
  go_upto_region 1 with fail
  rw [← hw1]
  clear hw1
  go_upto_region 2 with fail
  obtain ⟨w2, hw2⟩ : ∃ x : World, x = w1.alloc (.cells #[.int .u32 4294967295, .int .i64 a, .int .u64 g, .int .i64 n, .int .i64 u, .slice B k c] 32) := ⟨_, rfl⟩
  have hk1 : Below w1.heap.size w1 w2 := by rw [hw2]; exact (Below.refl _ _).alloc (Nat.le_refl _) _
  rw [← hw2] at y0 y1 y2 y3 y4 y5 fy ⊢
  have CO := Lh (CO.out.more hk1)
  have Z := Lh (Z.out.below hk1 Z.out.lt)
  clear hw2 hk1 c0 c1 c2 c3 c4 c5 c6 c7 d0 d1 d2 d3 d4 d5
  have fz := Z.out.free
  obtain ⟨e0, e1, e2, e3, e4, e5⟩ := Z.out.met
  go_wp2
  obtain ⟨z0, z1, z2, z3, z4, z5⟩ := (Z.out.sixM 0 0 0 0 0 none 0 0).met
  refine bodyPost_ret (v := .tuple #[metV 0 0 0 0 0 none 0 0, .int .i64 9]) ?_ rfl ⟨none, 0, l, rfl, OwnRecs.nil _ _, CO.out.sixM Z.out (by have := HGL.out; omega) (by have := HS1.out; omega) 0 0 0 0 0 none 0 0, fun h => by cases h⟩
  clear y0 y1 y2 y3 y4 y5 fy fz e0 e1 e2 e3 e4 e5
  simp [results, Tryz.f39, go_sem, z0, z1, z2, z3, z4, z5]
 ·rw [if_neg hv]
  have hv1 : v + 1 < 4294967296 := by have := hi.1.2; dsimp only at this; omega
  have hv0 : 0 ≤ v := hi.1.1
  have WS := Lh (fun wx hx hy => pwsuper_any G l P T A M W Q D nd d D' nd' d' S C v a g n u B k c (v + 1) a g w0 wx hx hq hs hy ⟨⟨by dsimp only; omega, hv1⟩, hi.2⟩ (by omega))
  have CL := Lh (fun wx hx => pclone12_any B k c t wx hx hk)
  have HT := Lh ht
  obtain ⟨E, hE⟩ : ∃ y, y = spE P T A M W Q S C (v + 1, a, g) := ⟨_, rfl⟩
  obtain ⟨ps, hps⟩ : ∃ y, y = spL P T A M W Q S C (v + 1, a, g) := ⟨_, rfl⟩
  rw [← hE, ← hps] at WS ⊢
  obtain ⟨v', rfl⟩ : ∃ x : Nat, v = (x : Int) := ⟨v.toNat, by omega⟩
  have hv' : v' + 1 < 4294967296 := by omega
  have HS1 := Lh hs1
  clear hi hq hs ht hk hv0 hv1 hE hps hl hs1
  by_cases h0 : E = 0
  ·subst h0
   rw [if_pos rfl] at WS ⊢
   dsimp only
   rw [hlen]
   clear hlen
   go_enter Tryz.func39, Tryz.ntmps39
   go_upto_region 1 with fail
   rw [← hw1]
   clear hw1
   go_upto_region 6 with fail
   obtain ⟨w2, hw2⟩ : ∃ x : World, x = w1.alloc (.cells #[.int .u32 ((v' : Int) + 1), .int .i64 a, .int .u64 g, .int .i64 n, .int .i64 0, .slice B k c] 32) := ⟨_, rfl⟩
   obtain ⟨y, hk1⟩ := met_box w1 ((v' : Int) + 1) a g n 0 B k c
   rw [← hw2] at y hk1 ⊢
   have Y := Lh y
   have X := Lh (X.out.below hk1 X.out.lt)
   have Z := Lh (Z.out.below hk1 Z.out.lt)
   have CO := Lh (CO.out.more hk1)
   have B0 := Lh (B0.out.trans (hk1.mono B0.out.size))
   clear y hk1 hw2 y0 y1 y2 y3 y4 y5 fy c0 c1 c2 c3 c4 c5 c6 c7 d0 d1 d2 d3 d4 d5
   obtain ⟨c0, c1, c2, c3, c4, c5, c6, c7, d0, d1, d2, d3, d4, d5⟩ := X.out.led
   obtain ⟨y0, y1, y2, y3, y4, y5⟩ := Y.out.met
   go_wp2_with fail
   refine (WS.out _ CO.out.1 B0.out).mono ?_
   rintro e w3 ⟨rfl, ho⟩
   have X := Lh (ho.2.2.blk X.out (by decide) (by decide))
   have Y := Lh (ho.2.2.blk Y.out (by decide) (by decide))
   have Z := Lh (ho.2.2.blk Z.out (by decide) (by decide))
   have CO := Lh (CO.out.trans ho)
   have B0 := Lh (B0.out.trans (ho.2.1.mono hwG))
   clear ho WS y0 y1 y2 y3 y4 y5 c0 c1 c2 c3 c4 c5 c6 c7 d0 d1 d2 d3 d4 d5
   obtain ⟨y0, y1, y2, y3, y4, y5⟩ := Y.out.met
   go_wp2_with fail
   refine (CL.out _ (HT.out.below B0.out)).mono ?_
   rintro e w4 ⟨A4, c4, rfl, hown, hb⟩
   have YL := Lh (show w1.heap.size < w3.heap.size from Y.out.lt)
   have Y := Lh (Y.out.below hb Y.out.lt)
   have Z := Lh (Z.out.below hb Z.out.lt)
   have CO := Lh (CO.out.more hb)
   have OR := Lh hown
   clear hown hb CL y0 y1 y2 y3 y4 y5
   obtain ⟨y0, y1, y2, y3, y4, y5⟩ := Y.out.met
   have fy := Y.out.free
   go_upto_region 10 with fail
   obtain ⟨w5, hw5⟩ : ∃ x : World, x = w4.setCell ⟨w1.heap.size, 5, none⟩ (.slice A4 k c4) := ⟨_, rfl⟩
   have hHG := HGL.out
   have hHS := HS1.out
   have Z2 := Z.out.away (g' := w1.heap.size) (by omega) 5 (.slice A4 k c4)
   have Y2 := Y.out.set 5 (.slice A4 k c4)
   have CO := Lh (CO.out.set Y.out (by decide) (by decide) (by decide) (by omega) (by omega) 5 (.slice A4 k c4))
   have OR := Lh (OR.out.boxM Y.out 5 (.slice A4 k c4))
   rw [← hw5] at Z2 Y2 CO OR ⊢
   replace Y2 : Blk w5 w1.heap.size 32 (metL ((v' : Int) + 1) a g n 0 A4 k c4) := Y2
   clear Y y0 y1 y2 y3 y4 y5 fy hw5 hHS
   have Z := Lh Z2
   obtain ⟨y0, y1, y2, y3, y4, y5⟩ := Y2.met
   have fz := Z.out.free
   obtain ⟨e0, e1, e2, e3, e4, e5⟩ := Z.out.met
   clear Y2 Z2
   go_wp2
   obtain ⟨z0, z1, z2, z3, z4, z5⟩ := (Z.out.sixM ((v' : Int) + 1) a g n 0 A4 k c4).met
   refine bodyPost_ret (v := .tuple #[metV ((v' : Int) + 1) a g n 0 A4 k c4, .int .i64 0]) ?_ rfl ⟨A4, c4, _, rfl, (OR.out.boxSix Z.out _ _ _ _ _ _ _ _).lower (by have := YL.out; have := HS1.out; omega), CO.out.sixM Z.out (by omega) (by omega) _ _ _ _ _ _ _ _, fun _ => rfl⟩
   clear y0 y1 y2 y3 y4 y5 fz e0 e1 e2 e3 e4 e5
   simp [results, Tryz.f39, go_sem, z0, z1, z2, z3, z4, z5]
  ·rw [if_neg h0] at WS ⊢
   have hz : (E != 0) = true := by simpa using h0
   dsimp only [zM, List.length_nil]
   go_enter Tryz.func39, Tryz.ntmps39
   go_upto_region 1 with fail
   rw [← hw1]
   clear hw1
   go_upto_region 6 with fail
   obtain ⟨w2, hw2⟩ : ∃ x : World, x = w1.alloc (.cells #[.int .u32 ((v' : Int) + 1), .int .i64 a, .int .u64 g, .int .i64 n, .int .i64 0, .slice B k c] 32) := ⟨_, rfl⟩
   obtain ⟨y, hk1⟩ := met_box w1 ((v' : Int) + 1) a g n 0 B k c
   rw [← hw2] at y hk1 ⊢
   have Y := Lh y
   have X := Lh (X.out.below hk1 X.out.lt)
   have Z := Lh (Z.out.below hk1 Z.out.lt)
   have CO := Lh (CO.out.more hk1)
   have B0 := Lh (B0.out.trans (hk1.mono B0.out.size))
   clear y hk1 hw2 y0 y1 y2 y3 y4 y5 fy c0 c1 c2 c3 c4 c5 c6 c7 d0 d1 d2 d3 d4 d5
   obtain ⟨c0, c1, c2, c3, c4, c5, c6, c7, d0, d1, d2, d3, d4, d5⟩ := X.out.led
   obtain ⟨y0, y1, y2, y3, y4, y5⟩ := Y.out.met
   go_wp2_with fail
   refine (WS.out _ CO.out.1 B0.out).mono ?_
   rintro e w3 ⟨rfl, ho⟩
   have X := Lh (ho.2.2.blk X.out (by decide) (by decide))
   have Y := Lh (ho.2.2.blk Y.out (by decide) (by decide))
   have Z := Lh (ho.2.2.blk Z.out (by decide) (by decide))
   have CO := Lh (CO.out.trans ho)
   have HE := Lh h0
   clear ho WS h0 y0 y1 y2 y3 y4 y5 c0 c1 c2 c3 c4 c5 c6 c7 d0 d1 d2 d3 d4 d5
   have fz := Z.out.free
   obtain ⟨e0, e1, e2, e3, e4, e5⟩ := Z.out.met
   go_wp2
   have hHG := HGL.out
   obtain ⟨z0, z1, z2, z3, z4, z5⟩ := (Z.out.sixM 0 0 0 0 0 none 0 0).met
   refine bodyPost_ret (v := .tuple #[metV 0 0 0 0 0 none 0 0, .int .i64 E]) ?_ rfl ⟨none, 0, _, rfl, OwnRecs.nil _ _, CO.out.sixM Z.out (by omega) (by omega) _ _ _ _ _ _ _ _, fun h => absurd h HE.out⟩
   clear fz e0 e1 e2 e3 e4 e5
   simp [results, Tryz.f39, go_sem, z0, z1, z2, z3, z4, z5]
end Go.Proofs.YtifgcfepbenpjaaGreat
