/- Layer 13, PageCrash: the walk. -/
import Derived.Test.YtiibmlbenamgcaaPgA
import Derived.Test.YtiibmlbenamgcaaPgCr
import Derived.Test.YtiibmlbenamgcaaBitsP
namespace Go.Proofs.Ytiibmlbenamgcaa
open Go.RowKit
set_option linter.unusedVariables false
set_option maxRecDepth 100000

set_option maxHeartbeats 25600000 in
theorem pcrash_great (P T A M W Q : Int) (D : Option Addr) (n c : Nat) (D' : Option Addr) (n' c' : Nat) (S : List Sec) (C : List Pnd) (p kk b : Int) (a5 : Option Addr) (len5 cap5 : Nat) (F : List Int) (q : Int) (w : World) (hq : Dsk w D n c D' n' c' S C) (hr : Arg w .u8 a5 len5 cap5 F) (hg : greatD S C 300 = true) :
    Calls Try.prog 6 #[cfgV P T A M W Q, diskV D n c D' n' c', .int .i64 p, .int .i64 kk, .int .u8 b, .slice a5 len5 cap5, .int .i64 q] w fun e w' => e = .returned (.bool true) ∧ Below w.heap.size w w' := by
  obtain ⟨x, hbel⟩ := TBox.new P T A M W Q hq
  obtain ⟨w0, hw0⟩ : ∃ x : World, x = (w.alloc (.cells #[.int .i64 P, .int .i64 T, .int .i64 A, .int .i64 M, .int .i64 W, .int .i64 Q] 27)).alloc (.cells #[.slice D n c, .slice D' n' c'] 37) := ⟨_, rfl⟩
  rw [← hw0] at x hbel
  have X := Lib.hid x
  have B := Lib.hid hbel
  have RB := Lib.hid (hr.below hbel)
  obtain ⟨c0, c1, c2, c3, c4, c5, d0, d1⟩ := x.cells
  have GG := Lib.hid (fun wx hx => great_any D n c D' n' c' S C 300 wx hx)
  rw [hg] at GG
  clear hg x hbel hq hr
  go_enter Try.func6, Try.ntmps6
  go_wp2_with fail
  rw [← hw0]
  clear hw0
  refine (alive_page _).mono ?_
  rintro e v1 ⟨rfl, hb⟩
  have X := Lib.hid (X.out.below hb)
  have B := Lib.hid (B.out.trans (hb.mono B.out.size))
  have RB := Lib.hid (RB.out.below hb)
  clear hb c0 c1 c2 c3 c4 c5 d0 d1
  obtain ⟨c0, c1, c2, c3, c4, c5, d0, d1⟩ := X.out.cells
  go_wp2_with fail
  refine (GG.out _ X.out.dsk.dsk).mono ?_
  rintro e v2 ⟨rfl, hb⟩
  have X := Lib.hid (X.out.below hb)
  have B := Lib.hid (B.out.trans (hb.mono B.out.size))
  have RB := Lib.hid (RB.out.below hb)
  clear hb GG c0 c1 c2 c3 c4 c5 d0 d1
  obtain ⟨c0, c1, c2, c3, c4, c5, d0, d1⟩ := X.out.cells
  go_wp2
  go_ret
  exact ⟨rfl, B.out⟩

set_option maxHeartbeats 25600000 in
theorem pcrash_cache (P T A M W Q : Int) (D : Option Addr) (n c : Nat) (D' : Option Addr) (n' c' : Nat) (S : List Sec) (C : List Pnd) (p kk b : Int) (a5 : Option Addr) (len5 cap5 : Nat) (F : List Int) (q : Int) (w : World) (hq : Dsk w D n c D' n' c' S C) (hr : Arg w .u8 a5 len5 cap5 F) (hg : greatD S C 300 = false) (hn : 0 < n') :
    Calls Try.prog 6 #[cfgV P T A M W Q, diskV D n c D' n' c', .int .i64 p, .int .i64 kk, .int .u8 b, .slice a5 len5 cap5, .int .i64 q] w fun e w' => e = .returned (.bool true) ∧ Below w.heap.size w w' := by
  obtain ⟨x, hbel⟩ := TBox.new P T A M W Q hq
  obtain ⟨w0, hw0⟩ : ∃ x : World, x = (w.alloc (.cells #[.int .i64 P, .int .i64 T, .int .i64 A, .int .i64 M, .int .i64 W, .int .i64 Q] 27)).alloc (.cells #[.slice D n c, .slice D' n' c'] 37) := ⟨_, rfl⟩
  rw [← hw0] at x hbel
  have X := Lib.hid x
  have B := Lib.hid hbel
  have RB := Lib.hid (hr.below hbel)
  obtain ⟨c0, c1, c2, c3, c4, c5, d0, d1⟩ := x.cells
  have GG := Lib.hid (fun wx hx => great_any D n c D' n' c' S C 300 wx hx)
  rw [hg] at GG
  have h1 : (0 : Int) < (n' : Int) := by omega
  clear hg x hbel hq hr hn
  go_enter Try.func6, Try.ntmps6
  go_wp2_with fail
  rw [← hw0]
  clear hw0
  refine (alive_page _).mono ?_
  rintro e v1 ⟨rfl, hb⟩
  have X := Lib.hid (X.out.below hb)
  have B := Lib.hid (B.out.trans (hb.mono B.out.size))
  have RB := Lib.hid (RB.out.below hb)
  clear hb c0 c1 c2 c3 c4 c5 d0 d1
  obtain ⟨c0, c1, c2, c3, c4, c5, d0, d1⟩ := X.out.cells
  go_wp2_with fail
  refine (GG.out _ X.out.dsk.dsk).mono ?_
  rintro e v2 ⟨rfl, hb⟩
  have X := Lib.hid (X.out.below hb)
  have B := Lib.hid (B.out.trans (hb.mono B.out.size))
  have RB := Lib.hid (RB.out.below hb)
  clear hb GG c0 c1 c2 c3 c4 c5 d0 d1
  obtain ⟨c0, c1, c2, c3, c4, c5, d0, d1⟩ := X.out.cells
  go_wp2
  go_ret
  exact ⟨rfl, B.out⟩

set_option maxHeartbeats 25600000 in
theorem pcrash_fates (P T A M W Q : Int) (D : Option Addr) (n c : Nat) (D' : Option Addr) (n' c' : Nat) (S : List Sec) (C : List Pnd) (p kk b : Int) (a5 : Option Addr) (len5 cap5 : Nat) (F : List Int) (q : Int) (w : World) (hq : Dsk w D n c D' n' c' S C) (hr : Arg w .u8 a5 len5 cap5 F) (hg : greatD S C 300 = false) (hn : n' = 0) (hl : 200 < len5) :
    Calls Try.prog 6 #[cfgV P T A M W Q, diskV D n c D' n' c', .int .i64 p, .int .i64 kk, .int .u8 b, .slice a5 len5 cap5, .int .i64 q] w fun e w' => e = .returned (.bool true) ∧ Below w.heap.size w w' := by
  obtain ⟨x, hbel⟩ := TBox.new P T A M W Q hq
  obtain ⟨w0, hw0⟩ : ∃ x : World, x = (w.alloc (.cells #[.int .i64 P, .int .i64 T, .int .i64 A, .int .i64 M, .int .i64 W, .int .i64 Q] 27)).alloc (.cells #[.slice D n c, .slice D' n' c'] 37) := ⟨_, rfl⟩
  rw [← hw0] at x hbel
  have X := Lib.hid x
  have B := Lib.hid hbel
  have RB := Lib.hid (hr.below hbel)
  obtain ⟨c0, c1, c2, c3, c4, c5, d0, d1⟩ := x.cells
  have GG := Lib.hid (fun wx hx => great_any D n c D' n' c' S C 300 wx hx)
  rw [hg] at GG
  have h1 : (200 : Int) < (len5 : Int) := by omega
  subst hn
  clear hg x hbel hq hr hl
  go_enter Try.func6, Try.ntmps6
  go_wp2_with fail
  rw [← hw0]
  clear hw0
  refine (alive_page _).mono ?_
  rintro e v1 ⟨rfl, hb⟩
  have X := Lib.hid (X.out.below hb)
  have B := Lib.hid (B.out.trans (hb.mono B.out.size))
  have RB := Lib.hid (RB.out.below hb)
  clear hb c0 c1 c2 c3 c4 c5 d0 d1
  obtain ⟨c0, c1, c2, c3, c4, c5, d0, d1⟩ := X.out.cells
  go_wp2_with fail
  refine (GG.out _ X.out.dsk.dsk).mono ?_
  rintro e v2 ⟨rfl, hb⟩
  have X := Lib.hid (X.out.below hb)
  have B := Lib.hid (B.out.trans (hb.mono B.out.size))
  have RB := Lib.hid (RB.out.below hb)
  clear hb GG c0 c1 c2 c3 c4 c5 d0 d1
  obtain ⟨c0, c1, c2, c3, c4, c5, d0, d1⟩ := X.out.cells
  go_wp2
  go_ret
  exact ⟨rfl, B.out⟩

set_option maxHeartbeats 25600000 in
theorem pcrash_E (P T A M W Q : Int) (D : Option Addr) (n c : Nat) (D' : Option Addr) (c' : Nat) (S : List Sec) (p kk b : Int) (a5 : Option Addr) (len5 cap5 : Nat) (F : List Int) (q : Int) (w : World) (hq : Dsk w D n c D' 0 c' S []) (hr : Arg w .u8 a5 len5 cap5 F) (hb : isByte b) (hg : greatD S [] 300 = false) (hl : len5 ≤ 200) (hE : mkE P T A M W Q S [] p ≠ 0) :
    Calls Try.prog 6 #[cfgV P T A M W Q, diskV D n c D' 0 c', .int .i64 p, .int .i64 kk, .int .u8 b, .slice a5 len5 cap5, .int .i64 q] w fun e w' => e = .returned (.bool true) ∧ Below w.heap.size w w' := by
  obtain ⟨x, hbel⟩ := TBox.new P T A M W Q hq
  obtain ⟨w0, hw0⟩ : ∃ x : World, x = (w.alloc (.cells #[.int .i64 P, .int .i64 T, .int .i64 A, .int .i64 M, .int .i64 W, .int .i64 Q] 27)).alloc (.cells #[.slice D n c, .slice D' 0 c'] 37) := ⟨_, rfl⟩
  rw [← hw0] at x hbel
  have X := Lib.hid x
  have B := Lib.hid hbel
  have RB := Lib.hid (hr.below hbel)
  obtain ⟨c0, c1, c2, c3, c4, c5, d0, d1⟩ := x.cells
  have GG := Lib.hid (fun wx hx => great_any D n c D' 0 c' S [] 300 wx hx)
  rw [hg] at GG
  have SZ := small_ofD (by decide) (by decide) hg
  have hl2 : ¬ (200 : Int) < (len5 : Int) := by omega
  have R0 := Lib.hid (fun wx hx => pgread_any P T A M W Q p D n c D' 0 c' S [] wx hx SZ)
  have PL := Lib.hid (fun wx : World => pgplan_any P T A M W Q p kk b wx hb)
  unfold RowOut at R0
  unfold PgnOut at PL
  obtain ⟨hty, htl⟩ := pxT_small P T A M W Q p kk hb
  obtain ⟨x1, hx1⟩ : ∃ x, x = pxN P T A M W Q p kk b := ⟨_, rfl⟩
  obtain ⟨t, ht⟩ : ∃ t, t = pxT P T A M W Q p kk b := ⟨_, rfl⟩
  rw [← ht] at hty htl
  rw [← hx1, ← ht] at PL
  have WR := Lib.hid (fun Ab cb wx (hx : Dsk wx D n c D' 0 c' S []) (hr : Arg wx .u8 Ab t.length cb t) => dsk_does.write D n c D' 0 c' S [] x1 Ab t.length cb t wx hx SZ hr hty htl)
  unfold DiskOut at WR
  obtain ⟨mt, hmt⟩ : ∃ m, m = t.length := ⟨_, rfl⟩
  obtain ⟨I, hI⟩ : ∃ I, I = wrS S [] x1 t := ⟨_, rfl⟩
  obtain ⟨K, hK⟩ : ∃ K, K = wrC S [] x1 t := ⟨_, rfl⟩
  obtain ⟨e3, he3⟩ : ∃ K, K = wrE S [] x1 t := ⟨_, rfl⟩
  rw [← hI, ← hK, ← he3, ← hmt] at WR
  rw [← hmt] at PL
  obtain ⟨m1, hm1⟩ : ∃ m, m = I.length := ⟨_, rfl⟩
  obtain ⟨m2, hm2⟩ : ∃ m, m = K.length := ⟨_, rfl⟩
  rw [← hm1, ← hm2] at WR
  obtain ⟨e2, he2⟩ : ∃ e, e = pxE P T A M W Q p kk b := ⟨_, rfl⟩
  rw [← he2] at PL
  rw [show mkB P T A M W Q S [] p = [] from if_neg hE, List.length_nil] at R0
  obtain ⟨E, hE0⟩ : ∃ e, e = mkE P T A M W Q S [] p := ⟨_, rfl⟩
  rw [← hE0] at R0 hE
  have h1 : (E != 0) = true := bne_iff_ne.2 hE
  have h2 : (E == 0) = false := beq_eq_false_iff_ne.2 hE
  clear hg x hbel hq hr hb hl SZ hty htl hx1 ht hmt hI hK he3 hm1 hm2 he2 hE hE0
  go_enter Try.func6, Try.ntmps6
  go_wp2_with fail
  rw [← hw0]
  clear hw0
  refine (alive_page _).mono ?_
  rintro e v1 ⟨rfl, hb⟩
  have X := Lib.hid (X.out.below hb)
  have B := Lib.hid (B.out.trans (hb.mono B.out.size))
  have RB := Lib.hid (RB.out.below hb)
  clear hb c0 c1 c2 c3 c4 c5 d0 d1
  obtain ⟨c0, c1, c2, c3, c4, c5, d0, d1⟩ := X.out.cells
  go_wp2_with fail
  refine (GG.out _ X.out.dsk.dsk).mono ?_
  rintro e v2 ⟨rfl, hb⟩
  have X := Lib.hid (X.out.below hb)
  have B := Lib.hid (B.out.trans (hb.mono B.out.size))
  have RB := Lib.hid (RB.out.below hb)
  clear hb GG c0 c1 c2 c3 c4 c5 d0 d1
  obtain ⟨c0, c1, c2, c3, c4, c5, d0, d1⟩ := X.out.cells
  go_wp2_with fail
  refine (R0.out _ X.out.dsk.dsk).mono ?_
  rintro e v3 ⟨A16, r16, rfl, hown, hb⟩
  have X := Lib.hid (X.out.below hb)
  have B := Lib.hid (B.out.trans (hb.mono B.out.size))
  have RB := Lib.hid (RB.out.below hb)
  clear hb hown R0 c0 c1 c2 c3 c4 c5 d0 d1
  obtain ⟨c0, c1, c2, c3, c4, c5, d0, d1⟩ := X.out.cells
  go_wp2_with fail
  refine (PL.out _).mono ?_
  rintro e v4 ⟨A18, r18, rfl, hown, hb⟩
  have hY := Blk.new v4 30 [.int .i64 x1, .slice A18 mt r18]
  have hbk : Below v4.heap.size v4 (v4.alloc (.cells #[.int .i64 x1, .slice A18 mt r18] 30)) := (Below.refl _ _).alloc (Nat.le_refl _) _
  have hb := hb.trans (hbk.mono hb.size)
  have X := Lib.hid (X.out.below hb)
  have B := Lib.hid (B.out.trans (hb.mono B.out.size))
  have RB := Lib.hid (RB.out.below hb)
  have V18 := Lib.hid ((Arg.own hown).below hbk)
  clear hb hbk hown PL c0 c1 c2 c3 c4 c5 d0 d1
  go_upto_region 6 with fail
  obtain ⟨G4, hG⟩ : ∃ x, x = v4.heap.size := ⟨_, rfl⟩
  rw [← hG] at hY ⊢
  obtain ⟨v5, hW⟩ : ∃ x : World, x = v4.alloc (.cells #[.int .i64 x1, .slice A18 mt r18] 30) := ⟨_, rfl⟩
  rw [← hW] at hY X B RB V18 ⊢
  clear hW hG
  have Y18 := Lib.hid hY
  clear hY
  obtain ⟨c0, c1, c2, c3, c4, c5, d0, d1⟩ := X.out.cells
  have y0 := Y18.out.cell 0
  have y1 := Y18.out.cell 1
  simp only [List.getElem?_cons_zero, List.getElem?_cons_succ] at y0 y1
  go_wp2_with fail
  refine (WR.out _ _ _ X.out.dsk.dsk V18.out).mono ?_
  rintro e v6 ⟨A20, r20, A20', r20', rfl, hown, hb⟩
  have hY := DBox.new (Dsk.of_own hown)
  have hbk : Below v6.heap.size v6 (v6.alloc (.cells #[.slice A20 m1 r20, .slice A20' m2 r20'] 37)) := (Below.refl _ _).alloc (Nat.le_refl _) _
  have hb := hb.trans (hbk.mono hb.size)
  have X := Lib.hid (X.out.below hb)
  have B := Lib.hid (B.out.trans (hb.mono B.out.size))
  have RB := Lib.hid (RB.out.below hb)
  have V18 := Lib.hid (V18.out.below hb)
  have Y18 := Lib.hid (Y18.out.below hb Y18.out.lt)
  clear hb hbk hown WR y0 y1 c0 c1 c2 c3 c4 c5 d0 d1
  go_upto_region 7 with fail
  obtain ⟨G6, hG⟩ : ∃ x, x = v6.heap.size := ⟨_, rfl⟩
  rw [← hG] at hY ⊢
  obtain ⟨v7, hW⟩ : ∃ x : World, x = v6.alloc (.cells #[.slice A20 m1 r20, .slice A20' m2 r20'] 37) := ⟨_, rfl⟩
  rw [← hW] at hY X B RB V18 Y18 ⊢
  clear hW hG
  have D20 := Lib.hid hY
  clear hY
  clear X D20 RB V18 Y18
  go_wp2
  go_ret
  exact ⟨rfl, B.out⟩

set_option maxHeartbeats 25600000 in
theorem pcrash_F (P T A M W Q : Int) (D : Option Addr) (n c : Nat) (D' : Option Addr) (c' : Nat) (S : List Sec) (p kk b : Int) (a5 : Option Addr) (len5 cap5 : Nat) (F : List Int) (q : Int) (w : World) (hq : Dsk w D n c D' 0 c' S []) (hr : Arg w .u8 a5 len5 cap5 F) (hb : isByte b) (hg : greatD S [] 300 = false) (hl : len5 ≤ 200) (hE : mkE P T A M W Q S [] p = 0) (hF : pxE P T A M W Q p kk b ≠ 0) :
    Calls Try.prog 6 #[cfgV P T A M W Q, diskV D n c D' 0 c', .int .i64 p, .int .i64 kk, .int .u8 b, .slice a5 len5 cap5, .int .i64 q] w fun e w' => e = .returned (.bool true) ∧ Below w.heap.size w w' := by
  obtain ⟨x, hbel⟩ := TBox.new P T A M W Q hq
  obtain ⟨w0, hw0⟩ : ∃ x : World, x = (w.alloc (.cells #[.int .i64 P, .int .i64 T, .int .i64 A, .int .i64 M, .int .i64 W, .int .i64 Q] 27)).alloc (.cells #[.slice D n c, .slice D' 0 c'] 37) := ⟨_, rfl⟩
  rw [← hw0] at x hbel
  have X := Lib.hid x
  have B := Lib.hid hbel
  have RB := Lib.hid (hr.below hbel)
  obtain ⟨c0, c1, c2, c3, c4, c5, d0, d1⟩ := x.cells
  have GG := Lib.hid (fun wx hx => great_any D n c D' 0 c' S [] 300 wx hx)
  rw [hg] at GG
  have SZ := small_ofD (by decide) (by decide) hg
  have hl2 : ¬ (200 : Int) < (len5 : Int) := by omega
  have R0 := Lib.hid (fun wx hx => pgread_any P T A M W Q p D n c D' 0 c' S [] wx hx SZ)
  have PL := Lib.hid (fun wx : World => pgplan_any P T A M W Q p kk b wx hb)
  unfold RowOut at R0
  unfold PgnOut at PL
  obtain ⟨hty, htl⟩ := pxT_small P T A M W Q p kk hb
  obtain ⟨x1, hx1⟩ : ∃ x, x = pxN P T A M W Q p kk b := ⟨_, rfl⟩
  obtain ⟨t, ht⟩ : ∃ t, t = pxT P T A M W Q p kk b := ⟨_, rfl⟩
  rw [← ht] at hty htl
  rw [← hx1, ← ht] at PL
  have WR := Lib.hid (fun Ab cb wx (hx : Dsk wx D n c D' 0 c' S []) (hr : Arg wx .u8 Ab t.length cb t) => dsk_does.write D n c D' 0 c' S [] x1 Ab t.length cb t wx hx SZ hr hty htl)
  unfold DiskOut at WR
  obtain ⟨mt, hmt⟩ : ∃ m, m = t.length := ⟨_, rfl⟩
  obtain ⟨I, hI⟩ : ∃ I, I = wrS S [] x1 t := ⟨_, rfl⟩
  obtain ⟨K, hK⟩ : ∃ K, K = wrC S [] x1 t := ⟨_, rfl⟩
  obtain ⟨e3, he3⟩ : ∃ K, K = wrE S [] x1 t := ⟨_, rfl⟩
  rw [← hI, ← hK, ← he3, ← hmt] at WR
  rw [← hmt] at PL
  obtain ⟨m1, hm1⟩ : ∃ m, m = I.length := ⟨_, rfl⟩
  obtain ⟨m2, hm2⟩ : ∃ m, m = K.length := ⟨_, rfl⟩
  rw [← hm1, ← hm2] at WR
  rw [hE] at R0
  obtain ⟨L0, hL0⟩ : ∃ L, L = mkB P T A M W Q S [] p := ⟨_, rfl⟩
  rw [← hL0] at R0
  obtain ⟨m, hm⟩ : ∃ m, m = L0.length := ⟨_, rfl⟩
  rw [← hm] at R0
  obtain ⟨e2, he2⟩ : ∃ e, e = pxE P T A M W Q p kk b := ⟨_, rfl⟩
  rw [← he2] at PL hF
  have h1 : (e2 != 0) = true := bne_iff_ne.2 hF
  have h2 : (e2 == 0) = false := beq_eq_false_iff_ne.2 hF
  clear hg x hbel hq hr hb hl SZ hty htl hx1 ht hmt hI hK he3 hm1 hm2 he2 hE hF hL0 hm
  go_enter Try.func6, Try.ntmps6
  go_wp2_with fail
  rw [← hw0]
  clear hw0
  refine (alive_page _).mono ?_
  rintro e v1 ⟨rfl, hb⟩
  have X := Lib.hid (X.out.below hb)
  have B := Lib.hid (B.out.trans (hb.mono B.out.size))
  have RB := Lib.hid (RB.out.below hb)
  clear hb c0 c1 c2 c3 c4 c5 d0 d1
  obtain ⟨c0, c1, c2, c3, c4, c5, d0, d1⟩ := X.out.cells
  go_wp2_with fail
  refine (GG.out _ X.out.dsk.dsk).mono ?_
  rintro e v2 ⟨rfl, hb⟩
  have X := Lib.hid (X.out.below hb)
  have B := Lib.hid (B.out.trans (hb.mono B.out.size))
  have RB := Lib.hid (RB.out.below hb)
  clear hb GG c0 c1 c2 c3 c4 c5 d0 d1
  obtain ⟨c0, c1, c2, c3, c4, c5, d0, d1⟩ := X.out.cells
  go_wp2_with fail
  refine (R0.out _ X.out.dsk.dsk).mono ?_
  rintro e v3 ⟨A16, r16, rfl, hown, hb⟩
  have X := Lib.hid (X.out.below hb)
  have B := Lib.hid (B.out.trans (hb.mono B.out.size))
  have RB := Lib.hid (RB.out.below hb)
  clear hb hown R0 c0 c1 c2 c3 c4 c5 d0 d1
  obtain ⟨c0, c1, c2, c3, c4, c5, d0, d1⟩ := X.out.cells
  go_wp2_with fail
  refine (PL.out _).mono ?_
  rintro e v4 ⟨A18, r18, rfl, hown, hb⟩
  have hY := Blk.new v4 30 [.int .i64 x1, .slice A18 mt r18]
  have hbk : Below v4.heap.size v4 (v4.alloc (.cells #[.int .i64 x1, .slice A18 mt r18] 30)) := (Below.refl _ _).alloc (Nat.le_refl _) _
  have hb := hb.trans (hbk.mono hb.size)
  have X := Lib.hid (X.out.below hb)
  have B := Lib.hid (B.out.trans (hb.mono B.out.size))
  have RB := Lib.hid (RB.out.below hb)
  have V18 := Lib.hid ((Arg.own hown).below hbk)
  clear hb hbk hown PL c0 c1 c2 c3 c4 c5 d0 d1
  go_upto_region 6 with fail
  obtain ⟨G4, hG⟩ : ∃ x, x = v4.heap.size := ⟨_, rfl⟩
  rw [← hG] at hY ⊢
  obtain ⟨v5, hW⟩ : ∃ x : World, x = v4.alloc (.cells #[.int .i64 x1, .slice A18 mt r18] 30) := ⟨_, rfl⟩
  rw [← hW] at hY X B RB V18 ⊢
  clear hW hG
  have Y18 := Lib.hid hY
  clear hY
  obtain ⟨c0, c1, c2, c3, c4, c5, d0, d1⟩ := X.out.cells
  have y0 := Y18.out.cell 0
  have y1 := Y18.out.cell 1
  simp only [List.getElem?_cons_zero, List.getElem?_cons_succ] at y0 y1
  go_wp2_with fail
  refine (WR.out _ _ _ X.out.dsk.dsk V18.out).mono ?_
  rintro e v6 ⟨A20, r20, A20', r20', rfl, hown, hb⟩
  have hY := DBox.new (Dsk.of_own hown)
  have hbk : Below v6.heap.size v6 (v6.alloc (.cells #[.slice A20 m1 r20, .slice A20' m2 r20'] 37)) := (Below.refl _ _).alloc (Nat.le_refl _) _
  have hb := hb.trans (hbk.mono hb.size)
  have X := Lib.hid (X.out.below hb)
  have B := Lib.hid (B.out.trans (hb.mono B.out.size))
  have RB := Lib.hid (RB.out.below hb)
  have V18 := Lib.hid (V18.out.below hb)
  have Y18 := Lib.hid (Y18.out.below hb Y18.out.lt)
  clear hb hbk hown WR y0 y1 c0 c1 c2 c3 c4 c5 d0 d1
  go_upto_region 7 with fail
  obtain ⟨G6, hG⟩ : ∃ x, x = v6.heap.size := ⟨_, rfl⟩
  rw [← hG] at hY ⊢
  obtain ⟨v7, hW⟩ : ∃ x : World, x = v6.alloc (.cells #[.slice A20 m1 r20, .slice A20' m2 r20'] 37) := ⟨_, rfl⟩
  rw [← hW] at hY X B RB V18 Y18 ⊢
  clear hW hG
  have D20 := Lib.hid hY
  clear hY
  clear X D20 RB V18 Y18
  go_wp2
  go_ret
  exact ⟨rfl, B.out⟩

set_option maxHeartbeats 25600000 in
theorem pcrash_main (P T A M W Q : Int) (D : Option Addr) (n c : Nat) (D' : Option Addr) (c' : Nat) (S : List Sec) (p kk b : Int) (a5 : Option Addr) (len5 cap5 : Nat) (F : List Int) (q : Int) (w : World) (hq : Dsk w D n c D' 0 c' S []) (hr : Arg w .u8 a5 len5 cap5 F) (hb : isByte b) (hg : greatD S [] 300 = false) (hl : len5 ≤ 200) (hFB : ∀ z ∈ F, isByte z) (hE : mkE P T A M W Q S [] p = 0) (hF : pxE P T A M W Q p kk b = 0) :
    Calls Try.prog 6 #[cfgV P T A M W Q, diskV D n c D' 0 c', .int .i64 p, .int .i64 kk, .int .u8 b, .slice a5 len5 cap5, .int .i64 q] w fun e w' => e = .returned (.bool true) ∧ Below w.heap.size w w' := by
  obtain ⟨x, hbel⟩ := TBox.new P T A M W Q hq
  obtain ⟨w0, hw0⟩ : ∃ x : World, x = (w.alloc (.cells #[.int .i64 P, .int .i64 T, .int .i64 A, .int .i64 M, .int .i64 W, .int .i64 Q] 27)).alloc (.cells #[.slice D n c, .slice D' 0 c'] 37) := ⟨_, rfl⟩
  rw [← hw0] at x hbel
  have X := Lib.hid x
  have B := Lib.hid hbel
  have RB := Lib.hid (hr.below hbel)
  obtain ⟨c0, c1, c2, c3, c4, c5, d0, d1⟩ := x.cells
  have GG := Lib.hid (fun wx hx => great_any D n c D' 0 c' S [] 300 wx hx)
  rw [hg] at GG
  have SZ := small_ofD (by decide) (by decide) hg
  have hl2 : ¬ (200 : Int) < (len5 : Int) := by omega
  have R0 := Lib.hid (fun wx hx => pgread_any P T A M W Q p D n c D' 0 c' S [] wx hx SZ)
  have PL := Lib.hid (fun wx : World => pgplan_any P T A M W Q p kk b wx hb)
  obtain ⟨⟨hmay, hp0, hp1, hk0, hk1⟩, _, _, _⟩ := px_at hF
  obtain ⟨n0, rfl⟩ : ∃ k : Nat, kk = k := ⟨kk.toNat, by omega⟩
  obtain ⟨hty, htl⟩ := pxT_small P T A M W Q p (n0 : Int) hb
  obtain ⟨x1, hx1⟩ : ∃ x, x = pxN P T A M W Q p (n0 : Int) b := ⟨_, rfl⟩
  obtain ⟨t, ht⟩ : ∃ t, t = pxT P T A M W Q p (n0 : Int) b := ⟨_, rfl⟩
  rw [← ht] at hty htl
  rw [← hx1, ← ht] at PL
  obtain ⟨⟨w1, w2, w3⟩, hD, ⟨htl32, hxr0, hxr1⟩, ⟨m3, m4⟩, ⟨l3, l4⟩, hfacts, hother⟩ := pc_all hE hF F hx1 ht
  have hck : chkD S [(x1, t)] = 0 := if_pos hD
  have hsm : SmallD S [(x1, t)] := ⟨SZ.secs, by simp, SZ.long, fun c hc => by rw [List.mem_singleton] at hc; subst hc; exact htl⟩
  have hs3 := cr_small hsm F
  have hs4 : SmallD (flS S [(x1, t)]) [] := cr_small hsm _
  have hFl : F.length ≤ 200 := by rw [hr.len]; exact hl
  have hsl := hq.secs.len
  have WR := Lib.hid (fun Ab cb wx (hx : Dsk wx D n c D' 0 c' S []) (hr : Arg wx .u8 Ab 32 cb t) => (dsk_does.write D n c D' 0 c' S [] x1 Ab 32 cb t wx hx SZ hr hty htl).mono fun e w' ho => DiskOut.as ho (S' := S) (C' := [(x1, t)]) (E' := 0) (n := n) (n' := 1) w2 w3 w1 hsl rfl)
  have CR := Lib.hid (fun A0 k0 A0' k0' wx (hx : Dsk wx A0 n k0 A0' 1 k0' S [(x1, t)]) (hr : Arg wx .u8 a5 len5 cap5 F) => (dsk_does.crash A0 n k0 A0' 1 k0' S [(x1, t)] a5 len5 cap5 F wx hx hsm hr hFB hFl).mono fun e w' ho => DiskOut.as ho (S' := crS S [(x1, t)] F) (C' := []) (E' := 0) (n := n) (n' := 0) rfl rfl hck (l3.trans hsl) rfl)
  have FL := Lib.hid (fun A0 k0 A0' k0' wx (hx : Dsk wx A0 n k0 A0' 1 k0' S [(x1, t)]) => (dsk_does.flush A0 n k0 A0' 1 k0' S [(x1, t)] wx hx hsm).mono fun e w' ho => DiskOut.as ho (S' := flS S [(x1, t)]) (C' := []) (E' := 0) (n := n) (n' := 0) rfl rfl hck (l4.trans hsl) rfl)
  obtain ⟨S3, hS3⟩ : ∃ y, y = crS S [(x1, t)] F := ⟨_, rfl⟩
  obtain ⟨S4, hS4⟩ : ∃ y, y = flS S [(x1, t)] := ⟨_, rfl⟩
  rw [← hS3] at CR hs3 m3 hfacts hother
  rw [← hS4] at FL hs4 m4 hfacts
  have R3 := Lib.hid (fun A0 k0 A0' k0' wx (hx : Dsk wx A0 n k0 A0' 0 k0' S3 []) => pgread_any P T A M W Q p A0 n k0 A0' 0 k0' S3 [] wx hx hs3)
  have R4 := Lib.hid (fun A0 k0 A0' k0' wx (hx : Dsk wx A0 n k0 A0' 0 k0' S4 []) => pgread_any P T A M W Q p A0 n k0 A0' 0 k0' S4 [] wx hx hs4)
  have Q0 := Lib.hid (fun wx (hx : Dsk wx D n c D' 0 c' S []) => pgread_any P T A M W Q q D n c D' 0 c' S [] wx hx SZ)
  have Q3 := Lib.hid (fun A0 k0 A0' k0' wx (hx : Dsk wx A0 n k0 A0' 0 k0' S3 []) => pgread_any P T A M W Q q A0 n k0 A0' 0 k0' S3 [] wx hx hs3)
  have AL := Lib.hid (fun wx : World => All_any T wx)
  obtain ⟨hma, hla⟩ := many_zero hmay
  unfold RowOut at R0 R3 R4 Q0 Q3 AL
  unfold PgnOut at PL
  have e3 : mkE P T A M W Q S3 [] p = 0 := by rw [(hother p).1, hE]
  have e4 : mkE P T A M W Q S4 [] p = 0 := by
    unfold mkE
    rw [if_pos m4, if_pos ⟨hp0, hp1⟩]
  rw [hE, show mkB P T A M W Q S [] p = mkL T A S [] p (pagC T).toNat from if_pos hE] at R0
  rw [e3, show mkB P T A M W Q S3 [] p = mkL T A S3 [] p (pagC T).toNat from if_pos e3] at R3
  rw [e4, show mkB P T A M W Q S4 [] p = mkL T A S4 [] p (pagC T).toNat from if_pos e4] at R4
  rw [(hother q).1] at Q3
  have hoth := (hother q).2
  rw [hma] at AL
  rw [hF] at PL
  have CH := Lib.hid (fun A0 k0 wx (hr0 : Arg wx .u8 A0 (pagC T).toNat k0 (mkL T A S3 [] p (pagC T).toNat)) (hS : ∀ s ∈ S3, ∀ z ∈ s.2, isByte z) => b_check_any T A0 (pagC T).toNat k0 (mkL T A S3 [] p (pagC T).toNat) wx hr0 (mk_set (p := p) (C := []) hmay hS (by simp)).byte)
  have CK := Lib.hid (fun (hS : ∀ s ∈ S3, ∀ z ∈ s.2, isByte z) => mk_chk (p := p) (C := []) hmay hS (by simp))
  obtain ⟨m, hm⟩ : ∃ m, m = (pagC T).toNat := ⟨_, rfl⟩
  rw [← hm] at R0 R3 R4 CH CK hfacts hla
  have l0 : (mkL T A S [] p m).length = m := mk_length
  have l1 : (mkL T A S3 [] p m).length = m := mk_length
  have l2 : (mkL T A S4 [] p m).length = m := mk_length
  obtain ⟨L0, hL0⟩ : ∃ L, L = mkL T A S [] p m := ⟨_, rfl⟩
  obtain ⟨L1, hL1⟩ : ∃ L, L = mkL T A S3 [] p m := ⟨_, rfl⟩
  obtain ⟨L2, hL2⟩ : ∃ L, L = mkL T A S4 [] p m := ⟨_, rfl⟩
  obtain ⟨L3, hL3⟩ : ∃ L, L = allB T := ⟨_, rfl⟩
  rw [← hL0] at R0 hfacts l0
  rw [← hL1] at R3 CH CK hfacts l1
  rw [← hL2] at R4 hfacts l2
  rw [← hL3] at AL hfacts hla
  rw [l0] at R0
  rw [l1] at R3
  rw [l2] at R4
  rw [hla] at AL
  rw [htl32] at PL
  have HL0 := Lib.hid l0
  have HL1 := Lib.hid l1
  have HL2 := Lib.hid l2
  have HL3 := Lib.hid hla
  have HF := Lib.hid hfacts
  obtain ⟨Eq, hEq⟩ : ∃ e, e = mkE P T A M W Q S [] q := ⟨_, rfl⟩
  obtain ⟨La, hLa⟩ : ∃ L, L = mkB P T A M W Q S [] q := ⟨_, rfl⟩
  obtain ⟨Lb, hLb⟩ : ∃ L, L = mkB P T A M W Q S3 [] q := ⟨_, rfl⟩
  rw [← hEq, ← hLa] at Q0
  rw [← hEq, ← hLb] at Q3
  rw [← hLa, ← hLb] at hoth
  obtain ⟨ma, hma2⟩ : ∃ m, m = La.length := ⟨_, rfl⟩
  obtain ⟨mb, hmb2⟩ : ∃ m, m = Lb.length := ⟨_, rfl⟩
  rw [← hma2] at Q0
  rw [← hmb2] at Q3
  have HO := Lib.hid hoth
  obtain ⟨S5, hS5⟩ : ∃ y, y = [(x1, t)] := ⟨_, rfl⟩
  rw [← hS5] at WR CR FL
  have hm2 : m ≤ 2 := by have := pag_is hmay; omega
  have hmm : ((m : Int) != (m : Int)) = false := bne_self_eq_false _
  have hee : (Eq == Eq) = true := beq_self_eq_true _
  clear hg x hbel hq hr hb hl SZ hty htl hx1 ht hE hF hmay hp0 hp1 hk0 hk1 w1 w2 w3 hD htl32 hxr0 hxr1 m3 m4 l3 l4 hfacts hother hck hsm hs3 hs4 hFl hFB hsl hS3 hS4 hma hla e3 e4 hoth hm l0 l1 l2 hL0 hL1 hL2 hL3 hEq hLa hLb hma2 hmb2 hS5
  go_enter Try.func6, Try.ntmps6
  go_wp2_with fail
  rw [← hw0]
  clear hw0
  refine (alive_page _).mono ?_
  rintro e v1 ⟨rfl, hb⟩
  have X := Lib.hid (X.out.below hb)
  have B := Lib.hid (B.out.trans (hb.mono B.out.size))
  have RB := Lib.hid (RB.out.below hb)
  clear hb c0 c1 c2 c3 c4 c5 d0 d1
  obtain ⟨c0, c1, c2, c3, c4, c5, d0, d1⟩ := X.out.cells
  go_wp2_with fail
  refine (GG.out _ X.out.dsk.dsk).mono ?_
  rintro e v2 ⟨rfl, hb⟩
  have X := Lib.hid (X.out.below hb)
  have B := Lib.hid (B.out.trans (hb.mono B.out.size))
  have RB := Lib.hid (RB.out.below hb)
  clear hb GG c0 c1 c2 c3 c4 c5 d0 d1
  obtain ⟨c0, c1, c2, c3, c4, c5, d0, d1⟩ := X.out.cells
  go_wp2_with fail
  refine (R0.out _ X.out.dsk.dsk).mono ?_
  rintro e v3 ⟨A16, r16, rfl, hown, hb⟩
  have X := Lib.hid (X.out.below hb)
  have B := Lib.hid (B.out.trans (hb.mono B.out.size))
  have RB := Lib.hid (RB.out.below hb)
  have V16 := Lib.hid (Arg.own hown)
  clear hb hown R0 c0 c1 c2 c3 c4 c5 d0 d1
  obtain ⟨c0, c1, c2, c3, c4, c5, d0, d1⟩ := X.out.cells
  go_wp2_with fail
  refine (PL.out _).mono ?_
  rintro e v4 ⟨A18, r18, rfl, hown, hb⟩
  have hY := Blk.new v4 30 [.int .i64 x1, .slice A18 32 r18]
  have hbk : Below v4.heap.size v4 (v4.alloc (.cells #[.int .i64 x1, .slice A18 32 r18] 30)) := (Below.refl _ _).alloc (Nat.le_refl _) _
  have hb := hb.trans (hbk.mono hb.size)
  have X := Lib.hid (X.out.below hb)
  have B := Lib.hid (B.out.trans (hb.mono B.out.size))
  have RB := Lib.hid (RB.out.below hb)
  have V16 := Lib.hid (V16.out.below hb)
  have V18 := Lib.hid ((Arg.own hown).below hbk)
  clear hb hbk hown PL c0 c1 c2 c3 c4 c5 d0 d1
  go_upto_region 6 with fail
  obtain ⟨G4, hG⟩ : ∃ x, x = v4.heap.size := ⟨_, rfl⟩
  rw [← hG] at hY ⊢
  obtain ⟨v5, hW⟩ : ∃ x : World, x = v4.alloc (.cells #[.int .i64 x1, .slice A18 32 r18] 30) := ⟨_, rfl⟩
  rw [← hW] at hY X B RB V16 V18 ⊢
  clear hW hG
  have Y18 := Lib.hid hY
  clear hY
  obtain ⟨c0, c1, c2, c3, c4, c5, d0, d1⟩ := X.out.cells
  have y0 := Y18.out.cell 0
  have y1 := Y18.out.cell 1
  simp only [List.getElem?_cons_zero, List.getElem?_cons_succ] at y0 y1
  go_wp2_with fail
  refine (WR.out _ _ _ X.out.dsk.dsk V18.out).mono ?_
  rintro e v6 ⟨A20, r20, A20', r20', rfl, hown, hb⟩
  have hY := DBox.new (Dsk.of_own hown)
  have hbk : Below v6.heap.size v6 (v6.alloc (.cells #[.slice A20 n r20, .slice A20' 1 r20'] 37)) := (Below.refl _ _).alloc (Nat.le_refl _) _
  have hb := hb.trans (hbk.mono hb.size)
  have X := Lib.hid (X.out.below hb)
  have B := Lib.hid (B.out.trans (hb.mono B.out.size))
  have RB := Lib.hid (RB.out.below hb)
  have V16 := Lib.hid (V16.out.below hb)
  have V18 := Lib.hid (V18.out.below hb)
  have Y18 := Lib.hid (Y18.out.below hb Y18.out.lt)
  clear hb hbk hown WR y0 y1 c0 c1 c2 c3 c4 c5 d0 d1
  go_upto_region 7 with fail
  obtain ⟨G6, hG⟩ : ∃ x, x = v6.heap.size := ⟨_, rfl⟩
  rw [← hG] at hY ⊢
  obtain ⟨v7, hW⟩ : ∃ x : World, x = v6.alloc (.cells #[.slice A20 n r20, .slice A20' 1 r20'] 37) := ⟨_, rfl⟩
  rw [← hW] at hY X B RB V16 V18 Y18 ⊢
  clear hW hG
  have D20 := Lib.hid hY
  clear hY
  clear V18 Y18
  obtain ⟨e0, e1⟩ := D20.out.cells
  go_wp2_with fail
  refine (CR.out _ _ _ _ _ D20.out.dsk RB.out).mono ?_
  rintro e v8 ⟨A22, r22, A22', r22', rfl, hown, hb⟩
  have hY := DBox.new (Dsk.of_own hown)
  have hbk : Below v8.heap.size v8 (v8.alloc (.cells #[.slice A22 n r22, .slice A22' 0 r22'] 37)) := (Below.refl _ _).alloc (Nat.le_refl _) _
  have hb := hb.trans (hbk.mono hb.size)
  have X := Lib.hid (X.out.below hb)
  have B := Lib.hid (B.out.trans (hb.mono B.out.size))
  have RB := Lib.hid (RB.out.below hb)
  have V16 := Lib.hid (V16.out.below hb)
  have D20 := Lib.hid (D20.out.below hb)
  clear hb hbk hown CR e0 e1
  go_upto_region 10 with fail
  obtain ⟨G8, hG⟩ : ∃ x, x = v8.heap.size := ⟨_, rfl⟩
  rw [← hG] at hY ⊢
  obtain ⟨v9, hW⟩ : ∃ x : World, x = v8.alloc (.cells #[.slice A22 n r22, .slice A22' 0 r22'] 37) := ⟨_, rfl⟩
  rw [← hW] at hY X B RB V16 D20 ⊢
  clear hW hG
  have D22 := Lib.hid hY
  clear hY
  clear RB
  obtain ⟨c0, c1, c2, c3, c4, c5, d0, d1⟩ := X.out.cells
  obtain ⟨e0, e1⟩ := D22.out.cells
  go_wp2_with fail
  refine (R3.out _ _ _ _ _ D22.out.dsk).mono ?_
  rintro e v10 ⟨A24, r24, rfl, hown, hb⟩
  have X := Lib.hid (X.out.below hb)
  have B := Lib.hid (B.out.trans (hb.mono B.out.size))
  have V16 := Lib.hid (V16.out.below hb)
  have D20 := Lib.hid (D20.out.below hb)
  have D22 := Lib.hid (D22.out.below hb)
  have V24 := Lib.hid (Arg.own hown)
  clear hb hown R3 e0 e1 c0 c1 c2 c3 c4 c5 d0 d1
  obtain ⟨e0, e1⟩ := D20.out.cells
  go_wp2_with fail
  refine (FL.out _ _ _ _ _ D20.out.dsk).mono ?_
  rintro e v11 ⟨A26, r26, A26', r26', rfl, hown, hb⟩
  have hY := DBox.new (Dsk.of_own hown)
  have hbk : Below v11.heap.size v11 (v11.alloc (.cells #[.slice A26 n r26, .slice A26' 0 r26'] 37)) := (Below.refl _ _).alloc (Nat.le_refl _) _
  have hb := hb.trans (hbk.mono hb.size)
  have X := Lib.hid (X.out.below hb)
  have B := Lib.hid (B.out.trans (hb.mono B.out.size))
  have V16 := Lib.hid (V16.out.below hb)
  have D20 := Lib.hid (D20.out.below hb)
  have D22 := Lib.hid (D22.out.below hb)
  have V24 := Lib.hid (V24.out.below hb)
  clear hb hbk hown FL e0 e1
  go_upto_region 12 with fail
  obtain ⟨G11, hG⟩ : ∃ x, x = v11.heap.size := ⟨_, rfl⟩
  rw [← hG] at hY ⊢
  obtain ⟨v12, hW⟩ : ∃ x : World, x = v11.alloc (.cells #[.slice A26 n r26, .slice A26' 0 r26'] 37) := ⟨_, rfl⟩
  rw [← hW] at hY X B V16 D20 D22 V24 ⊢
  clear hW hG
  have D26 := Lib.hid hY
  clear hY
  clear D20
  obtain ⟨c0, c1, c2, c3, c4, c5, d0, d1⟩ := X.out.cells
  obtain ⟨e0, e1⟩ := D26.out.cells
  go_wp2_with fail
  refine (R4.out _ _ _ _ _ D26.out.dsk).mono ?_
  rintro e v13 ⟨A28, r28, rfl, hown, hb⟩
  have X := Lib.hid (X.out.below hb)
  have B := Lib.hid (B.out.trans (hb.mono B.out.size))
  have V16 := Lib.hid (V16.out.below hb)
  have D22 := Lib.hid (D22.out.below hb)
  have V24 := Lib.hid (V24.out.below hb)
  have D26 := Lib.hid (D26.out.below hb)
  have V28 := Lib.hid (Arg.own hown)
  clear hb hown R4 e0 e1 c0 c1 c2 c3 c4 c5 d0 d1
  obtain ⟨c0, c1, c2, c3, c4, c5, d0, d1⟩ := X.out.cells
  clear D26
  go_wp2_with fail
  refine (AL.out _).mono ?_
  rintro e v14 ⟨A30, r30, rfl, hown, hb⟩
  have X := Lib.hid (X.out.below hb)
  have B := Lib.hid (B.out.trans (hb.mono B.out.size))
  have V16 := Lib.hid (V16.out.below hb)
  have D22 := Lib.hid (D22.out.below hb)
  have V24 := Lib.hid (V24.out.below hb)
  have V28 := Lib.hid (V28.out.below hb)
  have V30 := Lib.hid (Arg.own hown)
  clear hb hown AL c0 c1 c2 c3 c4 c5 d0 d1
  go_wp2
  simp only [List.append]
  go_loopw [32] (fun i wr => ∃ k : Nat, k ≤ m ∧ i = .int .i64 k ∧ ∃ q, wr = v14.drewN q) (fun i _ => m - (intOf i).toNat)
  case atStart => exact ⟨0, Nat.zero_le _, rfl, 0, rfl⟩
  case round =>
    obtain ⟨k, hk, rfl, q0, rfl⟩ := hrel
    by_cases hkm : k < m
    · have hki : (k : Int) < (m : Int) := by omega
      have hwr2 : IntKind.i64.wrap (k : Int) = k := Lib.wrap_i64_small k (by omega)
      obtain ⟨g16, o16, rfl, _, y16⟩ := V16.out.seq.int (j := k) (by rw [HL0.out]; exact hkm)
      obtain ⟨g24, o24, rfl, _, y24⟩ := V24.out.seq.int (j := k) (by rw [HL1.out]; exact hkm)
      obtain ⟨g28, o28, rfl, _, y28⟩ := V28.out.seq.int (j := k) (by rw [HL2.out]; exact hkm)
      obtain ⟨g30, o30, rfl, _, y30⟩ := V30.out.seq.int (j := k) (by rw [HL3.out]; exact hkm)
      obtain ⟨f1, f2⟩ := HF.out k hkm
      obtain ⟨u, hu⟩ : ∃ x, x = L0.getD k 0 := ⟨_, rfl⟩
      obtain ⟨v, hv⟩ : ∃ x, x = L1.getD k 0 := ⟨_, rfl⟩
      obtain ⟨x, hx⟩ : ∃ x, x = L2.getD k 0 := ⟨_, rfl⟩
      obtain ⟨y, hy⟩ : ∃ x, x = L3.getD k 0 := ⟨_, rfl⟩
      rw [← hu, ← hv, ← hx] at f1
      rw [← hu, ← hv, ← hx, ← hy] at f2
      rw [← hu] at y16
      rw [← hv] at y24
      rw [← hx] at y28
      rw [← hy] at y30
      have z16 : ∀ j, (v14.drewN j).cell? ⟨g16, o16 + k, none⟩ = some (.int .u8 u) := fun j => y16
      have z24 : ∀ j, (v14.drewN j).cell? ⟨g24, o24 + k, none⟩ = some (.int .u8 v) := fun j => y24
      have z28 : ∀ j, (v14.drewN j).cell? ⟨g28, o28 + k, none⟩ = some (.int .u8 x) := fun j => y28
      have z30 : ∀ j, (v14.drewN j).cell? ⟨g30, o30 + k, none⟩ = some (.int .u8 y) := fun j => y30
      clear hu hv hx hy y16 y24 y28 y30
      by_cases hkn : k = n0
      · obtain ⟨f3, f4⟩ := f2 hkn
        have n1 : ((k : Int) != (n0 : Int)) = false := by rw [hkn]; exact bne_self_eq_false _
        have n2 : ((k : Int) == (n0 : Int)) = true := by rw [hkn]; exact beq_self_eq_true _
        have n3 : (x != b) = false := by rw [f4]; exact bne_self_eq_false _
        clear f1 f2 f4 hkn
        by_cases g1 : v = u
        · have n4 : (v != u) = false := by rw [g1]; exact bne_self_eq_false _
          clear f3 g1
          go_wp2
          go_quiet (fail)
          go_wp2
          go_roundw
          case rel => exact ⟨k + 1, by omega, by go_num, _, rfl⟩
          case measure => simp [intOf]; omega
        · have n4 : (v != u) = true := bne_iff_ne.2 g1
          by_cases g2 : v = b
          · have n5 : (v != b) = false := by rw [g2]; exact bne_self_eq_false _
            clear f3 g1 g2
            go_wp2
            go_quiet (fail)
            go_wp2
            go_roundw
            case rel => exact ⟨k + 1, by omega, by go_num, _, rfl⟩
            case measure => simp [intOf]; omega
          · have n5 : (v != b) = true := bne_iff_ne.2 g2
            have n6 : (v != y) = false := by
              rcases f3 with h | h | h
              · exact absurd h g1
              · exact absurd h g2
              · rw [h]; exact bne_self_eq_false _
            clear f3 g1 g2
            go_wp2
            go_quiet (fail)
            go_wp2
            go_roundw
            case rel => exact ⟨k + 1, by omega, by go_num, _, rfl⟩
            case measure => simp [intOf]; omega
      · obtain ⟨f3, f4⟩ := f1 hkn
        have n1 : ((k : Int) != (n0 : Int)) = true := bne_iff_ne.2 (by omega)
        have n2 : ((k : Int) == (n0 : Int)) = false := beq_eq_false_iff_ne.2 (by omega)
        have n3 : (v != u) = false := by rw [f3]; exact bne_self_eq_false _
        have n4 : (x != u) = false := by rw [f4]; exact bne_self_eq_false _
        clear f1 f2 hkn f3 f4
        go_wp2
        go_quiet (fail)
        go_wp2
        go_roundw
        case rel => exact ⟨k + 1, by omega, by go_num, _, rfl⟩
        case measure => simp [intOf]; omega
    · obtain rfl : k = m := by omega
      have hcur : Below v14.heap.size v14 (v14.drewN q0) := below_drewN (Below.refl _ _) q0
      obtain ⟨v15, hv15⟩ : ∃ y, y = v14.drewN q0 := ⟨_, rfl⟩
      rw [← hv15] at hcur ⊢
      have X := Lib.hid (X.out.below hcur)
      have B := Lib.hid (B.out.trans (hcur.mono B.out.size))
      have D22 := Lib.hid (D22.out.below hcur)
      have V24 := Lib.hid (V24.out.below hcur)
      clear hcur hv15
      obtain ⟨c0, c1, c2, c3, c4, c5, d0, d1⟩ := X.out.cells
      go_wp2_with fail
      refine (Q0.out _ X.out.dsk.dsk).mono ?_
      rintro e v15 ⟨A33, r33, rfl, hown, hb⟩
      have X := Lib.hid (X.out.below hb)
      have B := Lib.hid (B.out.trans (hb.mono B.out.size))
      have D22 := Lib.hid (D22.out.below hb)
      have V24 := Lib.hid (V24.out.below hb)
      have V33 := Lib.hid (Arg.own hown)
      clear hb hown Q0 c0 c1 c2 c3 c4 c5 d0 d1
      obtain ⟨c0, c1, c2, c3, c4, c5, d0, d1⟩ := X.out.cells
      obtain ⟨e0, e1⟩ := D22.out.cells
      go_wp2_with fail
      refine (Q3.out _ _ _ _ _ D22.out.dsk).mono ?_
      rintro e v16 ⟨A35, r35, rfl, hown, hb⟩
      have X := Lib.hid (X.out.below hb)
      have B := Lib.hid (B.out.trans (hb.mono B.out.size))
      have D22 := Lib.hid (D22.out.below hb)
      have V24 := Lib.hid (V24.out.below hb)
      have V33 := Lib.hid (V33.out.below hb)
      have V35 := Lib.hid (Arg.own hown)
      clear hb hown Q3 e0 e1 c0 c1 c2 c3 c4 c5 d0 d1
      obtain ⟨c0, c1, c2, c3, c4, c5, d0, d1⟩ := X.out.cells
      have BS := Lib.hid D22.out.dsk.secs.byte
      have CH2 := CH.out A24 r24 _ V24.out BS.out
      rw [CK.out BS.out] at CH2
      have CH2 := Lib.hid CH2
      go_wp2_with fail
      refine CH2.out.mono ?_
      rintro e w9 ⟨rfl, rfl⟩
      by_cases hqp : q = p
      · have n1 : (q == p) = true := beq_iff_eq.2 hqp
        clear hqp
        go_wp2
        go_ret
        exact ⟨rfl, B.out⟩
      · have n1 : (q == p) = false := beq_eq_false_iff_ne.2 hqp
        have q33 := str_arg V33.out
        have q35 := str_arg V35.out
        rw [HO.out hqp] at q35
        obtain ⟨s, hs⟩ : ∃ s, s = strOfNums La := ⟨_, rfl⟩
        rw [← hs] at q33 q35
        have hss : (s.toList == s.toList) = true := beq_self_eq_true _
        clear hqp hs
        go_wp2
        go_ret
        exact ⟨rfl, B.out⟩

theorem pcrash_of (P T A M W Q : Int) (D : Option Addr) (n c : Nat) (D' : Option Addr) (n' c' : Nat) (S : List Sec) (C : List Pnd) (p kk b : Int) (a5 : Option Addr) (len5 cap5 : Nat) (F : List Int) (q : Int) (w : World) (hq : Dsk w D n c D' n' c' S C) (hr : Arg w .u8 a5 len5 cap5 F) (hb : isByte b) (hFB : ∀ z ∈ F, isByte z) :
    Calls Try.prog 6 #[cfgV P T A M W Q, diskV D n c D' n' c', .int .i64 p, .int .i64 kk, .int .u8 b, .slice a5 len5 cap5, .int .i64 q] w fun e w' => e = .returned (.bool true) ∧ Below w.heap.size w w' := by
  cases hg : greatD S C 300 with
  | true => exact pcrash_great P T A M W Q D n c D' n' c' S C p kk b a5 len5 cap5 F q w hq hr hg
  | false =>
    rcases Nat.eq_zero_or_pos n' with hn | hn
    · by_cases hl : 200 < len5
      · exact pcrash_fates P T A M W Q D n c D' n' c' S C p kk b a5 len5 cap5 F q w hq hr hg hn hl
      · have hC : C = [] := List.eq_nil_of_length_eq_zero (by rw [hq.pnds.len]; exact hn)
        subst hn
        subst hC
        by_cases hE : mkE P T A M W Q S [] p = 0
        · by_cases hF : pxE P T A M W Q p kk b = 0
          · exact pcrash_main P T A M W Q D n c D' c' S p kk b a5 len5 cap5 F q w hq hr hb hg (by omega) hFB hE hF
          · exact pcrash_F P T A M W Q D n c D' c' S p kk b a5 len5 cap5 F q w hq hr hb hg (by omega) hE hF
        · exact pcrash_E P T A M W Q D n c D' c' S p kk b a5 len5 cap5 F q w hq hr hb hg (by omega) hE
    · exact pcrash_cache P T A M W Q D n c D' n' c' S C p kk b a5 len5 cap5 F q w hq hr hg hn

end Go.Proofs.Ytiibmlbenamgcaa
