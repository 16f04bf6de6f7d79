/- Layer 8: the program's Volume. -/
import Derived.Test.YtnmlplfcdnakhaaTrkP2
import Derived.Test.YtnmlplfcdnakhaaCellRj
import Derived.ScopeJumps
import Derived.WalkMore
namespace Go.Proofs.Ytnmlplfcdnakhaa
open Go.RowKit
set_option linter.unusedVariables false

instance (P T A : Int) (S : List Sec) (C : List Pnd) (p : Int) (k : Nat) : Decidable (tvOk P T A S C p k) := by unfold tvOk; infer_instance
def tvE (P T A M W Q : Int) (S : List Sec) (C : List Pnd) (p : Int) : Int := if taE P T A M W Q S C p 0 = 0 then (if tvOk P T A S C p T.toNat then 0 else 20) else taE P T A M W Q S C p 0
def tvB (P T A M W Q : Int) (S : List Sec) (C : List Pnd) (p : Int) : List Txt := if tvE P T A M W Q S C p = 0 then tvL P T A S C p T.toNat else []
def TxtsOut (w : World) (l : List Txt) (E : Int) (e : Ending) (w' : World) : Prop :=
  ∃ A c, e = .returned (.tuple #[.slice A l.length c, .int .i64 E]) ∧ OwnTexts w' w.heap.size A l.length c l ∧ Below w.heap.size w w'
/-- The rows of a volume that is read as far as track k. -/
def prL (P T A : Int) (S : List Sec) (C : List Pnd) (p : Int) (N k : Nat) : List Txt := (List.range N).map fun j : Nat => if j < k then vtB P T A S C p j else []
theorem prL_len (P T A : Int) (S : List Sec) (C : List Pnd) (p : Int) (N k : Nat) : (prL P T A S C p N k).length = N := by simp [prL]
theorem prL_zero (P T A : Int) (S : List Sec) (C : List Pnd) (p : Int) (N : Nat) : prL P T A S C p N 0 = List.replicate N [] := by
  rw [List.eq_replicate_iff]
  refine ⟨prL_len _ _ _ _ _ _ _ _, fun b hb => ?_⟩
  unfold prL at hb
  obtain ⟨i, _, rfl⟩ := List.mem_map.1 hb
  rw [if_neg (by omega)]
theorem prL_step (P T A : Int) (S : List Sec) (C : List Pnd) (p : Int) {N k : Nat} (h : k < N) : (prL P T A S C p N k).set k (vtB P T A S C p k) = prL P T A S C p N (k + 1) := by
  refine list_eq (d := []) (n := N) (by rw [List.length_set, prL_len]) (prL_len _ _ _ _ _ _ _ _) fun i hi => ?_
  rw [List.getD_eq_getElem?_getD, List.getElem?_set, prL_len]
  have e : ∀ k', (prL P T A S C p N k').getD i [] = if i < k' then vtB P T A S C p i else [] := fun k' => range_get _ _ hi
  rw [e (k + 1)]
  by_cases hk : k = i
  · subst hk
    rw [if_pos rfl, if_pos h, if_pos (by omega)]
    rfl
  · rw [if_neg hk, ← List.getD_eq_getElem?_getD, e k]
    by_cases h2 : i < k
    · rw [if_pos h2, if_pos (by omega)]
    · rw [if_neg h2, if_neg (by omega)]
theorem isT_row {P : Int} {N : Nat} {p : Int} {k : Nat} (h : isT P N p 0) (hk : k < N) : isT P N p k := by
  unfold isT at h ⊢
  omega
theorem tv_first {P A M W Q : Int} {N : Nat} {S : List Sec} {C : List Pnd} {p : Int} (hm : mayT P N A M W Q S C) {k : Nat} (hk : k < N) (h1 : vtE P N A S C p k ≠ 0) (h2 : ∀ j : Nat, j < k → vtE P N A S C p j = 0) :
    tvE P N A M W Q S C p = vtE P N A S C p k ∧ tvB P N A M W Q S C p = [] := by
  have key : tvE P N A M W Q S C p = vtE P N A S C p k := by
    unfold tvE taE
    rw [if_pos hm]
    by_cases hi : isT P N p 0
    · rw [if_pos hi, if_pos rfl]
      have hik := isT_row hi hk
      unfold vtE at h1 ⊢
      rw [if_pos hik] at h1 ⊢
      rw [if_neg (fun h => h1 (h k (by simpa using hk)))]
      rcases tkE_or S C (atT P N A p k) with h | h
      · exact absurd h h1
      · exact h.symm
    · have h0 : vtE P N A S C p ((0 : Nat) : Int) = 80 := by unfold vtE; rw [if_neg (show ¬ isT P N p ((0 : Nat) : Int) from hi)]
      have hk0 : k = 0 := by
        rcases Nat.eq_zero_or_pos k with h | h
        · exact h
        · rw [h2 0 h] at h0; cases h0
      subst hk0
      rw [if_neg hi, if_neg (by decide), h0]
  refine ⟨key, ?_⟩
  unfold tvB
  rw [key, if_neg h1]
theorem tv_all {P A M W Q : Int} {N : Nat} {S : List Sec} {C : List Pnd} {p : Int} (hm : mayT P N A M W Q S C) (h : ∀ k : Nat, k < N → vtE P N A S C p k = 0) :
    tvE P N A M W Q S C p = 0 ∧ tvB P N A M W Q S C p = prL P N A S C p N N := by
  have hN : 0 < N := by have := hm.1.2.2.1; omega
  have hi : isT P N p 0 := by
    have h0 := h 0 hN
    unfold vtE at h0
    split at h0
    · rename_i h1; exact h1
    · cases h0
  have hv : ∀ k : Nat, k < N → vtE P N A S C p k = tkE S C (atT P N A p k) ∧ vtB P N A S C p k = tkB S C (atT P N A p k) := fun k hk => by
    unfold vtE vtB
    rw [if_pos (isT_row hi hk), if_pos (isT_row hi hk)]
    exact ⟨rfl, rfl⟩
  have key : tvE P N A M W Q S C p = 0 := by
    unfold tvE taE
    rw [if_pos hm, if_pos hi, if_pos rfl, if_pos (show tvOk P N A S C p (N : Int).toNat from fun n hn => (hv n (by simpa using hn)).1.symm.trans (h n (by simpa using hn)))]
  refine ⟨key, ?_⟩
  unfold tvB
  rw [if_pos key]
  unfold tvL prL
  rw [Int.toNat_natCast]
  refine List.map_congr_left fun i hi => ?_
  have := List.mem_range.1 hi
  rw [if_pos this, (hv i this).2]
theorem vtB_byte {P T A p : Int} {S : List Sec} {C : List Pnd} (hS : ∀ s ∈ S, ∀ z ∈ s.2, isByte z) (hC : ∀ p ∈ C, ∀ z ∈ p.2, isByte z) (k : Int) : ∀ z ∈ vtB P T A S C p k, isByte z := by
  unfold vtB
  split
  · exact tkB_byte hS hC _
  · simp
/-- Rows of nothing. -/
theorem made_rows (N : Nat) (hN : N ≤ 100) (w : World) : ∃ V0 : List Value, (Instr.makeSlice 96 (.int .i64 (N : Int)) (.int .i64 (N : Int))).run Try.prog w = .ok (.slice (some ⟨w.heap.size, 0, none⟩) N N) (w.alloc (.cells V0.toArray 22)) ∧
    OwnTexts (w.alloc (.cells V0.toArray 22)) w.heap.size (some ⟨w.heap.size, 0, none⟩) N N (List.replicate N []) := by
  refine ⟨List.replicate N (.slice none 0 0), make_opts N (by omega) w, List.replicate N (.slice none 0 0), ?_, by simp, fun zs h => by rw [(List.mem_replicate.1 h).2]; simp, fun i hi => ⟨none, 0, 0, by rw [List.getElem?_replicate, if_pos hi], ?_⟩⟩
  · have hml : (100 : Nat) ≤ maxLen := by decide
    exact (Blk.new w 22 (List.replicate N (.slice none 0 0))).owns (Nat.le_refl _) (by simp) (by omega)
  · have e : (List.replicate N ([] : Txt)).getD i [] = [] := by simp [List.getD_eq_getElem?_getD, hi]
    rw [e]
    exact World.ownsRow_nil _ _ _ _

set_option maxRecDepth 100000 in
set_option maxHeartbeats 6400000 in
theorem volume_yes (P A M W Q : Int) (N : Nat) (D : Option Addr) (n c : Nat) (D' : Option Addr) (n' c' : Nat) (S : List Sec) (C : List Pnd) (p : Int) (w : World) (hq : Dsk w D n c D' n' c' S C) (hs : SmallD S C) (hm : mayT P N A M W Q S C) :
    Calls Try.prog 65 #[cfgV P N A M W Q, diskV D n c D' n' c', .int .i64 p] w (TxtsOut w (tvB P N A M W Q S C p) (tvE P N A M W Q S C p)) := by
  have hT := hm.1
  have hN : N ≤ 16 := by have := hT.2.2.2.1; omega
  obtain ⟨x, hbel⟩ := TBox.new P N A M W Q hq
  obtain ⟨w0, hw0⟩ : ∃ x : World, x = (w.alloc (.cells #[.int .i64 P, .int .i64 N, .int .i64 A, .int .i64 M, .int .i64 W, .int .i64 Q] 74)).alloc (.cells #[.slice D n c, .slice D' n' c'] 32) := ⟨_, rfl⟩
  have hsz : w0.heap.size = w.heap.size + 1 + 1 := by rw [hw0]; simp
  rw [← hw0] at x hbel
  have X := Lib.hid x
  have B := Lib.hid hbel
  obtain ⟨c0, c1, c2, c3, c4, c5, d0, d1⟩ := x.cells
  have VO := Lib.hid (fun wx hx => volumeOf_yes P N A M W Q D n c D' n' c' S C p wx hx hs hm)
  have TK := Lib.hid (fun (k : Nat) wx hx => track_any P N A M W Q D n c D' n' c' S C p k wx hx hs hm)
  have FI := Lib.hid (fun (k : Nat) (hk : k < N) h1 h2 => tv_first (p := p) hm (k := k) hk h1 h2)
  have AL := Lib.hid (fun h => tv_all (p := p) hm h)
  have VB := Lib.hid (fun k : Int => vtB_byte (P := P) (T := N) (A := A) (p := p) hq.secs.byte hq.pnds.byte k)
  have HQ := Lib.hid hq
  unfold RowOut at TK
  unfold TxtsOut
  obtain ⟨E, hE⟩ : ∃ E, E = tvE P N A M W Q S C p := ⟨_, rfl⟩
  obtain ⟨L, hL⟩ : ∃ E, E = tvB P N A M W Q S C p := ⟨_, rfl⟩
  rw [← hE, ← hL] at FI AL ⊢
  clear hq hs x hbel hm hT hE hL hsz
  go_enter Try.func65, Try.ntmps65
  go_wp2
  refine wp_scope_jumps 0 (fun a' w' => Below w.heap.size w w' ∧ E ≠ 0 ∧ L = [] ∧ ∃ u0 u1 u2 u3 u4 u5 u6 u7 u8 u10 u11 u12 u13 u14 u15 u16 u17 u18 u19 u20 u21 u22 u23 u24 u25 u26 u27 u28 u29 u30 u31 u32 u33 u34 u35 u36 u37 u38 u39 u40 u41 u42 u43 u44 u45 u46 : Value, a' = { tmps := #[u0, u1, u2, u3, u4, u5, u6, u7, u8, .int .i64 E, u10, u11, u12, u13, u14, u15, u16, u17, u18, u19, u20, u21, u22, u23, u24, u25, u26, u27, u28, u29, u30, u31, u32, u33, u34, u35, u36, u37, u38, u39, u40, u41, u42, u43, u44, u45, u46], defers := [] }) (fun _ _ => 0) rfl ?_ ?_
  · go_wp2_with fail
    rw [← hw0]
    clear hw0
    refine (VO.out _ X.out.dsk.dsk).mono ?_
    rintro e w2 ⟨rfl, hb⟩
    have B := Lib.hid (B.out.trans (hb.mono B.out.size))
    have X := Lib.hid (X.out.below hb)
    have Y := VBox.new P N A M W Q p X.out.dsk.dsk
    have hb3 : Below w2.heap.size w2 (w2.alloc (.cells #[.int .i64 P, .int .i64 N, .int .i64 A, .int .i64 M, .int .i64 W, .int .i64 Q, .slice D n c, .slice D' n' c', .int .i64 p] 169)) := (Below.refl _ _).alloc (Nat.le_refl _) _
    have B := Lib.hid (B.out.trans (hb3.mono B.out.size))
    have X := Lib.hid (X.out.below hb3)
    obtain ⟨v0, v1, v2, v3, v4, v5, v6, v7, v8⟩ := Y.blk.vol
    have Y := Lib.hid Y
    clear hb c0 c1 c2 c3 c4 c5 d0 d1 VO hb3
    obtain ⟨w3, hw3⟩ : ∃ x : World, x = w2.alloc (.cells #[.int .i64 P, .int .i64 N, .int .i64 A, .int .i64 M, .int .i64 W, .int .i64 Q, .slice D n c, .slice D' n' c', .int .i64 p] 169) := ⟨_, rfl⟩
    go_upto_region 4 with fail
    rw [← hw3] at Y X B v0 v1 v2 v3 v4 v5 v6 v7 v8 ⊢
    clear hw3
    go_upto_region 5 with fail
    clear v0 v1 v2 v3 v4 v5 v6 v7 v8
    obtain ⟨c0, c1, c2, c3, c4, c5, d0, d1⟩ := X.out.cells
    obtain ⟨V0, hmk, hown⟩ := made_rows N (by omega) w3
    obtain ⟨G, hG⟩ : ∃ G, G = w3.heap.size := ⟨_, rfl⟩
    have hbG : w.heap.size ≤ G := by rw [hG]; exact B.out.size
    have hb4 : Below w3.heap.size w3 (w3.alloc (.cells V0.toArray 22)) := (Below.refl _ _).alloc (Nat.le_refl _) _
    obtain ⟨w4, hw4⟩ : ∃ x : World, x = w3.alloc (.cells V0.toArray 22) := ⟨_, rfl⟩
    rw [← hw4] at hown
    rw [← hG] at hown
    rw [← hG] at hmk
    rw [← hw4] at hb4
    have Y := Lib.hid (Y.out.below hb4)
    have B := Lib.hid (B.out.trans (hb4.mono B.out.size))
    have O := Lib.hid hown
    clear hb4 hown
    go_upto_region 6 with fail
    rw [← hw4, ← hG]
    clear hw4 hmk hG
    have HG := Lib.hid hbG
    clear hbG
    have B0 := Lib.hid (show Below w.heap.size w w4 from B.out)
    go_wp2
    go_loopw [30] (fun i wr => ∃ k : Nat, k ≤ N ∧ i = .int .i64 k ∧ (∀ j : Nat, j < k → vtE P N A S C p j = 0) ∧ OwnTexts wr G (some ⟨G, 0, none⟩) N N (prL P N A S C p N k) ∧ Below w.heap.size w wr) (fun i _ => N - (intOf i).toNat)
    case atStart => exact ⟨0, Nat.zero_le _, rfl, fun j hj => absurd hj (Nat.not_lt_zero _), by rw [prL_zero]; exact O.out, B0.out⟩
    case round =>
      obtain ⟨k, hk, rfl, hall, ho, hb⟩ := hrel
      by_cases hkN : k < N
      · have hki : (k : Int) < (N : Int) := by omega
        have HD := Lib.hid (HQ.out.below hb)
        have HO := Lib.hid ho
        have HB := Lib.hid hb
        have HA := Lib.hid hall
        clear ho hb hall
        obtain ⟨g, e0, _, hlt⟩ := HO.out.block (by omega)
        cases e0
        have TKk := Lib.hid (TK.out k wr HD.out)
        have hfi := FI.out k hkN
        have hvb := VB.out k
        have hst := prL_step P N A S C p hkN
        obtain ⟨bk, hbk⟩ : ∃ b, b = vtB P N A S C p k := ⟨_, rfl⟩
        obtain ⟨ek, hek⟩ : ∃ b, b = vtE P N A S C p k := ⟨_, rfl⟩
        rw [← hbk, ← hek] at TKk
        rw [← hbk] at hvb hst
        rw [← hek] at hfi
        obtain ⟨mk, hmk⟩ : ∃ b, b = bk.length := ⟨_, rfl⟩
        rw [← hmk] at TKk
        have HFI := Lib.hid hfi
        have HVB := Lib.hid hvb
        have HST := Lib.hid hst
        have HEK := Lib.hid hek
        clear hfi hvb hst hek hmk hbk
        go_wp2_with fail
        refine TKk.out.mono ?_
        rintro e w5 ⟨AO, cO, rfl, hown, hb⟩
        have hrow := owns_base hown (Nat.le_of_lt hlt)
        obtain ⟨g, v, e0, hbg, hc, hf, hset⟩ := (HO.out.below hb).set hkN HVB.out hrow
        cases e0
        have HSET := Lib.hid hset
        have BN := Lib.hid ((HB.out.trans (hb.mono HB.out.size)).setCell (p := ⟨G, k, none⟩) HG.out (.slice AO mk cO))
        clear hset hrow hown hb TKk hbg hlt
        by_cases hz : ek = 0
        · have hz1 : (ek == 0) = true := beq_iff_eq.2 hz
          have hz2 : (ek != 0) = false := by rw [hz]; rfl
          have HZ := Lib.hid hz
          clear hz
          go_wp2
          go_roundw
          case rel => exact ⟨k + 1, by omega, by go_num, fun j hj => by rcases Nat.lt_succ_iff_lt_or_eq.1 hj with h | rfl; exact HA.out j h; exact HEK.out.symm.trans HZ.out, by rw [← HST.out]; exact HSET.out, BN.out⟩
          case measure => simp [intOf]; omega
        · have hz1 : (ek == 0) = false := beq_eq_false_iff_ne.2 hz
          have hz2 : (ek != 0) = true := bne_iff_ne.2 hz
          obtain ⟨hEe, hLe⟩ := HFI.out hz HA.out
          subst hLe
          subst hEe
          have HZ := Lib.hid hz
          clear hz
          go_wp2
          go_step3
          exact ⟨rfl, BN.out, HZ.out, rfl, _, _, _, _, _, _, _, _, _, _, _, _, _, _, _, _, _, _, _, _, _, _, _, _, _, _, _, _, _, _, _, _, _, _, _, _, _, _, _, _, _, _, _, _, _, _, rfl⟩
      · obtain rfl : k = N := by omega
        obtain ⟨hE0, hL0⟩ := AL.out hall
        have HO := Lib.hid ho
        have HB := Lib.hid hb
        have HE0 := Lib.hid hE0
        have HL0 := Lib.hid hL0
        clear ho hb hall hE0 hL0
        go_wp2
        simp only [Exit.jump]
        go_ret2
        refine ⟨some ⟨G, 0, none⟩, k, by rw [HE0.out, HL0.out, prL_len]; rfl, ?_, HB.out⟩
        rw [HL0.out, prL_len]
        exact HO.out.lower HG.out
  · rintro a' w' ⟨hB, hE0, hL, u0, u1, u2, u3, u4, u5, u6, u7, u8, u10, u11, u12, u13, u14, u15, u16, u17, u18, u19, u20, u21, u22, u23, u24, u25, u26, u27, u28, u29, u30, u31, u32, u33, u34, u35, u36, u37, u38, u39, u40, u41, u42, u43, u44, u45, u46, rfl⟩
    go_wp2
    simp only [Exit.jump]
    go_ret2
    exact ⟨none, 0, by rw [hL]; rfl, by rw [hL]; exact OwnTexts.nil _ _, hB⟩

set_option maxRecDepth 100000 in
set_option maxHeartbeats 6400000 in
theorem volume_any (P T A M W Q : Int) (D : Option Addr) (n c : Nat) (D' : Option Addr) (n' c' : Nat) (S : List Sec) (C : List Pnd) (p : Int) (w : World) (hq : Dsk w D n c D' n' c' S C) (hs : SmallD S C) :
    Calls Try.prog 65 #[cfgV P T A M W Q, diskV D n c D' n' c', .int .i64 p] w (TxtsOut w (tvB P T A M W Q S C p) (tvE P T A M W Q S C p)) := by
  by_cases hm : mayT P T A M W Q S C
  · obtain ⟨N, rfl⟩ : ∃ N : Nat, T = N := ⟨T.toNat, by have := hm.1.2.2.1; omega⟩
    exact volume_yes P A M W Q N D n c D' n' c' S C p w hq hs hm
  have e : tvE P T A M W Q S C p = 8 := by unfold tvE taE; rw [if_neg hm, if_neg (by decide)]
  have e2 : tvB P T A M W Q S C p = [] := by unfold tvB; rw [e, if_neg (by decide)]
  rw [e, e2]
  obtain ⟨x, hbel⟩ := TBox.new P T A M W Q hq
  obtain ⟨w0, hw0⟩ : ∃ x : World, x = (w.alloc (.cells #[.int .i64 P, .int .i64 T, .int .i64 A, .int .i64 M, .int .i64 W, .int .i64 Q] 74)).alloc (.cells #[.slice D n c, .slice D' n' c'] 32) := ⟨_, rfl⟩
  have hsz : w0.heap.size = w.heap.size + 1 + 1 := by rw [hw0]; simp
  rw [← hw0] at x hbel
  have X := Lib.hid x
  have B := Lib.hid hbel
  obtain ⟨c0, c1, c2, c3, c4, c5, d0, d1⟩ := x.cells
  have VO := Lib.hid (fun wx hx => volumeOf_no P T A M W Q D n c D' n' c' S C p wx hx hs hm)
  clear hq hs x hbel hm hsz e e2
  go_enter Try.func65, Try.ntmps65
  go_wp2
  refine wp_scope_jumps 0 (fun a' w' => False) (fun _ _ => 0) rfl ?_ (fun _ _ h => h.elim)
  go_wp2_with fail
  rw [← hw0]
  clear hw0
  refine (VO.out _ X.out.dsk.dsk).mono ?_
  rintro e w2 ⟨rfl, hb⟩
  have B := Lib.hid (B.out.trans (hb.mono B.out.size))
  have hb3 : Below w2.heap.size w2 (w2.alloc (.cells #[.int .i64 0, .int .i64 0, .int .i64 0, .int .i64 0, .int .i64 0, .int .i64 0, .slice none 0 0, .slice none 0 0, .int .i64 0] 169)) := (Below.refl _ _).alloc (Nat.le_refl _) _
  have B := Lib.hid (B.out.trans (hb3.mono B.out.size))
  clear hb c0 c1 c2 c3 c4 c5 d0 d1 VO hb3
  go_wp2
  simp only [Exit.jump]
  go_ret2
  exact ⟨none, 0, rfl, OwnTexts.nil _ _, B.out⟩

end Go.Proofs.Ytnmlplfcdnakhaa
