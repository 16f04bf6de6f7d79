/- Layer 13, the program: Read. -/
import Derived.Test.YtiibmlbenamgcaaPgP4
namespace Go.Proofs.Ytiibmlbenamgcaa
open Go.RowKit
set_option linter.unusedVariables false
set_option maxRecDepth 100000

/-- Of a pair that there is. -/
theorem pge_in {P T A M W Q p : Int} (h : mayC P T A M W Q) {k : Nat} (hk : (k : Int) < pagC T) : pgeE P T A M W Q p k = if 0 ≤ p ∧ p < P then 0 else 2 := by
  unfold pgeE
  rw [if_pos h]
  by_cases hp : 0 ≤ p ∧ p < P
  · rw [if_pos hp, if_pos ⟨hp.1, by omega, by omega, by omega⟩]
  · rw [if_neg hp, if_neg (fun h2 => hp ⟨h2.1, by omega⟩)]
theorem set_getP {l : List Int} {k : Nat} (hk : k < l.length) (x : Int) (j : Nat) : (l.set k x).getD j 0 = if j = k then x else l.getD j 0 := by
  rw [List.getD_eq_getElem?_getD, List.getElem?_set, List.getD_eq_getElem?_getD]
  by_cases h : k = j
  · subst h
    rw [if_pos rfl, if_pos hk, if_pos rfl]
    rfl
  · rw [if_neg h, if_neg (fun e => h e.symm)]

set_option maxHeartbeats 6400000 in
theorem pgread_yes (P T A M W Q p : Int) (D : Option Addr) (nd cd : Nat) (D' : Option Addr) (nd' cd' : Nat) (S : List Sec) (C : List Pnd) (w : World) (hq : Dsk w D nd cd D' nd' cd' S C) (hs : SmallD S C) (ht : mayT P T A M W Q S C) (hp : 0 ≤ p ∧ p < P) :
    Calls Try.prog 10 #[cfgV P T A M W Q, diskV D nd cd D' nd' cd', .int .i64 p] w (RowOut .u8 5 w (mkL T A S C p (pagC T).toNat) 0) := by
  obtain ⟨x, hbel⟩ := TBox.new P T A M W Q hq
  obtain ⟨w1, hw1⟩ : ∃ x : World, x = (w.alloc (.cells #[.int .i64 P, .int .i64 T, .int .i64 A, .int .i64 M, .int .i64 W, .int .i64 Q] 27)).alloc (.cells #[.slice D nd cd, .slice D' nd' cd'] 37) := ⟨_, rfl⟩
  rw [← hw1] at x hbel
  have X := Lib.hid x
  have B := Lib.hid hbel
  have hc := ht.1
  have hpg := pag_pgs hc
  have hgi := pag_is hc
  have CK := Lib.hid (fun wx hx => tcheck_any P T A M W Q D nd cd D' nd' cd' S C wx hx hs)
  rw [show tcE P T A M W Q S C = 0 from if_pos ht] at CK
  have PA := Lib.hid (fun w' : World => ppagesN_any P T A M W Q w')
  rw [show pagN P T A M W Q = pagC T from if_pos hc, show chkC P T A M W Q = 0 from if_pos hc] at PA
  obtain ⟨m, hm⟩ : ∃ m, m = (pagC T).toNat := ⟨_, rfl⟩
  rw [show pagC T = (m : Int) by omega] at PA
  have hm2 : m ≤ 2 := by omega
  have hT : T.toNat ≤ 16 := by unfold mayC at hc; omega
  have MK := Lib.hid (fun wx : World => make_none T.toNat hT wx)
  have OM := Lib.hid (fun wx : World => own_none T.toNat hT wx)
  rw [← hpg, ← hm] at MK OM
  have PO := Lib.hid (fun (k : Nat) (hk : k < m) (w' : World) => ppageof_yes P T A M W Q p k w' (by rw [pge_in hc (by omega), if_pos hp]))
  have TO := Lib.hid (fun (k : Nat) (hk : k < m) (wx : World) (hx : Dsk wx D nd cd D' nd' cd' S C) => ptold_any p k (atP T A p k) (fulP T (k : Int).toNat) D nd cd D' nd' cd' S C wx hx hs (show isByte p by unfold mayC at hc; exact ⟨hp.1, by omega⟩) ⟨by omega, by omega⟩ ful_byte)
  have hL : ∀ k, k < m → toldF (fulP T (k : Int).toNat) p k (optAt S C (atP T A p k)) = (mkL T A S C p m).getD k 0 := fun k hk => by
    rw [mk_at hk, told_F, Int.toNat_natCast]
  have hLl : (mkL T A S C p m).length = m := mk_length
  rw [← hm]
  obtain ⟨L, hLe⟩ : ∃ L, L = mkL T A S C p m := ⟨_, rfl⟩
  rw [← hLe] at hL hLl ⊢
  have HL := Lib.hid hL
  have HLL := Lib.hid hLl
  have hz : (none0 T.toNat).length = m := by rw [hm, hpg]; simp [none0]
  obtain ⟨Z, hZ⟩ : ∃ Z, Z = none0 T.toNat := ⟨_, rfl⟩
  rw [← hZ] at MK OM hz
  have HZ := Lib.hid hz
  obtain ⟨c0, c1, c2, c3, c4, c5, d0, d1⟩ := x.cells
  clear hq hs ht hp x hbel hc hpg hgi hT hm hL hLl hLe hz hZ
  go_enter Try.func10, Try.ntmps10
  go_wp2_with fail
  rw [← hw1]
  clear hw1
  refine (CK.out _ X.out.dsk.dsk).mono ?_
  rintro e w2 ⟨rfl, hb⟩
  have B := Lib.hid (B.out.trans (hb.mono B.out.size))
  have X := Lib.hid (X.out.below hb)
  clear hb c0 c1 c2 c3 c4 c5 d0 d1 CK
  obtain ⟨c0, c1, c2, c3, c4, c5, d0, d1⟩ := X.out.cells
  go_wp2_with fail
  refine (PA.out _).mono ?_
  rintro e w3 ⟨rfl, hb⟩
  have B := Lib.hid (B.out.trans (hb.mono B.out.size))
  have X := Lib.hid (X.out.below hb)
  clear hb c0 c1 c2 c3 c4 c5 d0 d1 PA
  have hmk := MK.out w3
  have hown := OM.out w3
  have hal : Below w3.heap.size w3 (w3.alloc (.cells (ints .u8 Z).toArray 5)) := (Below.refl _ _).alloc (Nat.le_refl _) _
  obtain ⟨w4, hw4⟩ : ∃ x : World, x = w3.alloc (.cells (ints .u8 Z).toArray 5) := ⟨_, rfl⟩
  obtain ⟨g, hg⟩ : ∃ x : Nat, x = w3.heap.size := ⟨_, rfl⟩
  rw [← hw4] at hmk hown hal
  rw [← hg] at hmk hown hal
  have O := Lib.hid hown
  have K := Lib.hid hal
  have HG := Lib.hid hg
  clear hown hal hw4 hg MK OM
  go_upto_region 6 with fail
  clear hmk
  go_wp2
  go_loopw [30] (fun i wr => ∃ (k : Nat) (l : List Int), k ≤ m ∧ i = .int .i64 k ∧ l.length = m ∧ (∀ y, y < k → l.getD y 0 = L.getD y 0) ∧ wr.ownsRow g 5 1 (.slice (some ⟨g, 0, none⟩) m m) m (ints .u8 l) ∧ Below g w3 wr) (fun i _ => m - (intOf i).toNat)
  case atStart => exact ⟨0, Z, Nat.zero_le _, rfl, HZ.out, fun y hy => by omega, O.out, K.out⟩
  case round =>
    obtain ⟨k, l, hk, rfl, hl, hall, hown, hb⟩ := hrel
    have ALL := Lib.hid hall
    have OW := Lib.hid hown
    have BW := Lib.hid hb
    have HLE := Lib.hid hl
    have XR := Lib.hid (X.out.below (w' := wr) (by rw [← HG.out]; exact BW.out))
    clear hall hown hb hl
    by_cases hkm : k < m
    · have hki : (k : Int) < (m : Int) := by omega
      obtain ⟨c0, c1, c2, c3, c4, c5, d0, d1⟩ := XR.out.cells
      have hwr2 : IntKind.i64.wrap (k : Int) = k := Lib.wrap_i64_small k (by omega)
      have TK := TO.out k hkm
      rw [HL.out k hkm] at TK
      have PK := PO.out k hkm
      obtain ⟨f, hf⟩ : ∃ f, f = fulP T (k : Int).toNat := ⟨_, rfl⟩
      obtain ⟨a, ha⟩ : ∃ a, a = atP T A p (k : Int) := ⟨_, rfl⟩
      obtain ⟨v, hv⟩ : ∃ v, v = L.getD k 0 := ⟨_, rfl⟩
      rw [← hf, ← ha] at TK PK
      rw [← hv] at TK
      have TK := Lib.hid TK
      have PK := Lib.hid PK
      have HV := Lib.hid hv
      clear hf ha hv
      go_wp2_with fail
      refine (PK.out _).mono ?_
      rintro e w5 ⟨rfl, hb⟩
      have OW := Lib.hid (owns_below OW.out hb)
      have BW := Lib.hid (BW.out.trans (hb.mono (by rw [HG.out]; exact BW.out.size)))
      have XR := Lib.hid (XR.out.below hb)
      obtain ⟨y, hb5⟩ := box_pge w5 p k a f
      have OW := Lib.hid (owns_below OW.out hb5)
      have BW := Lib.hid (BW.out.trans (hb5.mono (by rw [HG.out]; exact BW.out.size)))
      have XR := Lib.hid (XR.out.below hb5)
      obtain ⟨q0, q1, q2, q3⟩ := y.pge
      clear hb c0 c1 c2 c3 c4 c5 d0 d1 y hb5 PK
      obtain ⟨c0, c1, c2, c3, c4, c5, d0, d1⟩ := XR.out.cells
      go_wp2_with fail
      refine (TK.out _ XR.out.dsk.dsk).mono ?_
      rintro e w6 ⟨rfl, hb⟩
      have OW := Lib.hid (owns_below OW.out hb)
      have BW := Lib.hid (BW.out.trans (hb.mono (by rw [HG.out]; exact BW.out.size)))
      clear hb c0 c1 c2 c3 c4 c5 d0 d1 q0 q1 q2 q3 TK XR
      obtain ⟨g1, hg1, _, hc, hf, hset⟩ := owns_int_at OW.out hkm
      injection hg1 with hg1
      injection hg1 with hg1
      subst hg1
      have SET := Lib.hid (hset v)
      clear hset
      go_wp2
      go_roundw
      case rel =>
        refine ⟨k + 1, l.set k v, by omega, by go_num, by rw [List.length_set]; exact HLE.out, fun y hy => ?_, SET.out, BW.out.setCell (p := ⟨g, k, none⟩) (Nat.le_refl _) _⟩
        rw [set_getP (by rw [HLE.out]; exact hkm)]
        by_cases hyk : y = k
        · rw [if_pos hyk, hyk]
          exact HV.out
        · rw [if_neg hyk]
          exact ALL.out y (by omega)
      case measure => simp [intOf]; omega
    · obtain rfl : k = m := by omega
      have hlL : l = L := lists_yes 0 (by rw [HLE.out, HLL.out]) (fun y hy => ALL.out y (by rw [← HLE.out]; exact hy))
      have FO := Lib.hid (show wr.ownsRow w.heap.size 5 1 (.slice (some ⟨g, 0, none⟩) k k) k (ints .u8 L) by rw [← hlL]; exact owns_base OW.out (by rw [HG.out]; exact B.out.size))
      have FB := Lib.hid (B.out.trans (BW.out.mono (by rw [HG.out]; exact B.out.size)))
      clear hlL
      go_wp2
      go_ret2
      exact ⟨some ⟨g, 0, none⟩, k, by rw [HLL.out]; rfl, by rw [HLL.out]; exact FO.out, FB.out⟩

set_option maxHeartbeats 6400000 in
theorem pgread_pair (P T A M W Q p : Int) (D : Option Addr) (nd cd : Nat) (D' : Option Addr) (nd' cd' : Nat) (S : List Sec) (C : List Pnd) (w : World) (hq : Dsk w D nd cd D' nd' cd' S C) (hs : SmallD S C) (ht : mayT P T A M W Q S C) (hp : ¬ (0 ≤ p ∧ p < P)) :
    Calls Try.prog 10 #[cfgV P T A M W Q, diskV D nd cd D' nd' cd', .int .i64 p] w (RowOut .u8 5 w [] 2) := by
  obtain ⟨x, hbel⟩ := TBox.new P T A M W Q hq
  obtain ⟨w1, hw1⟩ : ∃ x : World, x = (w.alloc (.cells #[.int .i64 P, .int .i64 T, .int .i64 A, .int .i64 M, .int .i64 W, .int .i64 Q] 27)).alloc (.cells #[.slice D nd cd, .slice D' nd' cd'] 37) := ⟨_, rfl⟩
  rw [← hw1] at x hbel
  have X := Lib.hid x
  have B := Lib.hid hbel
  have hc := ht.1
  have hpg := pag_pgs hc
  have hgi := pag_is hc
  have CK := Lib.hid (fun wx hx => tcheck_any P T A M W Q D nd cd D' nd' cd' S C wx hx hs)
  rw [show tcE P T A M W Q S C = 0 from if_pos ht] at CK
  have PA := Lib.hid (fun w' : World => ppagesN_any P T A M W Q w')
  rw [show pagN P T A M W Q = pagC T from if_pos hc, show chkC P T A M W Q = 0 from if_pos hc] at PA
  obtain ⟨m, hm⟩ : ∃ m, m = (pagC T).toNat := ⟨_, rfl⟩
  rw [show pagC T = (m : Int) by omega] at PA
  have hm2 : 1 ≤ m ∧ m ≤ 2 := by omega
  have hT : T.toNat ≤ 16 := by unfold mayC at hc; omega
  have MK := Lib.hid (fun wx : World => make_none T.toNat hT wx)
  rw [← hpg, ← hm] at MK
  have he : pgeE P T A M W Q p (0 : Nat) = 2 := by rw [pge_in hc (by omega), if_neg hp]
  have PO := Lib.hid (fun (w' : World) => ppageof_no P T A M W Q p (0 : Nat) w' (by rw [he]; decide))
  rw [he] at PO
  obtain ⟨c0, c1, c2, c3, c4, c5, d0, d1⟩ := x.cells
  have hm0 : (0 : Int) < (m : Int) := by omega
  clear hq hs ht hp x hbel hc hpg hgi hT hm he
  go_enter Try.func10, Try.ntmps10
  go_wp2_with fail
  rw [← hw1]
  clear hw1
  refine (CK.out _ X.out.dsk.dsk).mono ?_
  rintro e w2 ⟨rfl, hb⟩
  have B := Lib.hid (B.out.trans (hb.mono B.out.size))
  have X := Lib.hid (X.out.below hb)
  clear hb c0 c1 c2 c3 c4 c5 d0 d1 CK
  obtain ⟨c0, c1, c2, c3, c4, c5, d0, d1⟩ := X.out.cells
  go_wp2_with fail
  refine (PA.out _).mono ?_
  rintro e w3 ⟨rfl, hb⟩
  have B := Lib.hid (B.out.trans (hb.mono B.out.size))
  have X := Lib.hid (X.out.below hb)
  clear hb c0 c1 c2 c3 c4 c5 d0 d1 PA
  have hmk := MK.out w3
  have hal : Below w3.heap.size w3 (w3.alloc (.cells (ints .u8 (none0 T.toNat)).toArray 5)) := (Below.refl _ _).alloc (Nat.le_refl _) _
  obtain ⟨w4, hw4⟩ : ∃ x : World, x = w3.alloc (.cells (ints .u8 (none0 T.toNat)).toArray 5) := ⟨_, rfl⟩
  rw [← hw4] at hmk hal
  have B := Lib.hid (B.out.trans (hal.mono B.out.size))
  have X := Lib.hid (X.out.below hal)
  clear hal hw4 MK
  go_upto_region 6 with fail
  clear hmk
  go_wp2
  go_loopw [30] (fun i wr => i = .int .i64 0 ∧ wr = w4) (fun i _ => m - (intOf i).toNat)
  case atStart => exact ⟨rfl, rfl⟩
  case round =>
    obtain ⟨rfl, rfl⟩ := hrel
    obtain ⟨c0, c1, c2, c3, c4, c5, d0, d1⟩ := X.out.cells
    go_wp2_with fail
    refine (PO.out _).mono ?_
    rintro e w5 ⟨rfl, hb⟩
    have B := Lib.hid (B.out.trans (hb.mono B.out.size))
    obtain ⟨y, hb5⟩ := box_pge w5 0 0 0 0
    have B := Lib.hid (B.out.trans (hb5.mono B.out.size))
    clear hb c0 c1 c2 c3 c4 c5 d0 d1 y hb5 PO
    go_wp2
    go_ret2
    exact ⟨none, 0, rfl, World.ownsRow_nil _ _ _ _, B.out⟩

set_option maxHeartbeats 6400000 in
theorem pgread_bad (P T A M W Q p : Int) (D : Option Addr) (nd cd : Nat) (D' : Option Addr) (nd' cd' : Nat) (S : List Sec) (C : List Pnd) (w : World) (hq : Dsk w D nd cd D' nd' cd' S C) (hs : SmallD S C) (ht : ¬ mayT P T A M W Q S C) :
    Calls Try.prog 10 #[cfgV P T A M W Q, diskV D nd cd D' nd' cd', .int .i64 p] w (RowOut .u8 5 w [] 8) := by
  obtain ⟨x, hbel⟩ := TBox.new P T A M W Q hq
  obtain ⟨w1, hw1⟩ : ∃ x : World, x = (w.alloc (.cells #[.int .i64 P, .int .i64 T, .int .i64 A, .int .i64 M, .int .i64 W, .int .i64 Q] 27)).alloc (.cells #[.slice D nd cd, .slice D' nd' cd'] 37) := ⟨_, rfl⟩
  rw [← hw1] at x hbel
  have X := Lib.hid x
  have B := Lib.hid hbel
  have CK := Lib.hid (fun wx hx => tcheck_any P T A M W Q D nd cd D' nd' cd' S C wx hx hs)
  rw [show tcE P T A M W Q S C = 8 from if_neg ht] at CK
  obtain ⟨c0, c1, c2, c3, c4, c5, d0, d1⟩ := x.cells
  clear hq hs ht x hbel
  go_enter Try.func10, Try.ntmps10
  go_wp2_with fail
  rw [← hw1]
  clear hw1
  refine (CK.out _ X.out.dsk.dsk).mono ?_
  rintro e w2 ⟨rfl, hb⟩
  have B := Lib.hid (B.out.trans (hb.mono B.out.size))
  clear hb c0 c1 c2 c3 c4 c5 d0 d1 CK
  go_wp2
  go_ret2
  exact ⟨none, 0, rfl, World.ownsRow_nil _ _ _ _, B.out⟩

/-- Read, at all arguments. -/
theorem pgread_any (P T A M W Q p : Int) (D : Option Addr) (nd cd : Nat) (D' : Option Addr) (nd' cd' : Nat) (S : List Sec) (C : List Pnd) (w : World) (hq : Dsk w D nd cd D' nd' cd' S C) (hs : SmallD S C) :
    Calls Try.prog 10 #[cfgV P T A M W Q, diskV D nd cd D' nd' cd', .int .i64 p] w (RowOut .u8 5 w (mkB P T A M W Q S C p) (mkE P T A M W Q S C p)) := by
  unfold mkB mkE
  by_cases ht : mayT P T A M W Q S C
  · rw [if_pos ht]
    by_cases hp : 0 ≤ p ∧ p < P
    · rw [if_pos hp, if_pos rfl]
      exact pgread_yes P T A M W Q p D nd cd D' nd' cd' S C w hq hs ht hp
    · rw [if_neg hp, if_neg (by decide)]
      exact pgread_pair P T A M W Q p D nd cd D' nd' cd' S C w hq hs ht hp
  · rw [if_neg ht, if_neg (by decide)]
    exact pgread_bad P T A M W Q p D nd cd D' nd' cd' S C w hq hs ht

end Go.Proofs.Ytiibmlbenamgcaa
