/- Layer 13, the document's: Marks, Read. -/
import Derived.Test.YtiibmlbenamgcaaPgR2
namespace Go.Proofs.Ytiibmlbenamgcaa
open Go.RowKit
set_option linter.unusedVariables false
set_option maxRecDepth 100000

theorem mk_succ {T A p : Int} {S : List Sec} {C : List Pnd} (k : Nat) : mkL T A S C p (k + 1) = mkL T A S C p k ++ [toldP T p k (optAt S C (atP T A p (k : Int)))] := by
  unfold mkL
  rw [List.range_succ, List.map_append]
  rfl

set_option maxHeartbeats 6400000 in
theorem rmarks_any (P T A M W Q p : Int) (D : Option Addr) (nd cd : Nat) (D' : Option Addr) (nd' cd' : Nat) (S : List Sec) (C : List Pnd) (w : World) (hq : Dsk w D nd cd D' nd' cd' S C) (hs : SmallD S C) (ht : mayT P T A M W Q S C) (hp : 0 ≤ p ∧ p < P) :
    Calls Try.prog 44 #[cfgV P T A M W Q, diskV D nd cd D' nd' cd', .int .i64 p] w (OneRow .u8 5 w (mkL T A S C p (pagC T).toNat)) := by
  obtain ⟨i0, hi0, hz0, hz1, hz2⟩ := info_parts byte_info
  obtain ⟨x, hbel⟩ := TBox.new P T A M W Q hq
  obtain ⟨w1, hw1⟩ : ∃ x : World, x = (w.alloc (.cells #[.int .i64 P, .int .i64 T, .int .i64 A, .int .i64 M, .int .i64 W, .int .i64 Q] 27)).alloc (.cells #[.slice D nd cd, .slice D' nd' cd'] 37) := ⟨_, rfl⟩
  rw [← hw1] at x hbel
  have X := Lib.hid x
  have B := Lib.hid hbel
  have hc := ht.1
  have hgi := pag_is hc
  have MA := Lib.hid (fun w' : World => rmany_any P T A M W Q w')
  obtain ⟨m, hm⟩ : ∃ m, m = (pagC T).toNat := ⟨_, rfl⟩
  rw [show pagC T = (m : Int) by omega] at MA
  have hm2 : m ≤ 2 := by omega
  rw [← hm]
  have TO := Lib.hid (fun (k : Nat) (hk : k < m) (wx : World) (hx : Dsk wx D nd cd D' nd' cd' S C) => rtold_any P T A M W Q p k D nd cd D' nd' cd' S C wx hx hs ht hp (by omega))
  have SU := Lib.hid (fun k : Nat => mk_succ (T := T) (A := A) (p := p) (S := S) (C := C) k)
  obtain ⟨F, hF⟩ : ∃ F, F = mkL T A S C p := ⟨_, rfl⟩
  have hF0 : F 0 = [] := by rw [hF]; rfl
  have hFl : ∀ k, (F k).length = k := fun k => by rw [hF]; exact mk_length
  rw [← hF] at SU ⊢
  have HFL := Lib.hid hFl
  have HF0 := Lib.hid hF0
  have hml : (1000 : Nat) ≤ maxLen := by decide
  clear hq hs ht hp x hbel hc hgi hm hF hF0 hFl
  go_enter Try.func44, Try.ntmps44
  go_upto_region 1 with fail
  rw [← hw1]
  clear hw1
  go_wp2
  go_loopw [7, 8] (fun v i wr => ∃ (k : Nat) (A' : Option Addr) (c' : Nat), k ≤ m ∧ i = .int .i64 k ∧ v = .slice A' k c' ∧ wr.ownsRow w1.heap.size 5 1 (.slice A' k c') k (ints .u8 (F k)) ∧ Below w1.heap.size w1 wr) (fun _ i _ => m - (intOf i).toNat)
  case atStart => exact ⟨0, none, 0, Nat.zero_le _, rfl, rfl, by rw [HF0.out]; exact World.ownsRow_nil _ _ _ _, Below.refl _ _⟩
  case round =>
    obtain ⟨k, A', c', hk, rfl, rfl, hown, hb⟩ := hrel
    have OW := Lib.hid hown
    have BW := Lib.hid hb
    have XR := Lib.hid (X.out.below hb)
    clear hown hb
    obtain ⟨c0, c1, c2, c3, c4, c5, d0, d1⟩ := XR.out.cells
    by_cases hkm : k < m
    · have hki : (k : Int) < (m : Int) := by omega
      have TK := TO.out k hkm
      obtain ⟨v, hv⟩ : ∃ v, v = toldP T p k (optAt S C (atP T A p (k : Int))) := ⟨_, rfl⟩
      have SK := SU.out k
      rw [← hv] at TK SK
      have TK := Lib.hid TK
      have SK := Lib.hid SK
      clear hv
      go_wp2_with fail
      refine (MA.out _).mono ?_
      rintro e w2 ⟨rfl, hb⟩
      have OW := Lib.hid (owns_below OW.out hb)
      have BW := Lib.hid (BW.out.trans (hb.mono BW.out.size))
      have XR := Lib.hid (XR.out.below hb)
      clear hb c0 c1 c2 c3 c4 c5 d0 d1
      obtain ⟨c0, c1, c2, c3, c4, c5, d0, d1⟩ := XR.out.cells
      go_wp2_with fail
      refine (TK.out _ XR.out.dsk.dsk).mono ?_
      rintro e w3 ⟨rfl, hb⟩
      have hal : Below w3.heap.size w3 (w3.alloc (.cells #[.int .u8 v] 5)) := (Below.refl _ _).alloc (Nat.le_refl _) _
      have OW := Lib.hid (owns_below (owns_below OW.out hb) hal)
      have BW3 := BW.out.trans (hb.mono BW.out.size)
      have BW := Lib.hid (BW3.trans (hal.mono BW3.size))
      have hsz := BW.out.size
      have LS := Lib.hid (lit_row w3 5 .u8 [v] #[.int .u8 v] w3.heap.size (w3.alloc (.cells #[.int .u8 v] 5)).heap.size rfl rfl (by simp))
      clear hb hal BW3 c0 c1 c2 c3 c4 c5 d0 d1 TK XR
      have hM1 : k + 1 ≤ maxLen := by omega
      go_wp2_with (at_builtin; (refine wpList_app _ rfl (.tmp 15) (.tmp 21) _ rfl w1.heap.size 5 i0 _ 1 Try.underlying22 hi0 hz0 hz1 hz2 rfl _ k _ rfl OW.out _ _ 1 _ (ints .u8 [v]) rfl rfl LS.out (ints_one _ _) hM1 (by omega) hsz ?_); intro v6 w6 hown6 hg6 hob6; obtain ⟨A6, c6, rfl⟩ := owns_slice hown6; have O6 := Lib.hid hown6; have HL := Lib.hid (OW.out.lt); have B6 := Lib.hid (BW.out.grown hg6 hsz (fun g e => (HL.out g e).1)); clear hown6 hg6 hob6)
      go_roundw
      case rel =>
        refine ⟨k + 1, A6, c6, by omega, by go_num, rfl, ?_, B6.out⟩
        have := O6.out
        rw [← ints_app] at this
        rw [SK.out]
        exact this
      case measure => simp [intOf]; omega
    · obtain rfl : k = m := by omega
      have FO := Lib.hid (owns_base OW.out B.out.size)
      have FB := Lib.hid (B.out.trans (BW.out.mono B.out.size))
      go_wp2_with fail
      refine (MA.out _).mono ?_
      rintro e w2 ⟨rfl, hb⟩
      have FO := Lib.hid (owns_below FO.out hb)
      have FB := Lib.hid (FB.out.trans (hb.mono FB.out.size))
      clear hb c0 c1 c2 c3 c4 c5 d0 d1
      go_wp2
      go_ret
      exact ⟨A', c', by rw [HFL.out]; rfl, by rw [HFL.out]; exact FO.out, FB.out⟩

set_option maxHeartbeats 6400000 in
theorem rread13_any (P T A M W Q p : Int) (D : Option Addr) (nd cd : Nat) (D' : Option Addr) (nd' cd' : Nat) (S : List Sec) (C : List Pnd) (w : World) (hq : Dsk w D nd cd D' nd' cd' S C) (hs : SmallD S C) :
    Calls Try.prog 19 #[cfgV P T A M W Q, diskV D nd cd D' nd' cd', .int .i64 p] w (RowOut .u8 5 w (mkB P T A M W Q S C p) (mkE P T A M W Q S C p)) := by
  obtain ⟨x, hbel⟩ := TBox.new P T A M W Q hq
  obtain ⟨w1, hw1⟩ : ∃ x : World, x = (w.alloc (.cells #[.int .i64 P, .int .i64 T, .int .i64 A, .int .i64 M, .int .i64 W, .int .i64 Q] 27)).alloc (.cells #[.slice D nd cd, .slice D' nd' cd'] 37) := ⟨_, rfl⟩
  rw [← hw1] at x hbel
  have X := Lib.hid x
  have B := Lib.hid hbel
  have MY := Lib.hid (fun wx hx => rmayT_any P T A M W Q D nd cd D' nd' cd' S C wx hx hs)
  obtain ⟨c0, c1, c2, c3, c4, c5, d0, d1⟩ := x.cells
  unfold mkB mkE
  by_cases ht : mayT P T A M W Q S C
  · rw [decide_eq_true ht] at MY
    rw [if_pos ht]
    by_cases hp : 0 ≤ p ∧ p < P
    · rw [if_pos hp, if_pos rfl]
      have MK := Lib.hid (fun wx hx => rmarks_any P T A M W Q p D nd cd D' nd' cd' S C wx hx hs ht hp)
      obtain ⟨L, hL⟩ : ∃ L, L = mkL T A S C p (pagC T).toNat := ⟨_, rfl⟩
      rw [← hL] at MK ⊢
      obtain ⟨m, hm⟩ : ∃ m, m = L.length := ⟨_, rfl⟩
      have HM := Lib.hid hm.symm
      have h1 : decide (p < 0) = false := decide_eq_false (by omega)
      have h2 : decide (P ≤ p) = false := decide_eq_false (by omega)
      have h3 : ¬ p < 0 := by omega
      have h4 : ¬ P ≤ p := by omega
      clear hq hs ht hp x hbel hL hm
      go_enter Try.func19, Try.ntmps19
      go_wp2_with fail
      rw [← hw1]
      clear hw1
      refine (MY.out _ X.out.dsk.dsk).mono ?_
      rintro e w2 ⟨rfl, hb⟩
      have B := Lib.hid (B.out.trans (hb.mono B.out.size))
      have X := Lib.hid (X.out.below hb)
      clear hb c0 c1 c2 c3 c4 c5 d0 d1 MY
      obtain ⟨c0, c1, c2, c3, c4, c5, d0, d1⟩ := X.out.cells
      go_wp2_with fail
      refine (MK.out _ X.out.dsk.dsk).mono ?_
      intro e w3 hout
      obtain ⟨A3, r3, rfl, hown, hb⟩ := hout.len rfl HM.out
      have O := Lib.hid (owns_base hown B.out.size)
      have B := Lib.hid (B.out.trans (hb.mono B.out.size))
      clear hb hown hout c0 c1 c2 c3 c4 c5 d0 d1 MK
      go_wp2
      go_ret2
      exact ⟨A3, r3, by rw [HM.out]; rfl, by rw [HM.out]; exact O.out, B.out⟩
    · rw [if_neg hp, if_neg (by decide)]
      by_cases h0 : p < 0
      · have h1 : decide (p < 0) = true := decide_eq_true h0
        clear hq hs ht hp x hbel
        go_enter Try.func19, Try.ntmps19
        go_wp2_with fail
        rw [← hw1]
        clear hw1
        refine (MY.out _ X.out.dsk.dsk).mono ?_
        rintro e w2 ⟨rfl, hb⟩
        have B := Lib.hid (B.out.trans (hb.mono B.out.size))
        have X := Lib.hid (X.out.below hb)
        clear hb c0 c1 c2 c3 c4 c5 d0 d1 MY
        obtain ⟨c0, c1, c2, c3, c4, c5, d0, d1⟩ := X.out.cells
        go_wp2
        go_ret2
        exact ⟨none, 0, rfl, World.ownsRow_nil _ _ _ _, B.out⟩
      · have h1 : decide (p < 0) = false := decide_eq_false h0
        have h2 : P ≤ p := by omega
        have h3 : decide (P ≤ p) = true := decide_eq_true h2
        clear hq hs ht hp x hbel
        go_enter Try.func19, Try.ntmps19
        go_wp2_with fail
        rw [← hw1]
        clear hw1
        refine (MY.out _ X.out.dsk.dsk).mono ?_
        rintro e w2 ⟨rfl, hb⟩
        have B := Lib.hid (B.out.trans (hb.mono B.out.size))
        have X := Lib.hid (X.out.below hb)
        clear hb c0 c1 c2 c3 c4 c5 d0 d1 MY
        obtain ⟨c0, c1, c2, c3, c4, c5, d0, d1⟩ := X.out.cells
        go_wp2
        go_ret2
        exact ⟨none, 0, rfl, World.ownsRow_nil _ _ _ _, B.out⟩
  · rw [decide_eq_false ht] at MY
    rw [if_neg ht, if_neg (by decide)]
    clear hq hs ht x hbel
    go_enter Try.func19, Try.ntmps19
    go_wp2_with fail
    rw [← hw1]
    clear hw1
    refine (MY.out _ X.out.dsk.dsk).mono ?_
    rintro e w2 ⟨rfl, hb⟩
    have B := Lib.hid (B.out.trans (hb.mono B.out.size))
    clear hb c0 c1 c2 c3 c4 c5 d0 d1 MY
    go_wp2
    go_ret2
    exact ⟨none, 0, rfl, World.ownsRow_nil _ _ _ _, B.out⟩

end Go.Proofs.Ytiibmlbenamgcaa
