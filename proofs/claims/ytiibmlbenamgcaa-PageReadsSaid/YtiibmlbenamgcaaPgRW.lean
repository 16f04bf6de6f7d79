/- Layer 13, PageReads: the walk. -/
import Derived.Test.YtiibmlbenamgcaaPgP5
import Derived.Test.YtiibmlbenamgcaaPgR3
namespace Go.Proofs.Ytiibmlbenamgcaa
open Go.RowKit
set_option linter.unusedVariables false
set_option maxRecDepth 100000

set_option maxHeartbeats 12800000 in
theorem preads_of (P T A M W Q : Int) (D : Option Addr) (n c : Nat) (D' : Option Addr) (n' c' : Nat) (S : List Sec) (C : List Pnd) (p : Int) (w : World) (hq : Dsk w D n c D' n' c' S C) :
    Calls Try.prog 5 #[cfgV P T A M W Q, diskV D n c D' n' c', .int .i64 p] w fun e w' => e = .returned (.bool true) ∧ Below w.heap.size w w' := by
  obtain ⟨x, hbel⟩ := TBox.new P T A M W Q hq
  obtain ⟨w0, hw0⟩ : ∃ x : World, x = (w.alloc (.cells #[.int .i64 P, .int .i64 T, .int .i64 A, .int .i64 M, .int .i64 W, .int .i64 Q] 27)).alloc (.cells #[.slice D n c, .slice D' n' c'] 37) := ⟨_, rfl⟩
  rw [← hw0] at x hbel
  have X := Lib.hid x
  have B := Lib.hid hbel
  obtain ⟨c0, c1, c2, c3, c4, c5, d0, d1⟩ := x.cells
  have gg := fun w hx => great_any D n c D' n' c' S C 300 w hx
  clear x hbel hq
  cases hg1 : greatD S C 300 with
  | true =>
    rw [hg1] at gg
    have GG := Lib.hid gg
    clear gg hg1
    go_enter Try.func5, Try.ntmps5
    go_wp2_with fail
    rw [← hw0]
    clear hw0
    refine (GG.out _ X.out.dsk.dsk).mono ?_
    rintro e w1 ⟨rfl, hb⟩
    have B := Lib.hid (B.out.trans (hb.mono B.out.size))
    clear hb c0 c1 c2 c3 c4 c5 d0 d1
    go_wp2
    go_ret
    exact ⟨rfl, B.out⟩
  | false =>
  rw [hg1] at gg
  have GG := Lib.hid gg
  have SZ := Lib.hid (small_ofD (by decide) (by decide) hg1)
  clear gg hg1
  have TW := Lib.hid (fun wx hx => twin_any D n c D' n' c' S C wx hx SZ.out)
  have R1 := Lib.hid (fun A0 c0 A0' c0' wx (hx : Dsk wx A0 n c0 A0' n' c0' S C) => pgread_any P T A M W Q p A0 n c0 A0' n' c0' S C wx hx SZ.out)
  have R2 := Lib.hid (fun wx hx => rread13_any P T A M W Q p D n c D' n' c' S C wx hx SZ.out)
  have SY := Lib.hid (fun A0 c0 A0' c0' wx (hx : Dsk wx A0 n c0 A0' n' c0' S C) hy => same_yes A0 n c0 A0' n' c0' S C D n c D' n' c' wx hx hy)
  have hmb : (mkB P T A M W Q S C p).length ≤ 2 := by
    unfold mkB
    split
    · rw [mk_length]
      have := pagC_or T
      omega
    · exact Nat.zero_le _
  unfold RowOut at R1 R2
  obtain ⟨E, hE⟩ : ∃ v, v = mkE P T A M W Q S C p := ⟨_, rfl⟩
  obtain ⟨L, hL⟩ : ∃ v, v = mkB P T A M W Q S C p := ⟨_, rfl⟩
  rw [← hE, ← hL] at R1 R2
  rw [← hL] at hmb
  obtain ⟨m, hm⟩ : ∃ m, m = L.length := ⟨_, rfl⟩
  rw [← hm] at R1 R2 hmb
  have HM := Lib.hid hm.symm
  obtain ⟨s, hs⟩ : ∃ s, s = strOfNums L := ⟨_, rfl⟩
  have HS := Lib.hid hs
  have he : (E == E) = true := beq_self_eq_true _
  have hst : (s.toList == s.toList) = true := beq_self_eq_true _
  clear hE hL hm hs
  go_enter Try.func5, Try.ntmps5
  go_wp2_with fail
  rw [← hw0]
  clear hw0
  refine (GG.out _ X.out.dsk.dsk).mono ?_
  rintro e w1 ⟨rfl, hb⟩
  have B := Lib.hid (B.out.trans (hb.mono B.out.size))
  have X := Lib.hid (X.out.below hb)
  clear hb c0 c1 c2 c3 c4 c5 d0 d1 GG
  obtain ⟨c0, c1, c2, c3, c4, c5, d0, d1⟩ := X.out.cells
  go_wp2_with fail
  refine (TW.out _ X.out.dsk.dsk).mono ?_
  rintro e w2 ⟨A2, a2, A2', a2', rfl, hown, hb⟩
  have hbk : Below w2.heap.size w2 (w2.alloc (.cells #[.slice A2 n a2, .slice A2' n' a2'] 37)) := (Below.refl _ _).alloc (Nat.le_refl _) _
  have O := DBox.new (Dsk.of_own hown)
  have hb := hb.trans (hbk.mono hb.size)
  have B := Lib.hid (B.out.trans (hb.mono B.out.size))
  have X := Lib.hid (X.out.below hb)
  clear hb hbk hown c0 c1 c2 c3 c4 c5 d0 d1 TW
  go_upto_region 4 with fail
  obtain ⟨GO, hGO⟩ : ∃ x, x = w2.heap.size := ⟨_, rfl⟩
  rw [← hGO] at O ⊢
  obtain ⟨w3, hw3⟩ : ∃ x : World, x = w2.alloc (.cells #[.slice A2 n a2, .slice A2' n' a2'] 37) := ⟨_, rfl⟩
  rw [← hw3] at X O B ⊢
  have O := Lib.hid O
  clear hGO hw3
  obtain ⟨c0, c1, c2, c3, c4, c5, d0, d1⟩ := X.out.cells
  obtain ⟨o0, o1⟩ := O.out.cells
  go_wp2_with fail
  refine (R1.out _ _ _ _ _ O.out.dsk).mono ?_
  rintro e w4 ⟨A4, r4, rfl, hown, hb⟩
  have B4 := Lib.hid hb
  have R4 := Lib.hid hown
  have X4 := Lib.hid (X.out.below hb)
  clear hb hown c0 c1 c2 c3 c4 c5 d0 d1 o0 o1 R1
  obtain ⟨c0, c1, c2, c3, c4, c5, d0, d1⟩ := X4.out.cells
  go_wp2_with fail
  refine (R2.out _ X4.out.dsk.dsk).mono ?_
  rintro e w5 ⟨A5, r5, rfl, hown, hb⟩
  have q1 := str_arg (Arg.own (owns_below R4.out hb))
  have q2 := str_arg (Arg.own hown)
  rw [← HS.out] at q1 q2
  have R4 := Lib.hid (owns_below R4.out hb)
  have B4 := Lib.hid (B4.out.trans (hb.mono B4.out.size))
  clear hb hown c0 c1 c2 c3 c4 c5 d0 d1 R2 X4
  go_upto_region 7 with fail
  clear q1 q2
  go_wp2
  go_loopw [13] (fun i wr => ∃ (k : Nat) (l : List Int), k ≤ m ∧ i = .int .i64 k ∧ wr.ownsRow w3.heap.size 5 1 (.slice A4 m r4) m (ints .u8 l) ∧ Below w3.heap.size w3 wr) (fun i _ => m - (intOf i).toNat)
  case atStart => exact ⟨0, L, Nat.zero_le _, rfl, R4.out, B4.out⟩
  case round =>
    obtain ⟨k, l, hk, rfl, hown, hb⟩ := hrel
    have R := Lib.hid hown
    have BW := Lib.hid hb
    clear hown hb
    by_cases hkm : k < m
    · have hki : (k : Int) < (m : Int) := by omega
      have hwr2 : IntKind.i64.wrap (k : Int) = k := Lib.wrap_i64_small k (by omega)
      obtain ⟨g, rfl, hg, hc, hf, hset⟩ := owns_int_at R.out hkm
      obtain ⟨z, hz⟩ : ∃ z, z = l.getD k 0 := ⟨_, rfl⟩
      rw [← hz] at hc
      have SET := Lib.hid hset
      have HG := Lib.hid hg
      clear hset hz hg
      go_wp2
      go_roundw
      case rel => exact ⟨k + 1, l.set k _, by omega, by go_num, SET.out _, BW.out.setCell (p := ⟨g, k, none⟩) HG.out _⟩
      case measure => simp [intOf]; omega
    · obtain rfl : k = m := by omega
      have X := Lib.hid (X.out.below BW.out)
      have O := Lib.hid (O.out.below BW.out)
      have B := Lib.hid (B.out.trans (BW.out.mono B.out.size))
      obtain ⟨c0, c1, c2, c3, c4, c5, d0, d1⟩ := X.out.cells
      obtain ⟨o0, o1⟩ := O.out.cells
      go_wp2_with fail
      refine (SY.out _ _ _ _ _ O.out.dsk X.out.dsk.dsk).mono ?_
      rintro e w7 ⟨rfl, hb⟩
      have B := Lib.hid (B.out.trans (hb.mono B.out.size))
      clear hb c0 c1 c2 c3 c4 c5 d0 d1 o0 o1
      go_wp2
      go_ret
      exact ⟨rfl, B.out⟩

end Go.Proofs.Ytiibmlbenamgcaa
