/- Layer 6, CellReads: the walk. -/
import Derived.Test.YteinfkjlcpfeiaaCellRj
import Derived.Test.YteinfkjlcpfeiaaCellA4
namespace Go.Proofs.Yteinfkjlcpfeiaa
open Go.RowKit
set_option linter.unusedVariables false

set_option maxRecDepth 100000 in
set_option maxHeartbeats 12800000 in
theorem creads_of (a0 : Option Addr) (len0 cap0 : Nat) (b0 : Option Addr) (len1 cap1 : Nat) (S : List Sec) (C : List Pnd) (at_ wd : Int) (w : World) (w0 : Dsk w a0 len0 cap0 b0 len1 cap1 S C) :
    Calls Try.prog 9 #[diskV a0 len0 cap0 b0 len1 cap1, .int .i64 at_, .int .i64 wd] w fun e w' => e = .returned (.bool true) ∧ Below w.heap.size w w' := by
  have hbel : Below w.heap.size w (w.alloc (.cells #[.slice a0 len0 cap0, .slice b0 len1 cap1] 25)) := (Below.refl _ _).alloc (Nat.le_refl _) _
  have X := Lib.hid (DBox.new w0)
  have B := Lib.hid hbel
  have gg := fun w hx => great_any a0 len0 cap0 b0 len1 cap1 S C 60 w hx
  obtain ⟨c0, c1⟩ := X.out.cells
  clear w0 hbel
  cases hg1 : greatD S C 60 with
  | true =>
    rw [hg1] at gg
    have GG := Lib.hid gg
    clear gg hg1
    go_enter Try.func9, Try.ntmps9
    go_wp2_with fail
    refine (GG.out _ X.out.dsk).mono ?_
    rintro e w1 ⟨rfl, hb⟩
    have B := Lib.hid (B.out.trans (hb.mono B.out.size))
    clear hb c0 c1
    go_wp2
    go_ret
    exact ⟨rfl, B.out⟩
  | false =>
    rw [hg1] at gg
    have GG := Lib.hid gg
    have SZ := Lib.hid (small_ofD (by decide) (by decide) hg1)
    clear gg hg1
    have TW := Lib.hid (fun wx hx => twin_any a0 len0 cap0 b0 len1 cap1 S C wx hx SZ.out)
    have RD := Lib.hid (fun A c A' c' wx (hx : Dsk wx A len0 c A' len1 c' S C) => cread_any A len0 c A' len1 c' S C at_ wd wx hx SZ.out)
    have RR := Lib.hid (fun wx hx => rread6_any a0 len0 cap0 b0 len1 cap1 S C at_ wd wx hx SZ.out)
    have SY := Lib.hid (fun A c A' c' wx (hx : Dsk wx A len0 c A' len1 c' S C) hy => same_yes A len0 c A' len1 c' S C a0 len0 cap0 b0 len1 cap1 wx hx hy)
    obtain ⟨v1, hv1⟩ : ∃ v, v = crV S C at_ wd := ⟨_, rfl⟩
    obtain ⟨E1, hE1⟩ : ∃ v, v = crE S C at_ wd := ⟨_, rfl⟩
    obtain ⟨b1, hb1⟩ : ∃ v, v = crB S C at_ wd := ⟨_, rfl⟩
    rw [← hv1, ← hE1, ← hb1] at RD RR
    clear hv1 hE1 hb1
    unfold CRead at RD RR
    go_enter Try.func9, Try.ntmps9
    go_wp2_with fail
    refine (GG.out _ X.out.dsk).mono ?_
    rintro e w1 ⟨rfl, hb⟩
    have B := Lib.hid (B.out.trans (hb.mono B.out.size))
    have X := Lib.hid (X.out.below hb)
    clear hb c0 c1 GG
    obtain ⟨c0, c1⟩ := X.out.cells
    go_wp2_with fail
    refine (TW.out _ X.out.dsk).mono ?_
    rintro e w2 ⟨A2, c2, A2', c2', rfl, hown, hb⟩
    have hkA : Below w2.heap.size w2 (w2.alloc (.cells #[.slice A2 len0 c2, .slice A2' len1 c2'] 25)) := (Below.refl _ _).alloc (Nat.le_refl _) _
    have hb3 := hb.trans (hkA.mono hb.size)
    have O := DBox.new (Dsk.of_own hown)
    have B := Lib.hid (B.out.trans (hb3.mono B.out.size))
    have X := Lib.hid (X.out.below hb3)
    clear hb hb3 hkA c0 c1 TW hown
    obtain ⟨G, hG⟩ : ∃ x, x = w2.heap.size := ⟨_, rfl⟩
    go_upto_region 4 with fail
    rw [← hG] at O ⊢
    obtain ⟨w3, hW⟩ : ∃ x : World, x = w2.alloc (.cells #[.slice A2 len0 c2, .slice A2' len1 c2'] 25) := ⟨_, rfl⟩
    rw [← hW] at O X B ⊢
    clear hW hG
    have O := Lib.hid O
    obtain ⟨d0, d1⟩ := O.out.cells
    go_wp2_with fail
    refine (RD.out A2 c2 A2' c2' w3 O.out.dsk).mono ?_
    rintro e w4 ⟨AR, cR, rfl, hown, hb⟩
    have R := Lib.hid hown
    have H4 := Lib.hid hb
    clear hown hb d0 d1 RD
    obtain ⟨c0, c1⟩ := (X.out.below H4.out).cells
    go_wp2_with fail
    refine (RR.out w4 (X.out.below H4.out).dsk).mono ?_
    rintro e w5 ⟨AS, cS, rfl, hown, hb⟩
    have es1 := str_arg (Arg.own (owns_below R.out hb))
    have es2 := str_arg (Arg.own hown)
    have R := Lib.hid (owns_below R.out hb)
    have H5 := Lib.hid (H4.out.trans (hb.mono H4.out.size))
    have hst : ((strOfNums b1).toList == (strOfNums b1).toList) = true := beq_self_eq_true _
    obtain ⟨L, hL⟩ : ∃ L, L = b1.length := ⟨_, rfl⟩
    rw [← hL] at R es1 es2 ⊢
    have HL := Lib.hid hL
    clear hown hb c0 c1 RR hL
    have hmx := Nat.le_trans (Arg.own R.out).cap (Arg.own R.out).max
    unfold maxLen at hmx
    go_upto_region 7 with fail
    clear es1 es2
    go_wp2
    go_loopw [15] (fun i wr => ∃ (k : Nat) (xs : List Int), k ≤ L ∧ i = .int .i64 k ∧ wr.ownsRow w3.heap.size 5 1 (.slice AR L cR) L (ints .u8 xs) ∧ Below w3.heap.size w3 wr) (fun i _ => L - (intOf i).toNat)
    case atStart => exact ⟨0, b1, Nat.zero_le _, rfl, R.out, H5.out⟩
    case round =>
      obtain ⟨k, xs, hk, rfl, hr, hb⟩ := hrel
      by_cases hkL : k < L
      · have hki : (k : Int) < (L : Int) := by omega
        obtain ⟨g, rfl, hbg, hc, hf, hset⟩ := owns_int_at hr hkL
        obtain ⟨x, hx⟩ : ∃ x, x = xs.getD k 0 := ⟨_, rfl⟩
        rw [← hx] at hc
        obtain ⟨y, hy⟩ : ∃ y, IntKind.u8.wrap (x + 1) = y := ⟨_, rfl⟩
        have HS := Lib.hid (hset y)
        have HB := Lib.hid (hb.setCell (p := ⟨g, k, none⟩) hbg (.int .u8 y))
        have HR := Lib.hid hr
        clear hr hb hset hx
        go_wp2
        go_roundw
        case rel => exact ⟨k + 1, xs.set k y, by omega, by go_num, HS.out, HB.out⟩
        case measure => simp [intOf]; omega
      · obtain rfl : k = L := by omega
        have HB := Lib.hid hb
        have O6 := Lib.hid (O.out.below hb)
        have X6 := Lib.hid (X.out.below hb)
        obtain ⟨c0, c1⟩ := X6.out.cells
        obtain ⟨d0, d1⟩ := O6.out.cells
        clear hr hb
        go_wp2_with fail
        refine (SY.out A2 c2 A2' c2' _ O6.out.dsk X6.out.dsk).mono ?_
        rintro e w7 ⟨rfl, hb⟩
        have B := Lib.hid (B.out.trans ((HB.out.trans (hb.mono HB.out.size)).mono B.out.size))
        clear hb c0 c1 d0 d1
        go_wp2
        go_ret
        exact ⟨rfl, B.out⟩

end Go.Proofs.Yteinfkjlcpfeiaa
