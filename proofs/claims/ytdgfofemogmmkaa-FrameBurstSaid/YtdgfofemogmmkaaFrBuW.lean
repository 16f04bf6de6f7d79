/- Layer 15, FrameBurst, the stage's theorem: the walk, told of what the program's calls do. -/
import Derived.Test.YtdgfofemogmmkaaFrA
namespace Go.Proofs.Ytdgfofemogmmkaa
open Go.RowKit Go.OpenShut
set_option linter.unusedVariables false
set_option maxRecDepth 100000

theorem pow_more15 {m k : Nat} (h : m < 2 ^ k) : m + 2 ^ k < 2 ^ (k + 1) := by rw [Nat.pow_succ]; omega
theorem pow_same15 {m k : Nat} (h : m < 2 ^ k) : m < 2 ^ (k + 1) := by rw [Nat.pow_succ]; omega
theorem turn_byte15 (v r : Nat) (hv : v < 256) (hr : r < 8) : bits .xor .u8 (v : Int) (2 ^ r % 256) = ((v ^^^ 2 ^ r : Nat) : Int) := by
  have hp : 2 ^ r < 2 ^ 8 := Nat.pow_lt_pow_right (by omega) hr
  obtain ⟨z, hz⟩ : ∃ z, z = 2 ^ r := ⟨_, rfl⟩
  have e1 : ((2 : Int) ^ r) = (z : Int) := by rw [hz, Int.natCast_pow]; rfl
  rw [← hz] at hp ⊢
  rw [e1, show ((z : Int) % 256) = z from by omega]
  exact u8_xor_nat v z hv hp

set_option maxHeartbeats 6400000 in
theorem fburst_of (FD : FrameDoes) (a b c d : Int) (A : Option Addr) (n k : Nat) (z : List Int) (a1 : Int) (mask : Nat) (w : World) (h : Arg w .u8 A n k z) (hz : ∀ x ∈ z, isByte x) (va : isV a) (vb : isV b) (vc : isV c) (vd : isV d) (hi64 : -9223372036854775808 ≤ a1 ∧ a1 ≤ 9223372036854775807) (hmask : mask < 4294967296) :
    Calls Try.prog 6 #[frmV a b c d A n k, .int .i64 a1, .int .u32 (mask : Int)] w fun e w' => e = .returned (.bool true) ∧ Below w.heap.size w w' := by
  obtain ⟨x, hbel⟩ := box_frm w a b c d A n k
  obtain ⟨w1, hw1⟩ : ∃ x : World, x = w.alloc (.cells #[.int .u32 a, .int .u32 b, .int .u32 c, .int .u32 d, .slice A n k] 25) := ⟨_, rfl⟩
  rw [← hw1] at x hbel
  have X := Lib.hid x
  have B := Lib.hid hbel
  have AL := Lib.hid (alive15_any FD w1)
  have WR := Lib.hid (fun wx (hx : Below w.heap.size w wx) => FD.write a b c d A n k z wx (h.below hx) hz va vb vc vd)
  have RD := Lib.hid FD.read
  have hln := h.len
  have HF := Lib.hid (show isF (a, b, c, d, z) from ⟨va, vb, vc, vd, hz⟩)
  have HL := Lib.hid (show (frT (a, b, c, d, z)).length = n + 20 by rw [frT_length]; show 20 + z.length = _; omega)
  clear x hbel h hz va vb vc vd
  by_cases hm : mayF (a, b, c, d, z)
  rotate_left
  · rw [(frB_no hm).1, (frB_no hm).2] at WR
    clear hm HL HF RD hln
    go_enter Try.func6, Try.ntmps6
    go_wp2_with fail
    rw [← hw1]
    clear hw1
    refine AL.out.mono ?_
    rintro e w2 ⟨rfl, hb⟩
    have B := Lib.hid (B.out.trans (hb.mono B.out.size))
    have X := Lib.hid (X.out.below hb X.out.lt)
    clear hb AL
    obtain ⟨c0, c1, c2, c3, c4⟩ := X.out.frm
    go_wp2_with fail
    refine (WR.out _ B.out).mono ?_
    rintro e w3 ⟨A3, k3, rfl, _, hb⟩
    have B := Lib.hid (B.out.trans (hb.mono B.out.size))
    have X := Lib.hid (X.out.below hb X.out.lt)
    clear hb WR c0 c1 c2 c3 c4
    obtain ⟨c0, c1, c2, c3, c4⟩ := X.out.frm
    by_cases hn : (200 : Int) < (n : Int)
    · go_wp2
      go_ret
      exact ⟨rfl, B.out⟩
    · go_wp2
      go_ret
      exact ⟨rfl, B.out⟩
  have hn64 : n ≤ 64 := by rw [← hln]; exact few_frame hm
  rw [(frB_yes hm).1, (frB_yes hm).2] at WR
  have BU := Lib.hid (fun (t : List Int) (p m : Nat) (ht : Turned (frT (a, b, c, d, z)) t p m) (hw : isW m) => fr_burst HF.out hm ht hw)
  have TB := Lib.hid (frT_byte HF.out)
  obtain ⟨T0, hT0⟩ : ∃ y, y = frT (a, b, c, d, z) := ⟨_, rfl⟩
  rw [← hT0] at WR HL BU TB
  have HSL := Lib.hid HL.out
  have hn200 : ¬ (200 : Int) < (n : Int) := by omega
  clear hm HF hln hT0
  go_enter Try.func6, Try.ntmps6
  go_wp2_with fail
  rw [← hw1]
  clear hw1
  refine AL.out.mono ?_
  rintro e w2 ⟨rfl, hb⟩
  have B1 := Lib.hid (B.out.trans (hb.mono B.out.size))
  have X := Lib.hid (X.out.below hb X.out.lt)
  clear hb AL B
  obtain ⟨c0, c1, c2, c3, c4⟩ := X.out.frm
  go_wp2_with fail
  refine (WR.out _ B1.out).mono ?_
  intro e w3 hout
  obtain ⟨A2, k2, rfl, hown, hb⟩ := hout.len rfl HL.out
  have O2 := Lib.hid hown
  have B2 := Lib.hid (B1.out.trans (hb.mono B1.out.size))
  have X := Lib.hid (X.out.below hb X.out.lt)
  clear hout hown hb WR c0 c1 c2 c3 c4
  obtain ⟨c0, c1, c2, c3, c4⟩ := X.out.frm
  by_cases h0 : a1 < 0
  · go_wp2
    go_ret
    exact ⟨rfl, B2.out⟩
  by_cases h1 : 8 * ((n : Int) + 20) ≤ a1
  · go_wp2
    go_ret
    exact ⟨rfl, B2.out⟩
  obtain ⟨p, rfl⟩ : ∃ p : Nat, a1 = p := ⟨a1.toNat, by omega⟩
  go_wp2_with fail
  clear c0 c1 c2 c3 c4
  go_loopw [10, 11] (fun tu i wr => ∃ k : Nat, k ≤ 32 ∧ i = .int .i64 k ∧ ∃ (m : Nat) (tl : List Int), Hid (m < 2 ^ k) ∧ tu = .bool (m != 0) ∧ Turned T0 tl p m ∧ wr.ownsRow w2.heap.size 5 1 (.slice A2 (n + 20) k2) (n + 20) (ints .u8 tl) ∧ Below w.heap.size w wr) (fun _ i _ => 32 - (intOf i).toNat)
  case atStart => exact ⟨0, Nat.zero_le _, rfl, 0, T0, Lib.hid (by decide), rfl, Turned.start TB.out p, O2.out, B2.out⟩
  case round =>
    obtain ⟨k, hk, rfl, m, tl, hm, rfl, htu, hown, hbel⟩ := hrel
    have TU := Lib.hid htu
    have OW := Lib.hid hown
    have BE := Lib.hid hbel
    clear htu hown hbel
    by_cases hkn : k < 32
    · have hq : (mask : Int) / 2 ^ k = ((mask / 2 ^ k : Nat) : Int) := by rw [Int.natCast_ediv, Int.natCast_pow]; rfl
      obtain ⟨q, hqe⟩ : ∃ q, q = mask / 2 ^ k := ⟨_, rfl⟩
      rw [← hqe] at hq
      clear hqe
      by_cases hbit : q % 2 = 1
      · have hbb : ((q : Int) % 2 == 1) = true := by rw [beq_iff_eq]; omega
        clear hbit
        by_cases hin : p + k < 8 * (n + 20)
        · have hlt : (p : Int) < 8 * ((n : Int) + 20) - k := by omega
          have htl : tl.length = n + 20 := by rw [TU.out.1, HSL.out]
          obtain ⟨g, rfl, hbg, hc, hf, hset⟩ := owns_int_at OW.out (j := (p + k) / 8) (by omega)
          rw [byt_cast TU.out.2.1 (by omega)] at hc
          have hvb := byt_lt TU.out.2.1 ((p + k) / 8)
          have htn := TU.out.turn hm.out (by rw [HSL.out]; exact hin)
          have hst := hset ((byt tl ((p + k) / 8) ^^^ 2 ^ ((p + k) % 8) : Nat) : Int)
          have hbl : Below w.heap.size w (wr.setCell ⟨g, (p + k) / 8, none⟩ (.int .u8 ((byt tl ((p + k) / 8) ^^^ 2 ^ ((p + k) % 8) : Nat) : Int))) := BE.out.setCell (by show w.heap.size ≤ g; have := B1.out.size; omega) _
          have hj : ((p : Int) + k) / 8 = (((p + k) / 8 : Nat) : Int) := by omega
          have hr : ((p : Int) + k) % 8 = (((p + k) % 8 : Nat) : Int) := by omega
          have hr8 : (p + k) % 8 < 8 := by omega
          have hj2 : (p + k) / 8 < n + 20 := by omega
          have hj3 := Lib.hid hj2
          obtain ⟨j, hje⟩ : ∃ j, j = (p + k) / 8 := ⟨_, rfl⟩
          obtain ⟨r, hre⟩ : ∃ r, r = (p + k) % 8 := ⟨_, rfl⟩
          obtain ⟨v, hve⟩ : ∃ v, v = byt tl j := ⟨_, rfl⟩
          rw [← hje] at hc hf hvb htn hst hbl hj hj2
          rw [← hre] at htn hst hbl hr hr8
          rw [← hve] at hc hvb htn hst hbl
          have HST := Lib.hid hst
          have HTN := Lib.hid htn
          have HBL := Lib.hid hbl
          have hxo := turn_byte15 v r hvb hr8
          have HXO := Lib.hid hxo
          clear hst htn hbl hset hje hre hve htl hxo
          go_wp2
          go_roundw
          case rel =>
            rw [HXO.out]
            refine ⟨k + 1, by omega, by go_num, m + 2 ^ k, _, Lib.hid (pow_more15 hm.out), ?_, HTN.out, HST.out, HBL.out⟩
            rw [bne_iff_ne.2 (by have : 0 < 2 ^ k := Nat.two_pow_pos k; omega)]
          case measure => simp [intOf]; omega
        · have hlt : ¬ (p : Int) < 8 * ((n : Int) + 20) - k := by omega
          go_wp2
          go_roundw
          case rel => exact ⟨k + 1, by omega, by go_num, m, tl, Lib.hid (pow_same15 hm.out), rfl, TU.out, OW.out, BE.out⟩
          case measure => simp [intOf]; omega
      · have hbb : ((q : Int) % 2 == 1) = false := by rw [beq_eq_false_iff_ne]; omega
        clear hbit
        go_wp2
        go_roundw
        case rel => exact ⟨k + 1, by omega, by go_num, m, tl, Lib.hid (pow_same15 hm.out), rfl, TU.out, OW.out, BE.out⟩
        case measure => simp [intOf]; omega
    · obtain rfl : k = 32 := by omega
      have htl : tl.length = n + 20 := by rw [TU.out.1, HSL.out]
      have hop := RD.out A2 (n + 20) k2 tl wr (Arg.own OW.out) TU.out.2.1 (by omega)
      have hiff := BU.out tl p m TU.out (by have := hm.out; unfold isW; omega)
      obtain ⟨E, hE⟩ : ∃ E, E = fdE tl := ⟨_, rfl⟩
      obtain ⟨f, hf⟩ : ∃ f, f = fdV tl := ⟨_, rfl⟩
      rw [← hE] at hop hiff
      rw [← hf] at hop
      obtain ⟨f0, f1, f2, f3, f4⟩ := f
      unfold FrdOut at hop
      dsimp only at hop
      have hbq : ((E == 20) == (m != 0)) = true := by
        rw [beq_iff_eq, Bool.eq_iff_iff, beq_iff_eq, bne_iff_ne]
        exact hiff
      obtain ⟨r, hr⟩ : ∃ r, r = (m != 0) := ⟨_, rfl⟩
      rw [← hr] at hbq ⊢
      have OP := Lib.hid hop
      clear hop hE hf htl hiff hr
      go_wp2_with fail
      refine OP.out.mono ?_
      rintro e w5 ⟨A5, k5, rfl, _, hb⟩
      have B5 := Lib.hid (BE.out.trans ((hb.mono BE.out.size).trans (((Below.refl _ _).alloc (Nat.le_refl _) (.cells #[.int .u32 f0, .int .u32 f1, .int .u32 f2, .int .u32 f3, .slice A5 f4.length k5] 25)).mono (Nat.le_trans BE.out.size hb.size))))
      clear hb OP
      go_wp2
      go_ret
      exact ⟨rfl, B5.out⟩
end Go.Proofs.Ytdgfofemogmmkaa
