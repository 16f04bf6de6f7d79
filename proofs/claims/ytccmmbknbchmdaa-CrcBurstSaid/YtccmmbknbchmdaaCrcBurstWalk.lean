/- Layer 2, CrcBurst, the stage's theorem: the walk: a sealed text, some of whose bits are turned, all within 32 in a row, is none. -/
import Derived.Test.YtccmmbknbchmdaaCrcL
import Derived.Test.YtccmmbknbchmdaaCrcG
import Derived.Test.YtccmmbknbchmdaaBase2
import Derived.Test.YtccmmbknbchmdaaCrcBackWalk
import Derived.Test.YtccmmbknbchmdaaCrcSumsWalk
namespace Go.Proofs.Ytccmmbknbchmdaa
open Go.RowKit Go.OpenShut
set_option linter.unusedVariables false

theorem pow_more {m k : Nat} (h : m < 2 ^ k) : m + 2 ^ k < 2 ^ (k + 1) := by rw [Nat.pow_succ]; omega
theorem pow_same {m k : Nat} (h : m < 2 ^ k) : m < 2 ^ (k + 1) := by rw [Nat.pow_succ]; omega
theorem turn_byte (v r : Nat) (hv : v < 256) (hr : r < 8) : bits .xor .u8 (v : Int) (2 ^ r % 256) = ((v ^^^ 2 ^ r : Nat) : Int) := by
  have hp : 2 ^ r < 2 ^ 8 := Nat.pow_lt_pow_right (by omega) hr
  obtain ⟨z, hz⟩ : ∃ z, z = 2 ^ r := ⟨_, rfl⟩
  have e1 : ((2 : Int) ^ r) = (z : Int) := by rw [hz, Int.natCast_pow]; rfl
  rw [← hz] at hp ⊢
  rw [e1, show ((z : Int) % 256) = z from by omega]
  exact u8_xor_nat v z hv hp

set_option maxRecDepth 100000 in
set_option maxHeartbeats 3200000 in
theorem walk_CrcBurst (a0 : Option Addr) (len0 cap0 : Nat) (z0 : List Int) (a1 : Int) (a2 : Int) (w : World) (w0 : IsRow .u8 w a0 len0 cap0 z0) (w1 : (Lit.int .i64 a1).wf = true) (w2 : (Lit.int .u32 a2).wf = true) :
    Calls Try.prog 8 #[.slice a0 len0 cap0, .int .i64 a1, .int .u32 a2] w fun e w' => e = .returned (.bool true) ∧ Below w.heap.size w w' := by
  obtain ⟨b, hb, hbw⟩ := w0.arg
  obtain ⟨mask, rfl, hmask⟩ := wf_u32 w2
  have hi64 := bounds_i64 w1
  have HBW := Lib.hid (fun z hz => wf_byte (hbw z hz))
  have HB := Lib.hid hb
  clear hb hbw w0 w1 w2
  have AL := Lib.hid (alive_any w)
  by_cases g0 : 2000 < len0
  · go_enter Try.func8, Try.ntmps8
    go_wp2_with fail
    refine AL.out.mono ?_
    rintro e w1 ⟨rfl, hb1⟩
    go_wp2
    go_ret
    exact ⟨rfl, hb1⟩
  have hlb : b.length ≤ 4096 := by have := HB.out.len; omega
  go_enter Try.func8, Try.ntmps8
  go_wp2_with fail
  refine AL.out.mono ?_
  rintro e w1 ⟨rfl, hb1⟩
  have B1 := Lib.hid hb1
  have hse := seal_gen a0 len0 cap0 b w1 (HB.out.below hb1) HBW.out
  rw [seE_small hlb, seB_small hlb] at hse
  have SE := Lib.hid hse
  clear hb1 AL hse
  go_wp2_with fail
  refine SE.out.mono ?_
  intro e w2 hout
  obtain ⟨A2, c2, rfl, hown, hbel⟩ := hout.len rfl (show (sealed b).length = len0 + 4 by rw [sealed_length, HB.out.len])
  have O2 := Lib.hid hown
  have B2 := Lib.hid (B1.out.trans (hbel.mono B1.out.size))
  clear hown hbel hout SE
  by_cases h0 : a1 < 0
  · go_wp2
    go_ret
    exact ⟨rfl, B2.out⟩
  by_cases h1 : 8 * ((len0 : Int) + 4) ≤ a1
  · go_wp2
    go_ret
    exact ⟨rfl, B2.out⟩
  obtain ⟨p, rfl⟩ : ∃ p : Nat, a1 = p := ⟨a1.toNat, by omega⟩
  have HSL := Lib.hid (show (sealed b).length = len0 + 4 by rw [sealed_length, HB.out.len])
  go_wp2_with fail
  go_loopw [10, 11] (fun tu i wr => ∃ k : Nat, k ≤ 32 ∧ i = .int .i64 k ∧ ∃ (m : Nat) (tl : List Int), Hid (m < 2 ^ k) ∧ tu = .bool (m != 0) ∧ Turned (sealed b) tl p m ∧ wr.ownsRow w1.heap.size 5 1 (.slice A2 (len0 + 4) c2) (len0 + 4) (ints .u8 tl) ∧ Below w.heap.size w wr) (fun _ i _ => 32 - (intOf i).toNat)
  case atStart => exact ⟨0, Nat.zero_le _, rfl, 0, sealed b, Lib.hid (by decide), rfl, Turned.start (sealed_byte HBW.out) p, O2.out, B2.out⟩
  case round =>
    obtain ⟨k, hk, rfl, m, tl, hm, rfl, htu, hown, hbel⟩ := hrel
    have TU := Lib.hid htu
    have OW := Lib.hid hown
    have BE := Lib.hid hbel
    clear htu hown hbel
    by_cases hkn : k < 32
    · have hq : (mask : Int) / 2 ^ k = ((mask / 2 ^ k : Nat) : Int) := by rw [Int.natCast_ediv, Int.natCast_pow]; rfl
      obtain ⟨q, hqe⟩ : ∃ q, q = mask / 2 ^ k := ⟨_, rfl⟩
      rw [← hqe] at hq
      clear hqe
      by_cases hbit : q % 2 = 1
      · have hbb : ((q : Int) % 2 == 1) = true := by rw [beq_iff_eq]; omega
        clear hbit
        by_cases hin : p + k < 8 * (len0 + 4)
        · have hlt : (p : Int) < 8 * ((len0 : Int) + 4) - k := by omega
          have htl : tl.length = len0 + 4 := by rw [TU.out.1, HSL.out]
          obtain ⟨g, rfl, hbg, hc, hf, hset⟩ := owns_int_at OW.out (j := (p + k) / 8) (by omega)
          rw [byt_cast TU.out.2.1 (by omega)] at hc
          have hvb := byt_lt TU.out.2.1 ((p + k) / 8)
          have htn := TU.out.turn hm.out (by rw [HSL.out]; exact hin)
          have hst := hset ((byt tl ((p + k) / 8) ^^^ 2 ^ ((p + k) % 8) : Nat) : Int)
          have hbl : Below w.heap.size w (wr.setCell ⟨g, (p + k) / 8, none⟩ (.int .u8 ((byt tl ((p + k) / 8) ^^^ 2 ^ ((p + k) % 8) : Nat) : Int))) := BE.out.setCell (by show w.heap.size ≤ g; have := B1.out.size; omega) _
          have hj : ((p : Int) + k) / 8 = (((p + k) / 8 : Nat) : Int) := by omega
          have hr : ((p : Int) + k) % 8 = (((p + k) % 8 : Nat) : Int) := by omega
          have hr8 : (p + k) % 8 < 8 := by omega
          have hj2 : (p + k) / 8 < len0 + 4 := by omega
          have hj3 := Lib.hid hj2
          obtain ⟨j, hje⟩ : ∃ j, j = (p + k) / 8 := ⟨_, rfl⟩
          obtain ⟨r, hre⟩ : ∃ r, r = (p + k) % 8 := ⟨_, rfl⟩
          obtain ⟨v, hve⟩ : ∃ v, v = byt tl j := ⟨_, rfl⟩
          rw [← hje] at hc hf hvb htn hst hbl hj hj2
          rw [← hre] at htn hst hbl hr hr8
          rw [← hve] at hc hvb htn hst hbl
          have HST := Lib.hid hst
          have HTN := Lib.hid htn
          have HBL := Lib.hid hbl
          have hxo := turn_byte v r hvb hr8
          have HXO := Lib.hid hxo
          clear hst htn hbl hset hje hre hve htl hxo
          go_wp2
          go_roundw
          case rel =>
            rw [HXO.out]
            refine ⟨k + 1, by omega, by go_num, m + 2 ^ k, _, Lib.hid (pow_more hm.out), ?_, HTN.out, HST.out, HBL.out⟩
            rw [bne_iff_ne.2 (by have : 0 < 2 ^ k := Nat.two_pow_pos k; omega)]
          case measure => simp [intOf]; omega
        · have hlt : ¬ (p : Int) < 8 * ((len0 : Int) + 4) - k := by omega
          go_wp2
          go_roundw
          case rel => exact ⟨k + 1, by omega, by go_num, m, tl, Lib.hid (pow_same hm.out), rfl, TU.out, OW.out, BE.out⟩
          case measure => simp [intOf]; omega
      · have hbb : ((q : Int) % 2 == 1) = false := by rw [beq_eq_false_iff_ne]; omega
        clear hbit
        go_wp2
        go_roundw
        case rel => exact ⟨k + 1, by omega, by go_num, m, tl, Lib.hid (pow_same hm.out), rfl, TU.out, OW.out, BE.out⟩
        case measure => simp [intOf]; omega
    · obtain rfl : k = 32 := by omega
      have htl : tl.length = len0 + 4 := by rw [TU.out.1, HSL.out]
      have hop := open_gen A2 _ c2 tl wr (Arg.own OW.out) TU.out.2.1
      rw [TU.out.tells HBW.out hlb hm.out] at hop
      by_cases hm0 : m = 0
      · rw [if_pos hm0] at hop
        have OP := Lib.hid hop
        have hmb : (m != 0) = false := by rw [hm0]; rfl
        clear hop hm0 htl
        go_wp2_with fail
        refine OP.out.mono ?_
        rintro e w4 ⟨A4, c4, rfl, hown, hbel⟩
        have B4 := Lib.hid (BE.out.trans (hbel.mono BE.out.size))
        clear hown hbel OP
        go_wp2
        go_ret
        exact ⟨rfl, B4.out⟩
      · rw [if_neg hm0] at hop
        have OP := Lib.hid hop
        have hmb : (m != 0) = true := by rw [bne_iff_ne]; exact hm0
        clear hop hm0 htl
        go_wp2_with fail
        refine OP.out.mono ?_
        rintro e w4 ⟨A4, c4, rfl, hown, hbel⟩
        have B4 := Lib.hid (BE.out.trans (hbel.mono BE.out.size))
        clear hown hbel OP
        go_wp2
        go_ret
        exact ⟨rfl, B4.out⟩

end Go.Proofs.Ytccmmbknbchmdaa
