/- Layer 1: what the document's own Digits returns, in the words of NumMath. -/
/- Layer 1: what the document's own answers return: Number, Row, Write, Read, Same. -/
import Derived.Test.YtdgfofemogmmkaaBase3
import Derived.Test.YtdgfofemogmmkaaNumW
import Derived.StillTailTactics
import Derived.Deep.RegionWith
namespace Go.Proofs.Ytdgfofemogmmkaa
open Go.RowKit
set_option linter.unusedVariables false

theorem rword_info : (Try.prog.info? 56).map (fun i => (i.zero, i.size, i.bytes)) = some (some (.int .u64 0), 1, 8) := by kernel_rfl

/-- What Digits answers. -/
def DigOut (n : Nat) (v : Int) (w : World) (e : Ending) (w' : World) : Prop :=
  ∃ A c, e = .returned (.tuple #[.slice A n c, .bool (decide (v / 256 ^ n = 0))]) ∧ w'.ownsRow w.heap.size 5 1 (.slice A n c) n (ints .u8 (digs n v)) ∧ Below w.heap.size w w'

set_option maxHeartbeats 400000 in
theorem digits_any (n : Nat) (v : Int) (w : World) (hn : n ≤ 100) (h0 : 0 ≤ v) (h1 : v < 18446744073709551616) :
    Calls Try.prog 43 #[.int .u64 v, .int .i64 n] w (DigOut n v w) := by
  obtain ⟨i0, hi0, hz0, hz1, hz2⟩ := info_parts byte_info
  go_enter Try.func43, Try.ntmps43
  go_wp2
  go_loopw [0, 6, 7] (fun u out i wr => ∃ k : Nat, k ≤ n ∧ i = .int .i64 k ∧ u = .int .u64 (v / 256 ^ k) ∧ (∃ A c, out = .slice A k c) ∧ wr.ownsRow w.heap.size 5 1 out k (ints .u8 (digs k v)) ∧ Below w.heap.size w wr) (fun _ _ i _ => n - (intOf i).toNat)
  case atStart => exact ⟨0, Nat.zero_le _, rfl, by simp, ⟨_, _, rfl⟩, World.ownsRow_nil _ _ _ _, Below.refl _ _⟩
  case round =>
    obtain ⟨k, hk, rfl, rfl, ⟨A, c, rfl⟩, hown, hbel⟩ := hrel
    by_cases hkn : k < n
    · have hq : 0 ≤ v / 256 ^ k := Int.ediv_nonneg h0 (Int.le_of_lt (Int.pow_pos (by omega)))
      obtain ⟨q, hqe⟩ : ∃ q, q = v / 256 ^ k := ⟨_, rfl⟩
      rw [← hqe] at hq ⊢
      have hq2 : q < 18446744073709551616 := by
        have := Int.ediv_le_self (a := v) (256 ^ k) h0
        omega
      have HQ := Lib.hid hqe
      have HO := Lib.hid hown
      have HBL := Lib.hid hbel
      clear hqe hown hbel
      have hsz := HBL.out.size
      have hsrc := (Seq.own HO.out).alloc (Nat.le_refl _) (.cells #[.int .u8 (q % 256)] 5)
      have hlit := World.ownsRow_lit (base := w.heap.size) (e := 5) (size := 1) wr #[.int .u8 (q % 256)] 1 hsz (by decide) rfl
      have HS := Lib.hid hsrc
      have HL := Lib.hid hlit
      clear hsrc hlit
      go_wp2_with (at_builtin; go_must (refine wpList_app _ rfl (.tmp 16) (.tmp 17) _ rfl w.heap.size 5 i0 _ 1 Try.underlying23 hi0 hz0 hz1 hz2 rfl _ 1 _ rfl HL.out wr.heap.size A k c (ints .u8 (digs k v)) rfl (by rw [ints_length, digs_length]) HS.out (ints_one _ _) (by simp only [maxLen]; omega) (by omega) (by simp; omega) ?_); intro v' w1 hown1 hg1 hob1)
      obtain ⟨A1, c1, rfl⟩ := owns_slice hown1
      have HO1 := Lib.hid hown1
      have HG1 := Lib.hid hg1
      clear hown1 hg1 hob1
      go_wp2
      go_roundw
      case rel =>
        refine ⟨k + 1, by omega, by go_num, by rw [HQ.out, Int.pow_succ, ← Int.ediv_ediv_of_nonneg (Int.le_of_lt (Int.pow_pos (by omega)))], ⟨A1, c1, by rw [Nat.add_comm]⟩, ?_, ?_⟩
        · have := HO1.out
          rw [Nat.add_comm 1 k] at this
          rw [digs_cons, ← HQ.out, Nat.add_comm 1 k]
          exact this
        · exact (HBL.out.alloc hsz _).grown HG1.out (by simp; omega) (fun g e => by have e : some wr.heap.size = some g := e; injection e with e; omega)
      case measure => simp [intOf]; omega
    · obtain rfl : k = n := by omega
      obtain ⟨q, hqe⟩ : ∃ q, q = v / 256 ^ k := ⟨_, rfl⟩
      rw [← hqe]
      have HQ := Lib.hid hqe
      have HO := Lib.hid hown
      have HBL := Lib.hid hbel
      clear hqe hown hbel
      go_wp2
      go_ret2
      exact ⟨A, c, by rw [← HQ.out]; rfl, HO.out, HBL.out⟩

end Go.Proofs.Ytdgfofemogmmkaa

namespace Go.Proofs.Ytdgfofemogmmkaa
open Go.RowKit
set_option linter.unusedVariables false

set_option maxHeartbeats 400000 in
theorem number_any (A : Option Addr) (n c : Nat) (zs : List Int) (w : World) (B : Nat) (h : Seq w B A (ints .u8 zs)) (hz : zs.length = n) (hn : n ≤ 8) (hb : ∀ z ∈ zs, isByte z) :
    Calls Try.prog 29 #[.slice A n c] w fun e w' => e = .returned (.int .u64 (val zs)) ∧ w = w' := by
  subst hz
  go_enter Try.func29, Try.ntmps29
  go_wp2
  go_loop [3, 4] (fun v i => ∃ k : Nat, k ≤ zs.length ∧ i = .int .i64 k ∧ v = .int .u64 (val (zs.take k))) (fun _ i => zs.length - (intOf i).toNat)
  case atStart => exact ⟨0, Nat.zero_le _, rfl, rfl⟩
  case round =>
    obtain ⟨k, hk, rfl, rfl⟩ := hrel
    by_cases hkn : k < zs.length
    · obtain ⟨b, o, rfl, hlt, hc⟩ := h.int hkn
      have hv := val_bounds (zs.take k) fun z hz => hb z (List.mem_of_mem_take hz)
      have hp := pow_le (zs.take k).length 7 (by simp; omega)
      have h7 : (256 : Int) ^ 7 = 72057594037927936 := by decide
      rw [h7] at hp
      have hzb := hb _ (List.getElem_mem hkn)
      obtain ⟨z, hz⟩ : ∃ z, z = zs.getD k 0 := ⟨_, rfl⟩
      have hzz : zs[k] = z := by rw [hz]; simp [hkn]
      obtain ⟨m, hm⟩ : ∃ m, m = val (zs.take k) := ⟨_, rfl⟩
      have hs : val (zs.take (k + 1)) = m * 256 + z := by rw [← List.take_append_getElem hkn, val_snoc, hzz, ← hm]
      rw [hzz] at hzb
      rw [← hm] at hv
      have hm0 := hv.1
      have hm1 : m < 72057594037927936 := by omega
      have hz0 := hzb.1
      have hz1 := hzb.2
      rw [← hz] at hc
      rw [← hm]
      have HS := Lib.hid hs
      clear hz hzz hm hs hzb hv hp h7 h hb
      go_wp2
      go_round
      case rel => exact ⟨k + 1, by omega, by go_num, by rw [HS.out]; go_num⟩
      case measure => simp [intOf]; omega
    · obtain rfl : k = zs.length := by omega
      go_wp2
      go_ret
      exact ⟨by simp, rfl⟩

/-- A row of bytes, alone. -/
def RowBytes (w : World) (zs : List Int) (e : Ending) (w' : World) : Prop :=
  ∃ A c, e = .returned (.slice A zs.length c) ∧ w'.ownsRow w.heap.size 5 1 (.slice A zs.length c) zs.length (ints .u8 zs) ∧ Below w.heap.size w w'

theorem getD_word {l : List Int} (hw : ∀ z ∈ l, isWord z) (k : Nat) : isWord (l.getD k 0) := by
  rcases Nat.lt_or_ge k l.length with h | h
  · have e : l.getD k 0 = l[k] := by simp [h]
    rw [e]; exact hw _ (List.getElem_mem h)
  · have e : l.getD k 0 = 0 := by simp [h]
    rw [e]; exact ⟨by omega, by omega⟩

set_option maxHeartbeats 400000 in
theorem row_any (A S : Option Addr) (n c cs : Nat) (l s : List Int) (w : World) (h : Seq w w.heap.size S (ints .i64 s)) (hok : okB s = true) (hl : Seq w w.heap.size A (ints .u64 l)) (hln : l.length = n) (hnm : n = s.length) (hw : ∀ z ∈ l, isWord z) :
    Calls Try.prog 36 #[.slice A n c, .slice S n cs] w (RowBytes w (rowTo l s n)) := by
  obtain ⟨i0, hi0, hz0, hz1, hz2⟩ := info_parts byte_info
  have hoo : okTo s s.length = true := by simp [okB] at hok; exact hok.2
  have hle := atTo_le hoo (Nat.le_refl _)
  have h16 : s.length ≤ 16 := by simp [okB] at hok; exact hok.1
  rw [← hnm] at hoo
  have HOO := Lib.hid hoo
  have HLN := Lib.hid hln
  have HNM := Lib.hid hnm
  have HW := Lib.hid hw
  have h16 : n ≤ 16 := by omega
  clear hoo hln hw hle hnm hok
  go_enter Try.func36, Try.ntmps36
  go_wp2
  go_loopw [5, 6] (fun out i wr => ∃ k : Nat, k ≤ n ∧ i = .int .i64 k ∧ (∃ A c, out = .slice A (atTo s k) c) ∧ wr.ownsRow w.heap.size 5 1 out (atTo s k) (ints .u8 (rowTo l s k)) ∧ Below w.heap.size w wr) (fun _ i _ => n - (intOf i).toNat)
  case atStart => exact ⟨0, Nat.zero_le _, rfl, ⟨_, _, rfl⟩, World.ownsRow_nil _ _ _ _, Below.refl _ _⟩
  case round =>
    obtain ⟨k, hk, rfl, ⟨A', c', rfl⟩, hown, hbel⟩ := hrel
    by_cases hkn : k < n
    · obtain ⟨ba, oa, rfl, hba, hac⟩ := (hl.below hbel).int (j := k) (by have := HLN.out; omega)
      obtain ⟨bs, os, rfl, hbs, hsc⟩ := (h.below hbel).int (j := k) (by have := HNM.out; omega)
      have hz := okTo_sz HOO.out hkn
      have hm := atTo_le HOO.out (show k + 1 ≤ n by omega)
      have hat : atTo s (k + 1) = atTo s k + szOf s k := rfl
      have hrow : rowTo l s (k + 1) = rowTo l s k ++ digs (szOf s k) (l.getD k 0) := rfl
      have hvw := getD_word HW.out k
      obtain ⟨v, hv⟩ : ∃ v, v = l.getD k 0 := ⟨_, rfl⟩
      rw [← hv] at hac hrow hvw
      rw [← hz.2.2] at hsc
      obtain ⟨z, hzz⟩ : ∃ z, z = szOf s k := ⟨_, rfl⟩
      rw [← hzz] at hsc hat hrow hz
      obtain ⟨a, ha⟩ : ∃ a, a = atTo s k := ⟨_, rfl⟩
      rw [← ha] at hown hat ⊢
      rw [hat] at hm
      have hd := digits_any z v wr.drew (by omega) hvw.1 hvw.2
      have HD := Lib.hid hd
      have HROW := Lib.hid hrow
      have HAT := Lib.hid hat
      have HO := Lib.hid hown
      have HBL := Lib.hid hbel
      have HA := Lib.hid ha
      have hz8 := hz.2.1
      clear hv hrow hzz ha hat hown hbel hvw hz hd h hl
      go_wp2
      go_region_with (go_at_call 43; refine HD.out.mono ?_; rintro e w2 ⟨A2, c2, rfl, hown2, hbel2⟩)
      all_goals
        have hsz := HBL.out.size
        have hsz2 := hbel2.size
        have hs2 := Lib.hid (Seq.own hown2)
        have ho2 := Lib.hid (owns_below (w := wr.drew) HO.out hbel2)
        have HBL2 := Lib.hid (Below.trans (Below.drew HBL.out) (hbel2.mono hsz))
        have hszw : wr.drew.heap.size ≤ w2.heap.size := hsz2
        have hszw2 : wr.heap.size ≤ w2.heap.size := hsz2
        have hal := rowTo_length l s k
        have HAL := Lib.hid hal
        clear hown2 hbel2 hszw hsz2 hal
        go_wp2_with (at_builtin; go_must (refine wpList_app _ rfl (.tmp 27) (.tmp 28) _ rfl w.heap.size 5 i0 _ 1 Try.underlying23 hi0 hz0 hz1 hz2 rfl _ a _ rfl ho2.out w2.heap.size A2 z c2 (ints .u8 (digs z v)) rfl (by rw [ints_length, digs_length]) hs2.out (ints_one _ _) (by simp only [maxLen]; omega) (by omega) (by omega) ?_); intro v' w3 hown3 hg3 hob3)
        obtain ⟨A3, c3, rfl⟩ := owns_slice hown3
        have HO3 := Lib.hid hown3
        have HG3 := Lib.hid hg3
        clear hown3 hg3 hob3
        go_wp2
        go_roundw
        case rel =>
          refine ⟨k + 1, by omega, by go_num, ⟨A3, c3, by rw [HAT.out]⟩, ?_, ?_⟩
          · rw [HROW.out, ints_app, HAT.out]; exact HO3.out
          · exact HBL2.out.grown HG3.out (by omega) (fun g e => (ho2.out.lt g e).1)
        case measure => simp [intOf]; omega
    · obtain rfl : k = n := by omega
      have HO := Lib.hid hown
      have HBL := Lib.hid hbel
      clear hown hbel h hl
      go_wp2
      go_ret
      have hl := rowTo_length l s k
      exact ⟨A', c', by rw [hl]; rfl, by rw [hl]; exact HO.out, HBL.out⟩

end Go.Proofs.Ytdgfofemogmmkaa
