/- Layer 15, the document's: Text, Write. No statement is proved here. -/
import Derived.Test.YtdgfofemogmmkaaFrR2
import Derived.Test.YtdgfofemogmmkaaNumR2
namespace Go.Proofs.Ytdgfofemogmmkaa
open Go.RowKit
set_option linter.unusedVariables false
set_option maxRecDepth 100000

def szFr : List Int := [4, 4, 4, 4]
theorem okB_szFr : okB szFr = true := by decide
/-- A frame's numbers, as a row. -/
def frH (a b c d : Int) : List Int := rowTo [a, b, c, d] szFr 4
theorem frH_length (a b c d : Int) : (frH a b c d).length = 16 := by unfold frH; rw [rowTo_length]; rfl
theorem frH_byte (a b c d : Int) : ∀ z ∈ frH a b c d, isByte z := rowTo_byte _ _ _
theorem frW_eq (a b c d : Int) (z : List Int) : frW (a, b, c, d, z) = frH a b c d ++ z := by
  have h : frH a b c d = ((([] ++ digs 4 a) ++ digs 4 b) ++ digs 4 c) ++ digs 4 d := rfl
  rw [h]
  unfold frW
  simp only [List.nil_append, List.append_assoc]
theorem word_u32 {v : Int} (h : isV v) : IntKind.u64.wrap v = v := by
  obtain ⟨h0, h1⟩ := h
  rw [IntKind.wrap_u64]
  omega

set_option maxHeartbeats 3200000 in
theorem rtextF_any (a b c d : Int) (A : Option Addr) (n k : Nat) (z : List Int) (w : World) (h : Arg w .u8 A n k z) (hn : n ≤ 4000) (hz : ∀ x ∈ z, isByte x) (va : isV a) (vb : isV b) (vc : isV c) (vd : isV d) :
    Calls Try.prog 27 #[frmV a b c d A n k] w (OneOut .u8 5 w (frT (a, b, c, d, z)) (20 + n)) := by
  obtain ⟨ib, hib, hbz, hb1, hb2⟩ := info_parts byte_info
  have hml : (1000000 : Nat) ≤ maxLen := by decide
  obtain ⟨x, hb0⟩ := box_frm w a b c d A n k
  obtain ⟨w0, hw0⟩ : ∃ x : World, x = (w.alloc (.cells #[.int .u32 a, .int .u32 b, .int .u32 c, .int .u32 d, .slice A n k] 25)) := ⟨_, rfl⟩
  rw [← hw0] at x hb0
  have X := Lib.hid x
  have B0 := Lib.hid hb0
  obtain ⟨c0, c1, c2, c3, c4⟩ := x.frm
  have W1 : ∀ y ∈ [a, b, c, d], isWord y := by
    intro y hy
    simp only [List.mem_cons, List.not_mem_nil, or_false] at hy
    unfold isV at va vb vc vd
    unfold isWord
    rcases hy with rfl | rfl | rfl | rfl <;> omega
  have e1 := word_u32 va
  have e2 := word_u32 vb
  have e3 := word_u32 vc
  have e4 := word_u32 vd
  have hb1' : Below w0.heap.size w0 (w0.alloc (.cells #[.int .u64 a, .int .u64 b, .int .u64 c, .int .u64 d] 56)) := (Below.refl _ _).alloc (Nat.le_refl _) _
  have hL : Seq (w0.alloc (.cells #[.int .u64 a, .int .u64 b, .int .u64 c, .int .u64 d] 56)) (w0.heap.size + 1) (some ⟨w0.heap.size, 0, none⟩) (ints .u64 [a, b, c, d]) := lit_row w0 56 .u64 [a, b, c, d] _ _ _ rfl rfl (Nat.lt_succ_self _)
  obtain ⟨w1, hw1⟩ : ∃ x : World, x = w0.alloc (.cells #[.int .u64 a, .int .u64 b, .int .u64 c, .int .u64 d] 56) := ⟨_, rfl⟩
  have hs1 : w1.heap.size = w0.heap.size + 1 := by rw [hw1, World.size_alloc]
  rw [← hw1] at hb1' hL
  rw [← hs1] at hL
  have hb2' : Below w1.heap.size w1 (w1.alloc (.cells #[.int .i64 4, .int .i64 4, .int .i64 4, .int .i64 4] 3)) := (Below.refl _ _).alloc (Nat.le_refl _) _
  have hZ : Seq (w1.alloc (.cells #[.int .i64 4, .int .i64 4, .int .i64 4, .int .i64 4] 3)) (w1.alloc (.cells #[.int .i64 4, .int .i64 4, .int .i64 4, .int .i64 4] 3)).heap.size (some ⟨w1.heap.size, 0, none⟩) (ints .i64 szFr) := lit_row w1 3 .i64 szFr _ _ _ rfl rfl (by simp)
  obtain ⟨w2, hw2⟩ : ∃ x : World, x = w1.alloc (.cells #[.int .i64 4, .int .i64 4, .int .i64 4, .int .i64 4] 3) := ⟨_, rfl⟩
  rw [← hw2] at hb2' hZ
  have hL2 := (hL.below hb2').more hb2'.size
  have RW := Lib.hid (row_any (some ⟨w0.heap.size, 0, none⟩) (some ⟨w1.heap.size, 0, none⟩) 4 4 4 [a, b, c, d] szFr w2 hZ okB_szFr hL2 rfl rfl W1)
  have B2 := Lib.hid (hb0.trans ((hb1'.trans (hb2'.mono hb1'.size)).mono hb0.size))
  have X2 := Lib.hid (x.below (hb1'.trans (hb2'.mono hb1'.size)) x.lt)
  have R0 := Lib.hid (h.below B2.out)
  have L0 := Lib.hid h.len
  have HZ := Lib.hid hz
  have HE := Lib.hid (frW_eq a b c d z)
  have HN := Lib.hid hn
  obtain ⟨H, hH⟩ : ∃ y, y = frH a b c d := ⟨_, rfl⟩
  have HL := Lib.hid (show H.length = 16 by rw [hH]; exact frH_length _ _ _ _)
  have HB := Lib.hid (show ∀ y ∈ H, isByte y by rw [hH]; exact frH_byte _ _ _ _)
  rw [show rowTo [a, b, c, d] szFr 4 = frH a b c d from rfl, ← hH] at RW
  rw [← hH] at HE
  have TE : frT (a, b, c, d, z) = sealed (H ++ z) := by unfold frT; rw [HE.out]
  rw [TE]
  have hs0 : w0.heap.size = w.heap.size + 1 := by rw [hw0, World.size_alloc]
  rw [hs1, hs0] at RW
  clear TE x hb0 hb1' hb2' hL hL2 hZ h hz W1 hH va vb vc vd hs1 hs0
  go_enter Try.func27, Try.ntmps27
  go_wp2_with fail
  rw [← hw0, ← hw1, ← hw2]
  clear hw0 hw1 hw2 c0 c1 c2 c3 c4 e1 e2 e3 e4
  refine RW.out.mono ?_
  rintro e w3 ⟨A3, k3, rfl, hown, hb⟩
  rw [HL.out] at hown
  rw [HL.out]
  have B3 := Lib.hid (B2.out.trans (hb.mono B2.out.size))
  have X3 := Lib.hid (X2.out.below hb X2.out.lt)
  have R3 := Lib.hid (R0.out.below hb)
  have O3 := Lib.hid (owns_base hown B2.out.size)
  have HNN := Lib.hid (show 16 + n ≤ 5000 by have := HN.out; omega)
  clear hown hb RW X B0 X2 R0
  obtain ⟨c0, c1, c2, c3, c4⟩ := X3.out.frm
  go_wp2_with (at_builtin; refine wpList_behind_g w w3 rfl (.tmp 19) (.tmp 21) _ rfl w.heap.size 5 ib _ 1 Try.underlying23 hib hbz hb1 hb2 rfl A3 16 k3 (ints .u8 H) rfl O3.out w3.heap.size A n k (ints .u8 z) rfl (by rw [ints_length]; exact L0.out) R3.out.seq (ints_one _ _) (by have := HNN.out; omega) (by have := HNN.out; omega) B3.out (Nat.le_refl _) ?_; intro A4 k4 w4 hown4 hb4; have O4 := Lib.hid hown4; have B4 := Lib.hid hb4; clear hown4 hb4)
  have SE := rsealed_any A4 (16 + n) k4 (H ++ z) w4 (Arg.own (by rw [show ints .u8 (H ++ z) = ints .u8 H ++ ints .u8 z by unfold ints; rw [List.map_append]]; exact O4.out)) HNN.out (by
    intro y hy
    rcases List.mem_append.1 hy with hy | hy
    · exact HB.out y hy
    · exact HZ.out y hy)
  refine SE.mono ?_
  rintro e w5 ⟨A5, k5, rfl, hown, hb⟩
  have O5 := Lib.hid (owns_base hown B4.out.size)
  have B5 := Lib.hid (B4.out.trans (hb.mono B4.out.size))
  clear hown hb SE c0 c1 c2 c3 c4
  go_wp2
  go_ret
  rw [show 16 + n + 4 = 20 + n by omega] at O5 ⊢
  exact ⟨A5, k5, rfl, O5.out, B5.out⟩
end Go.Proofs.Ytdgfofemogmmkaa
