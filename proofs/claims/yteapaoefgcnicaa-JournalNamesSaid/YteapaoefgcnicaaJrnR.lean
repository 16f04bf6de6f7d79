/- Layer 10: the document's Sector, Text, Note, Notes, asked, Scan, Plan. -/
import Derived.Test.YteapaoefgcnicaaJrnMath
import Derived.Test.YteapaoefgcnicaaTrkR
import Derived.Test.YteapaoefgcnicaaNumR2
import Derived.Test.YteapaoefgcnicaaTxs
namespace Go.Proofs.Yteapaoefgcnicaa
open Go.RowKit
set_option linter.unusedVariables false

theorem nums_jrn (w : World) (g n m : Int) (b B : Nat) (hb : b = w.heap.size) (hB : w.heap.size < B) : Seq (w.alloc (.cells #[.int .u64 g, .int .u64 1, .int .u64 n, .int .u64 m, .int .u64 0] 35)) B (some ⟨b, 0, none⟩) (ints .u64 [g, 1, n, m, 0]) := lit_row w 35 .u64 [g, 1, n, m, 0] _ _ _ rfl hb hB
theorem lit_sz5 (w : World) (b B : Nat) (hb : b = w.heap.size) (hB : w.heap.size < B) : Seq (w.alloc (.cells #[.int .i64 8, .int .i64 1, .int .i64 1, .int .i64 1, .int .i64 1] 3)) B (some ⟨b, 0, none⟩) (ints .i64 sz5) := lit_row w 3 .i64 sz5 _ b B rfl hb hB

set_option maxRecDepth 100000 in
set_option maxHeartbeats 3200000 in
theorem rsector_any (g n : Int) (hg : isG g) (hn : 0 ≤ n ∧ n ≤ 255) (A : Option Addr) (k c : Nat) (b : Txt) (w : World) (h : Arg w .u8 A k c b) (hk : k ≤ 20) :
    Calls Try.prog 34 #[.int .u64 g, .int .i64 n, .slice A k c] w fun e w' => ∃ A' c', e = .returned (.slice A' 32 c') ∧ w'.ownsRow w.heap.size 5 1 (.slice A' 32 c') 32 (ints .u8 (jT g n b)) ∧ Below w.heap.size w w' := by
  obtain ⟨i0, hi0, hz0, hz1, hz2⟩ := info_parts byte_info
  have hml : (1000 : Nat) ≤ maxLen := by decide
  have e1 : IntKind.u64.wrap n = n := wraps_u64 n hn.1 (by omega)
  have e2 : IntKind.u64.wrap (k : Int) = k := wraps_u64 k (by omega) (by omega)
  have hb1 : Below w.heap.size w (w.alloc (.cells #[.int .u64 g, .int .u64 1, .int .u64 n, .int .u64 (k : Int), .int .u64 0] 35)) := (Below.refl _ _).alloc (Nat.le_refl _) _
  obtain ⟨w1, hw1⟩ : ∃ x, x = w.alloc (.cells #[.int .u64 g, .int .u64 1, .int .u64 n, .int .u64 (k : Int), .int .u64 0] 35) := ⟨_, rfl⟩
  have hL := nums_jrn w g n k w.heap.size w1.heap.size rfl (by rw [hw1]; simp)
  rw [← hw1] at hb1 hL
  have hb2 : Below w1.heap.size w1 (w1.alloc (.cells #[.int .i64 8, .int .i64 1, .int .i64 1, .int .i64 1, .int .i64 1] 3)) := (Below.refl _ _).alloc (Nat.le_refl _) _
  have hZ := lit_sz5 w1 w1.heap.size (w1.alloc (.cells #[.int .i64 8, .int .i64 1, .int .i64 1, .int .i64 1, .int .i64 1] 3)).heap.size rfl (by simp)
  obtain ⟨w2, hw2⟩ : ∃ x, x = w1.alloc (.cells #[.int .i64 8, .int .i64 1, .int .i64 1, .int .i64 1, .int .i64 1] 3) := ⟨_, rfl⟩
  rw [← hw2] at hb2 hZ
  have hL2 := (hL.below hb2).more hb2.size
  have hB := hb1.trans (hb2.mono hb1.size)
  have RW := Lib.hid (row_any (some ⟨w.heap.size, 0, none⟩) (some ⟨w1.heap.size, 0, none⟩) 5 5 5 [g, 1, n, k, 0] sz5 w2 hZ okB_sz5 hL2 rfl rfl (by
    intro z hz
    simp only [List.mem_cons, List.not_mem_nil, or_false] at hz
    obtain ⟨hg0, hg1⟩ := hg
    unfold isWord
    rcases hz with rfl | rfl | rfl | rfl | rfl <;> omega))
  have hrl := jrow_length g n k
  have hs1 : w1.heap.size = w.heap.size + 1 := by rw [hw1]; simp
  have HA := Lib.hid h
  have HB := Lib.hid hB
  have hbl := h.len
  have HBL := Lib.hid hbl
  have hge : w.heap.size ≤ w2.heap.size := hB.size
  rw [hs1] at RW
  clear h hL hL2 hZ hb1 hb2 hB hbl hg hn
  go_enter Try.func34, Try.ntmps34
  go_wp2_with fail
  rw [← hw1, ← hw2]
  clear hw1 hw2 hs1
  refine RW.out.mono ?_
  rintro e w3 ⟨A3, c3, rfl, hown, hb3⟩
  rw [show rowTo [g, 1, n, (k : Int), 0] sz5 5 = jrow g n k from rfl] at hown ⊢
  rw [hrl] at hown ⊢
  have B3 := Lib.hid (HB.out.trans (hb3.mono HB.out.size))
  have O3 := Lib.hid (owns_base hown hge)
  have HA3 := Lib.hid (HA.out.below B3.out)
  have hg3 : w.heap.size ≤ w3.heap.size := B3.out.size
  clear hown hb3 RW hrl hge
  obtain ⟨m, hm⟩ : ∃ m : Nat, 20 - (k : Int) = (m : Int) := ⟨20 - k, by omega⟩
  have hnm : k + m = 20 := by omega
  have hsz3 : w.heap.size ≤ w3.heap.size := hg3
  have hM1 : 12 + k ≤ maxLen := by omega
  go_wp2_with (first
    | (at_builtin; (refine wpList_app _ rfl (.tmp 17) (.tmp 18) _ rfl w.heap.size 5 i0 _ 1 Try.underlying36 hi0 hz0 hz1 hz2 rfl _ 12 _ rfl O3.out w3.heap.size A k c (ints .u8 b) rfl (by rw [ints_length, HBL.out]) HA3.out.seq (ints_one _ _) hM1 (by omega) hg3 ?_); intro v4 w4 hown4 hg4 hob4; obtain ⟨A4, c4, rfl⟩ := owns_slice hown4; have hsz4 : w.heap.size ≤ w4.heap.size := Nat.le_trans hsz3 hg4.size; have HL4 := Lib.hid (O3.out.lt); have O4 := Lib.hid hown4; have B4 := Lib.hid (B3.out.grown hg4 hg3 (fun g e => (HL4.out g e).1)); clear hown4 hg4 hob4)
    | (at_builtin; (refine wpList_noughts _ rfl (.tmp 19) (.tmp 22) rfl w.heap.size _ (12 + k) _ rfl O4.out m rfl (by omega) (by omega) hsz4 ?_); intro v5 w5 hown5 hg5 hob5; obtain ⟨A5, c5, rfl⟩ := owns_slice hown5; have HL5 := Lib.hid (O4.out.lt); have O5 := Lib.hid hown5; have B5 := Lib.hid (B4.out.grown hg5 hsz4 (fun g e => (HL5.out g e).1)); clear hown5 hg5 hob5))
  go_ret
  have e32 : 12 + k + m = 32 := by omega
  have hO := O5.out
  rw [e32] at hO ⊢
  refine ⟨A5, c5, rfl, ?_, B5.out⟩
  have : ints .u8 (jT g n b) = ints .u8 (jrow g n k) ++ ints .u8 b ++ List.replicate m (.int .u8 0) := by
    unfold jT
    rw [ints_app, ints_app, HBL.out, show 20 - k = m by omega]
    simp [ints]
  rw [this]
  exact hO

/-- A row of bytes of the call's own, beside an error. -/
theorem rtext10_any (g n : Int) (hg : isG g) (A : Option Addr) (k c : Nat) (b : Txt) (w : World) (h : Arg w .u8 A k c b) :
    Calls Try.prog 21 #[.int .u64 g, .int .i64 n, .slice A k c] w (RowOut .u8 5 w (jtB g n b) (jtE n b)) := by
  have hl := h.len
  by_cases h1 : 1 ≤ b.length ∧ b.length ≤ 20
  · by_cases h2 : 0 ≤ n ∧ n ≤ 255
    · have e : jtE n b = 0 := (if_pos h1).trans (if_pos h2)
      have e3 : jtB g n b = jT g n b := if_pos e
      have hlen := jT_length g n h1.2
      rw [e, e3]
      have SC := Lib.hid (rsector_any g n hg h2 A k c b w h (by omega))
      have q1 : ¬ (k : Int) < 1 := by omega
      have q2 : ¬ (20 : Int) < (k : Int) := by omega
      have q3 : ¬ n < 0 := by omega
      have q4 : ¬ 255 < n := by omega
      unfold RowOut
      rw [hlen]
      clear e e3 h1 h2 hl hlen h
      go_enter Try.func21, Try.ntmps21
      go_wp2_with fail
      refine SC.out.mono ?_
      rintro e w1 ⟨A1, c1, rfl, hown, hb⟩
      have O := Lib.hid hown
      have B := Lib.hid hb
      clear hown hb SC
      go_wp2
      go_ret2
      exact ⟨A1, c1, rfl, O.out, B.out⟩
    · have e : jtE n b = 2 := (if_pos h1).trans (if_neg h2)
      have e3 : jtB g n b = [] := if_neg (by rw [e]; decide)
      rw [e, e3]
      have q1 : ¬ (k : Int) < 1 := by omega
      have q2 : ¬ (20 : Int) < (k : Int) := by omega
      by_cases q3 : n < 0
      · clear e e3 h1 h2 hl h
        go_enter Try.func21, Try.ntmps21
        go_wp2
        go_ret2
        exact RowOut.nil _ _ _ _
      · have q4 : 255 < n := by omega
        clear e e3 h1 h2 hl h
        go_enter Try.func21, Try.ntmps21
        go_wp2
        go_ret2
        exact RowOut.nil _ _ _ _
  · have e : jtE n b = 4 := if_neg h1
    have e3 : jtB g n b = [] := if_neg (by rw [e]; decide)
    rw [e, e3]
    by_cases q1 : (k : Int) < 1
    · clear e e3 h1 hl h
      go_enter Try.func21, Try.ntmps21
      go_wp2
      go_ret2
      exact RowOut.nil _ _ _ _
    · have q2 : (20 : Int) < (k : Int) := by omega
      clear e e3 h1 hl h
      go_enter Try.func21, Try.ntmps21
      go_wp2
      go_ret2
      exact RowOut.nil _ _ _ _

/-- The disk's error, and the area's. -/
theorem rasked10_any (P T A M W Q : Int) (D : Option Addr) (n c : Nat) (D' : Option Addr) (n' c' : Nat) (S : List Sec) (C : List Pnd) (a : Int) (w : World) (hq : Dsk w D n c D' n' c' S C) (hs : SmallD S C) :
    Calls Try.prog 31 #[cfgV P T A M W Q, diskV D n c D' n' c', .int .i64 a] w fun e w' => e = .returned (.int .i64 (jaE P T A M W Q S C a)) ∧ Below w.heap.size w w' := by
  obtain ⟨x, hbel⟩ := TBox.new P T A M W Q hq
  obtain ⟨w0, hw0⟩ : ∃ x : World, x = (w.alloc (.cells #[.int .i64 P, .int .i64 T, .int .i64 A, .int .i64 M, .int .i64 W, .int .i64 Q] 33)).alloc (.cells #[.slice D n c, .slice D' n' c'] 25) := ⟨_, rfl⟩
  rw [← hw0] at x hbel
  have X := Lib.hid x
  have B := Lib.hid hbel
  have CK := Lib.hid (fun wx hx => rmayT_any P T A M W Q D n c D' n' c' S C wx hx hs)
  obtain ⟨c0, c1, c2, c3, c4, c5, d0, d1⟩ := x.cells
  clear x hbel hq hs
  by_cases hm : mayT P T A M W Q S C
  · rw [decide_eq_true hm] at CK
    by_cases ha : arJ a
    · rw [show jaE P T A M W Q S C a = 0 from (if_pos hm).trans (if_pos ha)]
      have q1 : ¬ a < 0 := by unfold arJ at ha; omega
      have q2 : ¬ 1 < a := by unfold arJ at ha; omega
      clear hm ha
      go_enter Try.func31, Try.ntmps31
      go_wp2_with fail
      rw [← hw0]
      clear hw0
      refine (CK.out _ X.out.dsk.dsk).mono ?_
      rintro e w1 ⟨rfl, hb⟩
      have B := Lib.hid (B.out.trans (hb.mono B.out.size))
      clear hb c0 c1 c2 c3 c4 c5 d0 d1 CK
      go_wp2
      go_ret
      exact ⟨rfl, B.out⟩
    · rw [show jaE P T A M W Q S C a = 2 from (if_pos hm).trans (if_neg ha)]
      by_cases q1 : a < 0
      · clear hm ha
        go_enter Try.func31, Try.ntmps31
        go_wp2_with fail
        rw [← hw0]
        clear hw0
        refine (CK.out _ X.out.dsk.dsk).mono ?_
        rintro e w1 ⟨rfl, hb⟩
        have B := Lib.hid (B.out.trans (hb.mono B.out.size))
        clear hb c0 c1 c2 c3 c4 c5 d0 d1 CK
        go_wp2
        go_ret
        exact ⟨rfl, B.out⟩
      · have q2 : 1 < a := by unfold arJ at ha; omega
        clear hm ha
        go_enter Try.func31, Try.ntmps31
        go_wp2_with fail
        rw [← hw0]
        clear hw0
        refine (CK.out _ X.out.dsk.dsk).mono ?_
        rintro e w1 ⟨rfl, hb⟩
        have B := Lib.hid (B.out.trans (hb.mono B.out.size))
        clear hb c0 c1 c2 c3 c4 c5 d0 d1 CK
        go_wp2
        go_ret
        exact ⟨rfl, B.out⟩
  · rw [decide_eq_false hm] at CK
    rw [show jaE P T A M W Q S C a = 8 from if_neg hm]
    clear hm
    go_enter Try.func31, Try.ntmps31
    go_wp2_with fail
    rw [← hw0]
    clear hw0
    refine (CK.out _ X.out.dsk.dsk).mono ?_
    rintro e w1 ⟨rfl, hb⟩
    have B := Lib.hid (B.out.trans (hb.mono B.out.size))
    clear hb c0 c1 c2 c3 c4 c5 d0 d1 CK
    go_wp2
    go_ret
    exact ⟨rfl, B.out⟩

end Go.Proofs.Yteapaoefgcnicaa
