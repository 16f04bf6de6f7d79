/- Layer 4: the chapter's example, from what the seven calls do. -/
import Derived.Test.YtbbnfbclbhkneaaRingW
import Derived.Test.YtbbnfbclbhkneaaRingS2
import Derived.Deep.Cut
import Derived.Lib.SlBytesConst
namespace Go.Proofs.Ytbbnfbclbhkneaa
open Go.RowKit
set_option linter.unusedVariables false

theorem lit_text (w : World) (b : Nat) (mk : Nat × Nat) (zs : List Int) (n : Nat) (hb : b = w.heap.size) (hn : zs.length = n) (hm : n ≤ maxLen) : Arg (w.alloc (.cells (ints .u8 zs).toArray 5 mk)) .u8 (some ⟨b, 0, none⟩) n n zs := by
  subst hb
  refine ⟨?_, hn, Nat.le_refl _, hm⟩
  refine Seq.of (by simp) fun j v hv => ?_
  have h1 : (w.alloc (.cells (ints .u8 zs).toArray 5 mk)).heap[w.heap.size]? = some (.cells (ints .u8 zs).toArray 5 mk) := heap_alloc_new w _
  rw [cell_of_row _ _ _ _ _ _ h1, Nat.zero_add]
  simpa using hv
/-- A literal's text, its own row. -/
theorem conv_lit (w : World) (b : Nat) (C : Array Value) (n m c : Nat) (hb : b = w.heap.size) (hm : C.size = m) : (convert 28 28 (.slice (some ⟨b, 0, none⟩) n c)).run Try.prog (w.alloc (.cells C 5)) = .ok (.slice (some ⟨b, 0, none⟩) n c) (w.alloc (.cells C 5 (m, m + 1))) := by
  subst hb; subst hm
  exact Lib.run_convert_bytes_const (P := Try.prog) w 28 5 C n c Try.underlying28 Try.underlying5
theorem few_bytes (l : List Int) (h : l.all (fun z => decide (0 ≤ z ∧ z < 256)) = true) : ∀ z ∈ l, isByte z := by
  intro z hz
  have h1 := List.all_eq_true.1 h z hz
  exact (of_decide_eq_true h1 : 0 ≤ z ∧ z < 256)
theorem few_texts (q : List Text) (h : q.all (fun l => l.all (fun z => decide (0 ≤ z ∧ z < 256))) = true) : ∀ l ∈ q, ∀ z ∈ l, isByte z := fun l hl => few_bytes l (List.all_eq_true.1 h l hl)
theorem few_small (q : List Text) (h : (decide (q.length ≤ 100) && q.all (fun l => decide (l.length ≤ 200))) = true) : Small q := by
  rw [Bool.and_eq_true, decide_eq_true_iff, List.all_eq_true] at h
  exact ⟨h.1, fun t ht => of_decide_eq_true (h.2 t ht)⟩
theorem QueueOut.is {w : World} {q q' : List Text} {h h' m m' E E' : Int} {e : Ending} {w' : World} (x : QueueOut w q h m E e w') {n : Nat} (hq : q = q') (hh : h = h') (hm : m = m') (hE : E = E') (hn : q'.length = n) :
    ∃ A c, e = .returned (.tuple #[queueV A n c h' m', .int .i64 E']) ∧ OwnTexts w' w.heap.size A n c q' ∧ Below w.heap.size w w' := by
  subst hq; subst hh; subst hm; subst hE; subst hn; exact x
theorem PopOut.is {w : World} {q q' : List Text} {h h' m m' E E' : Int} {b b' : Text} {e : Ending} {w' : World} (x : PopOut w q h m b E e w') {n k : Nat} (hq : q = q') (hh : h = h') (hm : m = m') (hb : b = b') (hE : E = E') (hn : q'.length = n) (hk : b'.length = k) :
    ∃ A c A2 c2, e = .returned (.tuple #[queueV A n c h' m', .slice A2 k c2, .int .i64 E']) ∧ OwnTexts w' w.heap.size A n c q' ∧ w'.ownsRow w.heap.size 5 1 (.slice A2 k c2) k (ints .u8 b') ∧ Below w.heap.size w w' := by
  subst hq; subst hh; subst hm; subst hE; subst hb; subst hn; subst hk; exact x
theorem str_arg0 {w : World} {A : Option Addr} {n c : Nat} {zs : List Int} (h : Arg w .u8 A n c zs) : (convert 28 9 (.slice A n c)).run Try.prog w = .ok (.string (strOfNums zs)) w :=
  run_str (P := Try.prog) w 28 9 5 Try.underlying28 Try.underlying5 Try.underlying9 (c := c) h.seq h.len
/-- A literal of two texts that lie in memory. -/
theorem lit_two {w : World} {b : Nat} (hb0 : b = w.heap.size) {A A' : Option Addr} {n c n' c' : Nat} {x y : Text} (hx : Arg w .u8 A n c x) (hy : Arg w .u8 A' n' c' y) (bx : ∀ z ∈ x, isByte z) (by' : ∀ z ∈ y, isByte z) :
    Texts (w.alloc (.cells #[.slice A n c, .slice A' n' c'] 28)) (some ⟨b, 0, none⟩) 2 2 [x, y] := by
  subst hb0
  have hb : Below w.heap.size w (w.alloc (.cells #[.slice A n c, .slice A' n' c'] 28)) := (Below.refl _ _).alloc (Nat.le_refl _) _
  have x1 := Blk.new w 28 [.slice A n c, .slice A' n' c']
  refine ⟨rfl, Nat.le_refl _, by decide, fun zs hzs => ?_, fun i hi => ?_⟩
  · rcases List.mem_cons.1 hzs with rfl | hzs
    · exact bx
    · rcases List.mem_cons.1 hzs with rfl | hzs
      · exact by'
      · cases hzs
  · match i, hi with
    | 0, _ => exact ⟨_, 0, A, n, c, rfl, x1.lt, x1.cell 0, hx.below hb⟩
    | 1, _ => exact ⟨_, 0, A', n', c', rfl, x1.lt, x1.cell 1, hy.below hb⟩

set_option maxRecDepth 100000 in
set_option maxHeartbeats 6400000 in
theorem alive_of (P : RingDoes) (w : World) : Calls Try.prog 9 #[] w fun e w' => e = .returned (.bool true) ∧ Below w.heap.size w w' := by
  have hml : (1000 : Nat) ≤ maxLen := by decide
  have HML := Lib.hid hml
  have PP := Lib.hid P
  have ST : strOfNums [97] = ⟨#[97]⟩ := by decide
  have ST := Lib.hid ST
  have N := Lib.hid (P.new 2 w)
  have kc := fun (w : World) (C : Array Value) (n c : Nat) => Lib.run_convert_bytes_const (P := Try.prog) w 28 5 C n c Try.underlying28 Try.underlying5
  clear P hml
  go_enter Try.func9, Try.ntmps9
  go_wp2_with fail
  refine N.out.mono ?_
  intro e w1 hout
  obtain ⟨A1, c1, rfl, hown, hb⟩ := hout.is (q' := [[], []]) (h' := 0) (m' := 0) (E' := 0) (n := 2) (by kernel_rfl) rfl rfl (by kernel_rfl) rfl
  have B := Lib.hid hb
  go_upto_region 2 with fail
  have X := QBox.new 0 0 (Texts.of_own hown)
  have K : Below w1.heap.size w1 (w1.alloc (.cells #[.slice A1 2 c1, .int .i64 0, .int .i64 0] 24)) := (Below.refl _ _).alloc (Nat.le_refl _) _
  have B := B.out.trans (K.mono B.out.size)
  obtain ⟨b1, hB⟩ : ∃ x, x = w1.heap.size := ⟨_, rfl⟩
  rw [← hB] at X ⊢
  obtain ⟨v1, hW⟩ : ∃ x : World, x = w1.alloc (.cells #[.slice A1 2 c1, .int .i64 0, .int .i64 0] 24) := ⟨_, rfl⟩
  rw [← hW] at X B  ⊢
  clear hB hW hout hown hb K
  have B := Lib.hid B
  have K : Below v1.heap.size v1 (v1.alloc (.cells (ints .u8 [97]).toArray 5 (1, 2))) := (Below.refl _ _).alloc (Nat.le_refl _) _
  obtain ⟨u0, u1, u2⟩ := X.cells
  have N := Lib.hid (PP.out.push A1 2 c1 0 0 [[], []] (some ⟨v1.heap.size, 0, none⟩) 1 1 [97] (v1.alloc (.cells (ints .u8 [97]).toArray 5 (1, 2))) (X.txt.below K) (few_small _ (by decide)) (lit_text v1 _ (1, 2) [97] 1 rfl rfl (by have := HML.out; omega)) (few_bytes _ (by decide)) (by decide))
  have B := Lib.hid (B.out.trans (K.mono B.out.size))
  clear X K
  go_wp2_with fail
  refine N.out.mono ?_
  intro e w2 hout
  obtain ⟨A2, c2, rfl, hown, hb⟩ := hout.is (q' := [[97], []]) (h' := 0) (m' := 1) (E' := 0) (n := 2) (by kernel_rfl) (by kernel_rfl) (by kernel_rfl) (by kernel_rfl) rfl
  have B := Lib.hid (B.out.trans (hb.mono B.out.size))
  clear N u0 u1 u2
  go_upto_region 3 with fail
  have X := QBox.new 0 1 (Texts.of_own hown)
  have K : Below w2.heap.size w2 (w2.alloc (.cells #[.slice A2 2 c2, .int .i64 0, .int .i64 1] 24)) := (Below.refl _ _).alloc (Nat.le_refl _) _
  have B := B.out.trans (K.mono B.out.size)
  obtain ⟨b2, hB⟩ : ∃ x, x = w2.heap.size := ⟨_, rfl⟩
  rw [← hB] at X ⊢
  obtain ⟨v2, hW⟩ : ∃ x : World, x = w2.alloc (.cells #[.slice A2 2 c2, .int .i64 0, .int .i64 1] 24) := ⟨_, rfl⟩
  rw [← hW] at X B  ⊢
  clear hB hW hout hown hb K
  have B := Lib.hid B
  have K : Below v2.heap.size v2 (v2.alloc (.cells (ints .u8 [98]).toArray 5 (1, 2))) := (Below.refl _ _).alloc (Nat.le_refl _) _
  obtain ⟨u0, u1, u2⟩ := X.cells
  have N := Lib.hid (PP.out.push A2 2 c2 0 1 [[97], []] (some ⟨v2.heap.size, 0, none⟩) 1 1 [98] (v2.alloc (.cells (ints .u8 [98]).toArray 5 (1, 2))) (X.txt.below K) (few_small _ (by decide)) (lit_text v2 _ (1, 2) [98] 1 rfl rfl (by have := HML.out; omega)) (few_bytes _ (by decide)) (by decide))
  have B := Lib.hid (B.out.trans (K.mono B.out.size))
  clear X K
  go_wp2_with fail
  refine N.out.mono ?_
  intro e w3 hout
  obtain ⟨A3, c3, rfl, hown, hb⟩ := hout.is (q' := [[97], [98]]) (h' := 0) (m' := 2) (E' := 0) (n := 2) (by kernel_rfl) (by kernel_rfl) (by kernel_rfl) (by kernel_rfl) rfl
  have B := Lib.hid (B.out.trans (hb.mono B.out.size))
  clear N u0 u1 u2
  go_upto_region 4 with fail
  have X := QBox.new 0 2 (Texts.of_own hown)
  have K : Below w3.heap.size w3 (w3.alloc (.cells #[.slice A3 2 c3, .int .i64 0, .int .i64 2] 24)) := (Below.refl _ _).alloc (Nat.le_refl _) _
  have B := B.out.trans (K.mono B.out.size)
  obtain ⟨b3, hB⟩ : ∃ x, x = w3.heap.size := ⟨_, rfl⟩
  rw [← hB] at X ⊢
  obtain ⟨v3, hW⟩ : ∃ x : World, x = w3.alloc (.cells #[.slice A3 2 c3, .int .i64 0, .int .i64 2] 24) := ⟨_, rfl⟩
  rw [← hW] at X B  ⊢
  clear hB hW hout hown hb K
  have B := Lib.hid B
  obtain ⟨u0, u1, u2⟩ := X.cells
  have N := Lib.hid (PP.out.pop A3 2 c3 0 2 [[97], [98]] v3 X.txt (few_small _ (by decide)))
  clear X
  go_wp2_with fail
  refine N.out.mono ?_
  intro e w4 hout
  obtain ⟨A4, c4, AC, cC, rfl, hown, hrow, hb⟩ := hout.is (q' := [[], [98]]) (h' := 1) (m' := 1) (b' := [97]) (E' := 0) (n := 2) (k := 1) (by kernel_rfl) (by kernel_rfl) (by kernel_rfl) (by kernel_rfl) (by kernel_rfl) rfl rfl
  have B := Lib.hid (B.out.trans (hb.mono B.out.size))
  have OC := Lib.hid hrow
  clear N u0 u1 u2 hrow
  go_upto_region 5 with fail
  have X := QBox.new 1 1 (Texts.of_own hown)
  have K : Below w4.heap.size w4 (w4.alloc (.cells #[.slice A4 2 c4, .int .i64 1, .int .i64 1] 24)) := (Below.refl _ _).alloc (Nat.le_refl _) _
  have B := B.out.trans (K.mono B.out.size)
  have OC := owns_below OC.out K
  obtain ⟨b4, hB⟩ : ∃ x, x = w4.heap.size := ⟨_, rfl⟩
  rw [← hB] at X ⊢
  obtain ⟨v4, hW⟩ : ∃ x : World, x = w4.alloc (.cells #[.slice A4 2 c4, .int .i64 1, .int .i64 1] 24) := ⟨_, rfl⟩
  rw [← hW] at X B OC ⊢
  clear hB hW hout hown hb K
  have OC := Lib.hid OC
  have B := Lib.hid B
  have K : Below v4.heap.size v4 (v4.alloc (.cells (ints .u8 [99]).toArray 5 (1, 2))) := (Below.refl _ _).alloc (Nat.le_refl _) _
  obtain ⟨u0, u1, u2⟩ := X.cells
  have N := Lib.hid (PP.out.push A4 2 c4 1 1 [[], [98]] (some ⟨v4.heap.size, 0, none⟩) 1 1 [99] (v4.alloc (.cells (ints .u8 [99]).toArray 5 (1, 2))) (X.txt.below K) (few_small _ (by decide)) (lit_text v4 _ (1, 2) [99] 1 rfl rfl (by have := HML.out; omega)) (few_bytes _ (by decide)) (by decide))
  have B := Lib.hid (B.out.trans (K.mono B.out.size))
  have OC := Lib.hid (owns_below OC.out K)
  clear X K
  go_wp2_with fail
  refine N.out.mono ?_
  intro e w5 hout
  obtain ⟨A5, c5, rfl, hown, hb⟩ := hout.is (q' := [[99], [98]]) (h' := 1) (m' := 2) (E' := 0) (n := 2) (by kernel_rfl) (by kernel_rfl) (by kernel_rfl) (by kernel_rfl) rfl
  have B := Lib.hid (B.out.trans (hb.mono B.out.size))
  have OC := Lib.hid (owns_below OC.out hb)
  clear N u0 u1 u2
  go_upto_region 6 with fail
  have XD := QBox.new 1 2 (Texts.of_own hown)
  have K : Below w5.heap.size w5 (w5.alloc (.cells #[.slice A5 2 c5, .int .i64 1, .int .i64 2] 24)) := (Below.refl _ _).alloc (Nat.le_refl _) _
  have B := B.out.trans (K.mono B.out.size)
  have OC := owns_below OC.out K
  obtain ⟨b5, hB⟩ : ∃ x, x = w5.heap.size := ⟨_, rfl⟩
  rw [← hB] at XD ⊢
  obtain ⟨v5, hW⟩ : ∃ x : World, x = w5.alloc (.cells #[.slice A5 2 c5, .int .i64 1, .int .i64 2] 24) := ⟨_, rfl⟩
  rw [← hW] at XD B OC ⊢
  clear hB hW hout hown hb K
  have OC := Lib.hid OC
  have B := Lib.hid B
  obtain ⟨u0, u1, u2⟩ := XD.cells
  have K : Below v5.heap.size v5 (v5.alloc (.cells (ints .u8 [100]).toArray 5 (1, 2))) := (Below.refl _ _).alloc (Nat.le_refl _) _
  have N := Lib.hid (PP.out.push A5 2 c5 1 2 [[99], [98]] (some ⟨v5.heap.size, 0, none⟩) 1 1 [100] (v5.alloc (.cells (ints .u8 [100]).toArray 5 (1, 2))) (XD.txt.below K) (few_small _ (by decide)) (lit_text v5 _ (1, 2) [100] 1 rfl rfl (by have := HML.out; omega)) (few_bytes _ (by decide)) (by decide))
  have B := Lib.hid (B.out.trans (K.mono B.out.size))
  have OC := Lib.hid (owns_below OC.out K)
  have XD := Lib.hid (XD.below K)
  clear K
  go_wp2_with fail
  refine N.out.mono ?_
  intro e w6 hout
  obtain ⟨A6, c6, rfl, hown, hb⟩ := hout.is (q' := []) (h' := 0) (m' := 0) (E' := 9) (n := 0) (by kernel_rfl) (by kernel_rfl) (by kernel_rfl) (by kernel_rfl) rfl
  have B := Lib.hid (B.out.trans (hb.mono B.out.size))
  have OC := Lib.hid (owns_below OC.out hb)
  have XD := Lib.hid (XD.out.below hb)
  clear N u0 u1 u2
  go_upto_region 7 with fail
  have X := QBox.new 0 0 (Texts.of_own hown)
  have K : Below w6.heap.size w6 (w6.alloc (.cells #[.slice A6 0 c6, .int .i64 0, .int .i64 0] 24)) := (Below.refl _ _).alloc (Nat.le_refl _) _
  have B := B.out.trans (K.mono B.out.size)
  have OC := owns_below OC.out K
  have XD := XD.out.below K
  obtain ⟨b6, hB⟩ : ∃ x, x = w6.heap.size := ⟨_, rfl⟩
  rw [← hB] at X ⊢
  obtain ⟨v6, hW⟩ : ∃ x : World, x = w6.alloc (.cells #[.slice A6 0 c6, .int .i64 0, .int .i64 0] 24) := ⟨_, rfl⟩
  rw [← hW] at X B OC XD ⊢
  clear hB hW hout hown hb K
  have OC := Lib.hid OC
  have XD := Lib.hid XD
  have B := Lib.hid B
  clear X
  obtain ⟨u0, u1, u2⟩ := XD.out.cells
  have hst := str_arg0 (zs := [97]) (n := 1) (Arg.own OC.out)
  rw [ST.out] at hst
  have q1 := lit_text v6 v6.heap.size (1, 2) [99] 1 rfl rfl (by have := HML.out; omega)
  have q2 := lit_text (v6.alloc (.cells (ints .u8 [99]).toArray 5 (1, 2))) (v6.heap.size + 1) (1, 2) [98] 1 (by rw [World.size_alloc]) rfl (by have := HML.out; omega)
  have k2 : Below (v6.alloc (.cells (ints .u8 [99]).toArray 5 (1, 2))).heap.size (v6.alloc (.cells (ints .u8 [99]).toArray 5 (1, 2))) ((v6.alloc (.cells (ints .u8 [99]).toArray 5 (1, 2))).alloc (.cells (ints .u8 [98]).toArray 5 (1, 2))) := (Below.refl _ _).alloc (Nat.le_refl _) _
  have tl := lit_two (b := v6.heap.size + 1 + 1) (by rw [World.size_alloc, World.size_alloc]) (q1.below k2) q2 (few_bytes _ (by decide)) (few_bytes _ (by decide))
  have k4 : Below v6.heap.size v6 (((v6.alloc (.cells (ints .u8 [99]).toArray 5 (1, 2))).alloc (.cells (ints .u8 [98]).toArray 5 (1, 2))).alloc (.cells #[.slice (some ⟨v6.heap.size, 0, none⟩) 1 1, .slice (some ⟨v6.heap.size + 1, 0, none⟩) 1 1] 28)) := (((Below.refl _ _).alloc (Nat.le_refl _) _).alloc (by simp) _).alloc (by simp; omega) _
  have S := same_any _ 2 _ 1 2 _ _ 2 2 1 2 _ _ (XD.out.txt.below k4) tl
  rw [sameB_self] at S
  have B := Lib.hid (B.out.trans (k4.mono B.out.size))
  have S := Lib.hid S
  have u3 := (XD.out.blk.below ((((Below.refl v6.heap.size v6).alloc (Nat.le_refl _) (.cells (ints .u8 [99]).toArray 5 (1, 2))).alloc (by simp) (.cells (ints .u8 [98]).toArray 5 (1, 2)))) XD.out.blk.lt)
  clear OC q1 q2 k2 tl k4 u3
  have kd := conv_lit (v6.alloc (.cells #[.int .u8 99] 5 (1, 2))) (v6.heap.size + 1) #[.int .u8 98] 1 1 1 (by rw [World.size_alloc]) rfl
  go_wp2_with fail
  refine S.out.mono ?_
  rintro e w8 ⟨rfl, hb8⟩
  have B := Lib.hid (B.out.trans (hb8.mono B.out.size))
  clear hb8 S u0 u1 u2 hst kd
  go_wp2
  go_ret
  exact ⟨rfl, B.out⟩

end Go.Proofs.Ytbbnfbclbhkneaa
