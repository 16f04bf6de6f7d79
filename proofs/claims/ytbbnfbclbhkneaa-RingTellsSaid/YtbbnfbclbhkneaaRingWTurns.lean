/- Layer 4, RingTurns: the walk: a text pushed, the first one popped, the list, and whether a queue may be: the program's answers and the document's; what is answered is new memory. -/
import Derived.Test.YtbbnfbclbhkneaaRingW
import Derived.Test.YtbbnfbclbhkneaaRingS2
namespace Go.Proofs.Ytbbnfbclbhkneaa
open Go.RowKit
set_option linter.unusedVariables false

theorem pushI_small {q : List Text} {h m : Int} {b : Text} (hs : Small q) (hb : b.length ≤ 200) : Small (pushI q h m b) := by
  unfold pushI
  split
  · exact hs.set _ hb
  · exact ⟨by simp, by simp⟩
theorem popI_small {q : List Text} {h m : Int} (hs : Small q) : Small (popI q h m) := by
  unfold popI
  split
  · exact hs.set _ (by simp)
  · exact ⟨by simp, by simp⟩
theorem popB_small {q : List Text} {h m : Int} (hs : Small q) : (popB q h m).length ≤ 200 := by
  unfold popB
  split
  · exact hs.at_ _
  · simp
theorem listT_small {q : List Text} {h m : Int} (hs : Small q) : Small (listT q h m) := by
  unfold listT
  split
  · rename_i hm
    obtain ⟨H, M, rfl, rfl, _, h2, _, h4, _⟩ := mayB_nat hm
    refine ⟨by simp; omega, fun t ht => ?_⟩
    obtain ⟨k, _, rfl⟩ := List.mem_map.1 ht
    exact hs.at_ _
  · exact ⟨by simp, by simp⟩

theorem turns_push (P : RingDoes) {q : List Text} (hs : Small q) (h m : Int) {b : Text} (hby : ∀ z ∈ b, isByte z) (hb : b.length ≤ 200) : ∃ (I : List Text) (H M E : Int),
    (∀ A n c A' n' c' w, Texts w A n c q → Arg w .u8 A' n' c' b → Calls Try.prog 13 #[queueV A n c h m, .slice A' n' c'] w (QueueOut w I H M E)) ∧
    (∀ A n c A' n' c' w, Texts w A n c q → Arg w .u8 A' n' c' b → Calls Try.prog 14 #[queueV A n c h m, .slice A' n' c'] w (QueueOut w I H M E)) ∧ Small I :=
  ⟨_, _, _, _, fun A n c A' n' c' w h1 h2 => P.push A n c h m q A' n' c' b w h1 hs h2 hby hb, fun A n c A' n' c' w h1 h2 => rpush_any A n c h m q A' n' c' b w h1 hs h2 hby hb, pushI_small hs hb⟩
theorem popB_bytes {q : List Text} {h m : Int} (hq : ∀ zs ∈ q, ∀ z ∈ zs, isByte z) : ∀ z ∈ popB q h m, isByte z := by
  intro z hz
  unfold popB at hz
  split at hz
  · rcases Nat.lt_or_ge h.toNat q.length with hi | hi
    · rw [List.getD_eq_getElem?_getD, List.getElem?_eq_getElem hi] at hz
      exact hq _ (List.getElem_mem hi) z hz
    · rw [List.getD_eq_getElem?_getD, List.getElem?_eq_none hi] at hz
      simp at hz
  · simp at hz
theorem turns_pop (P : RingDoes) {q : List Text} (hs : Small q) (hq : ∀ zs ∈ q, ∀ z ∈ zs, isByte z) (h m : Int) : ∃ (I : List Text) (H M : Int) (b : Text) (E : Int),
    (∀ A n c w, Texts w A n c q → Calls Try.prog 8 #[queueV A n c h m] w (PopOut w I H M b E)) ∧
    (∀ A n c w, Texts w A n c q → Calls Try.prog 15 #[queueV A n c h m] w (PopOut w I H M b E)) ∧ Small I ∧ b.length ≤ 200 ∧ ∀ z ∈ b, isByte z :=
  ⟨_, _, _, _, _, fun A n c w h1 => P.pop A n c h m q w h1 hs, fun A n c w h1 => rpop_any A n c h m q w h1 hs, popI_small hs, popB_small hs, popB_bytes hq⟩
theorem turns_list (P : RingDoes) {q : List Text} (hs : Small q) (h m : Int) : ∃ (L : List Text) (K : Int),
    (∀ A n c w, Texts w A n c q → Calls Try.prog 16 #[queueV A n c h m] w (TextsOut w L K)) ∧
    (∀ A n c w, Texts w A n c q → Calls Try.prog 17 #[queueV A n c h m] w (TextsOut w L K)) ∧
    (∀ A n c w, Texts w A n c q → Calls Try.prog 10 #[queueV A n c h m] w fun e w' => e = .returned (.int .i64 K) ∧ Below w.heap.size w w') ∧
    (∀ A n c w, Texts w A n c q → Calls Try.prog 20 #[queueV A n c h m] w fun e w' => e = .returned (.int .i64 K) ∧ Below w.heap.size w w') ∧ Small L :=
  ⟨_, _, fun A n c w h1 => P.list A n c h m q w h1 hs, fun A n c w h1 => rlist_any A n c h m q w h1 hs, fun A n c w h1 => P.check A n c h m q w h1 hs, fun A n c w h1 => rcheck_any A n c h m q w h1, listT_small hs⟩
theorem sameAll_b (A : Option Addr) (n c : Nat) (a : List Text) (A' : Option Addr) (n' c' : Nat) (w : World) (ha : Texts w A n c a) (hb : Texts w A' n' c' a) :
    Calls Try.prog 19 #[.slice A n c, .slice A' n' c'] w fun e w' => e = .returned (.bool true) ∧ Below w.heap.size w w' := by
  refine (sameAll_any A n c a A' n' c' a w ha hb).mono ?_
  rintro e w' ⟨rfl, q, rfl⟩
  exact ⟨by rw [decide_eq_true rfl], below_drewN (Below.refl _ _) q⟩
theorem same_yes (A : Option Addr) (n c : Nat) (h m : Int) (a : List Text) (A' : Option Addr) (n' c' : Nat) (w : World) (ha : Texts w A n c a) (hb : Texts w A' n' c' a) :
    Calls Try.prog 18 #[queueV A n c h m, queueV A' n' c' h m] w fun e w' => e = .returned (.bool true) ∧ Below w.heap.size w w' := by
  have := same_any A n c h m a A' n' c' h m a w ha hb
  rwa [sameB_self] at this
theorem str_arg {w : World} {A : Option Addr} {n c : Nat} {zs : List Int} (h : Arg w .u8 A n c zs) : (convert 28 9 (.slice A n c)).run Try.prog w = .ok (.string (strOfNums zs)) w :=
  run_str (P := Try.prog) w 28 9 5 Try.underlying28 Try.underlying5 Try.underlying9 (c := c) h.seq h.len
/-- A literal of one text. -/
theorem one_text {w : World} {base : Nat} {A : Option Addr} {n c : Nat} {zs : List Int} (hb : base ≤ w.heap.size) (hz : ∀ z ∈ zs, isByte z) (h : w.ownsRow base 5 1 (.slice A n c) n (ints .u8 zs)) :
    OwnTexts (w.alloc (.cells #[.slice A n c] 28)) base (some ⟨w.heap.size, 0, none⟩) 1 1 [zs] := by
  refine ⟨_, World.ownsRow_lit w #[.slice A n c] 1 hb (by decide) rfl, rfl, ?_, fun i hi => ?_⟩
  · intro y hy z hzz
    rw [List.mem_singleton] at hy
    subst hy
    exact hz z hzz
  · obtain rfl : i = 0 := by omega
    exact ⟨A, n, c, rfl, owns_below h ((Below.refl _ _).alloc (Nat.le_refl _) _)⟩

set_option maxRecDepth 100000 in
set_option maxHeartbeats 6400000 in
theorem turns_of (P : RingDoes) (a0 : Option Addr) (len0 cap0 : Nat) (h0 m0 : Int) (z0 : List (List Int)) (a1 : Option Addr) (len1 cap1 : Nat) (z1 : List Int) (w : World) (w0a : Texts w a0 len0 cap0 z0) (w1 : IsRow .u8 w a1 len1 cap1 z1) :
    Calls Try.prog 4 #[queueV a0 len0 cap0 h0 m0, .slice a1 len1 cap1] w fun e w' => e = .returned (.bool true) ∧ Below w.heap.size w w' := by
  have PP := Lib.hid P
  obtain ⟨b, hb, hbw⟩ := w1.arg
  have hby : ∀ z ∈ b, isByte z := fun z hz => wf_byte (hbw z hz)
  have BY8 := Lib.hid hby
  have hbel : Below w.heap.size w (w.alloc (.cells #[.slice a0 len0 cap0, .int .i64 h0, .int .i64 m0] 24)) := (Below.refl _ _).alloc (Nat.le_refl _) _
  have XQ := Lib.hid (QBox.new h0 m0 w0a)
  have RB := Lib.hid (hb.below hbel)
  have B2 := Lib.hid hbel
  have G1 := great_any a0 len0 cap0 h0 m0 z0 _ (w0a.below hbel)
  obtain ⟨c0, c1, c2⟩ := XQ.out.cells
  have hbl := hb.len
  clear P w0a w1 hb hbw hby hbel
  cases hg1 : greatB z0 with
  | true =>
    rw [hg1] at G1
    have G1 := Lib.hid G1
    clear hg1 hbl
    go_enter Try.func4, Try.ntmps4
    go_wp2_with fail
    refine G1.out.mono ?_
    rintro e w3 ⟨rfl, hb3⟩
    have B3 := Lib.hid (B2.out.trans (hb3.mono B2.out.size))
    clear hb3
    go_wp2
    go_ret
    exact ⟨rfl, B3.out⟩
  | false =>
    rw [hg1] at G1
    have G1 := Lib.hid G1
    have SZ := Lib.hid (small_of hg1)
    clear hg1
    by_cases hl1 : 200 < len1
    · have hl2 : (200 : Int) < (len1 : Int) := by omega
      clear hbl hl1
      go_enter Try.func4, Try.ntmps4
      go_wp2_with fail
      refine G1.out.mono ?_
      rintro e w3 ⟨rfl, hb3⟩
      have B3 := Lib.hid (B2.out.trans (hb3.mono B2.out.size))
      clear hb3
      go_wp2
      go_ret
      exact ⟨rfl, B3.out⟩
    · have hl2 : ¬ (200 : Int) < (len1 : Int) := by omega
      have hl3 : len1 ≤ 200 := by omega
      obtain ⟨I1, H1, M1, E1, hu, hru, hsu⟩ := turns_push PP.out SZ.out h0 m0 BY8.out (by rw [hbl]; exact hl3)
      obtain ⟨I2, H2, M2, T2, E2, ho, hro, hso, hst, hcb⟩ := turns_pop PP.out SZ.out XQ.out.txt.byte h0 m0
      obtain ⟨LT, KC, hli, hrli, hck, hrck, hsl⟩ := turns_list PP.out SZ.out h0 m0
      have HU := Lib.hid hu
      have HRU := Lib.hid hru
      have HSU := Lib.hid hsu
      have HO := Lib.hid ho
      have HRO := Lib.hid hro
      have HSO := Lib.hid hso
      have HST := Lib.hid hst
      have CB := Lib.hid hcb
      have HLI := Lib.hid hli
      have HRLI := Lib.hid hrli
      have HCK := Lib.hid hck
      have HRCK := Lib.hid hrck
      have HSL := Lib.hid hsl
      have HBL := Lib.hid hbl
      clear hu hru hsu ho hro hso hst hcb hli hrli hck hrck hsl hbl hl1
      go_enter Try.func4, Try.ntmps4
      go_wp2_with fail
      refine G1.out.mono ?_
      rintro e w3 ⟨rfl, hb3⟩
      have B3 := Lib.hid (B2.out.trans (hb3.mono B2.out.size))
      have XQ := Lib.hid (XQ.out.below hb3)
      have RB := Lib.hid (RB.out.below hb3)
      clear hb3 c0 c1 c2
      obtain ⟨c0, c1, c2⟩ := XQ.out.cells
      have T := Lib.hid (twin_any a0 len0 cap0 h0 m0 z0 w3 XQ.out.txt SZ.out)
      go_wp2_with fail
      refine T.out.mono ?_
      rintro e w4 ⟨AO, cO, rfl, hown, hb4⟩
      have B4 := Lib.hid (B3.out.trans (hb4.mono B3.out.size))
      have XQ := Lib.hid (XQ.out.below hb4)
      have RB := Lib.hid (RB.out.below hb4)
      have OO := Lib.hid hown
      clear T hown hb4 c0 c1 c2
      obtain ⟨ib, hib, hbz, hb1, hb2⟩ := info_parts byte_info
      have hml : (1000 : Nat) ≤ maxLen := by decide
      go_wp2_with (at_builtin; refine wpList_dup_g w4 rfl (.tmp 31) (.tmp 32) _ rfl 5 ib _ 1 Try.underlying28 hib hbz hb1 hb2 rfl rfl a1 len1 cap1 (ints .u8 b) rfl (by rw [ints_length, RB.out.len]) RB.out.seq (ints_one _ _) (by omega) (by omega) ?_; intro AM cM w5 hown5 hbel5; have O5 := Lib.hid hown5; have B5 := Lib.hid hbel5; clear hown5 hbel5; obtain ⟨c0, c1, c2⟩ := box_queue w5 AO len0 cO h0 m0)
      have K5 : Below w4.heap.size w4 (w5.alloc (.cells #[.slice AO len0 cO, .int .i64 h0, .int .i64 m0] 24)) := B5.out.alloc B5.out.size _
      have XQ := XQ.out.below K5
      have RB := RB.out.below K5
      have XO := QBox.new h0 m0 ((Texts.of_own OO.out).below B5.out)
      have OM := owns_below O5.out (show Below w5.heap.size w5 (w5.alloc (.cells #[.slice AO len0 cO, .int .i64 h0, .int .i64 m0] 24)) from (Below.refl _ _).alloc (Nat.le_refl _) _)
      have B6 := B4.out.trans (K5.mono B4.out.size)
      obtain ⟨BO, hBO⟩ : ∃ BO, BO = w5.heap.size := ⟨_, rfl⟩
      rw [← hBO] at XO ⊢
      obtain ⟨w6, hw6⟩ : ∃ x : World, x = w5.alloc (.cells #[.slice AO len0 cO, .int .i64 h0, .int .i64 m0] 24) := ⟨_, rfl⟩
      rw [← hw6] at XQ RB XO OM B6 ⊢
      have B6 := Lib.hid B6
      have D := Lib.hid (Below.refl w6.heap.size w6)
      clear hBO hw6 c0 c1 c2 K5 OO O5 B5 B4 B3 B2 G1 hib hbz hb1 hb2 hl2
      have XQ6 := Lib.hid XQ
      have RB6 := Lib.hid RB
      have XO6 := Lib.hid XO
      have OM6 := Lib.hid OM
      have XQ := Lib.hid XQ
      have RB := Lib.hid RB
      have XO := Lib.hid XO
      have OM := Lib.hid OM
      have N := Lib.hid (HU.out AO len0 cO AM len1 cM w6 XO.out.txt (Arg.own OM.out))
      refine N.out.mono ?_
      rintro e w7 ⟨AX, cX, rfl, hown, hbn⟩
      have hb2 : Below w6.heap.size w6 (w7.alloc (.cells #[.slice AX I1.length cX, .int .i64 H1, .int .i64 M1] 24)) := hbn.alloc hbn.size _
      have hb3 : Below w7.heap.size w7 (w7.alloc (.cells #[.slice AX I1.length cX, .int .i64 H1, .int .i64 M1] 24)) := (Below.refl _ _).alloc (Nat.le_refl _) _
      have XQ := XQ.out.below hb2
      have RB := RB.out.below hb2
      have XO := XO.out.below hb2
      have OM := owns_below OM.out hb2
      have XX := QBox.new H1 M1 (Texts.of_own hown)
      have OX := (hown.below hb3).lower D.out.size
      have D := D.out.trans (hb2.mono D.out.size)
      have XQ := Lib.hid XQ
      have RB := Lib.hid RB
      have XO := Lib.hid XO
      have OM := Lib.hid OM
      have XX := Lib.hid XX
      have OX := Lib.hid OX
      have D := Lib.hid D
      obtain ⟨c0, c1, c2⟩ := XQ.out.cells
      clear hown hbn hb2 hb3 N
      go_wp2_with fail
      obtain ⟨BX, hB⟩ : ∃ x, x = w7.heap.size := ⟨_, rfl⟩
      rw [← hB] at XX ⊢
      obtain ⟨w8, hW⟩ : ∃ x : World, x = (w7.alloc (.cells #[.slice AX I1.length cX, .int .i64 H1, .int .i64 M1] 24)) := ⟨_, rfl⟩
      rw [← hW] at XQ RB XO OM XX OX D c0 c1 c2 ⊢
      clear hB hW
      have N := Lib.hid (HRU.out a0 len0 cap0 a1 len1 cap1 w8 XQ.out.txt RB.out)
      clear c0 c1 c2
      refine N.out.mono ?_
      rintro e w9 ⟨AY, cY, rfl, hown, hbn⟩
      have hb2 : Below w8.heap.size w8 (w9.alloc (.cells #[.slice AY I1.length cY, .int .i64 H1, .int .i64 M1] 24)) := hbn.alloc hbn.size _
      have hb3 : Below w9.heap.size w9 (w9.alloc (.cells #[.slice AY I1.length cY, .int .i64 H1, .int .i64 M1] 24)) := (Below.refl _ _).alloc (Nat.le_refl _) _
      have XQ := XQ.out.below hb2
      have RB := RB.out.below hb2
      have XO := XO.out.below hb2
      have OM := owns_below OM.out hb2
      have XX := XX.out.below hb2
      have OX := OX.out.below hb2
      have XY := QBox.new H1 M1 (Texts.of_own hown)
      have OY := (hown.below hb3).lower D.out.size
      have D := D.out.trans (hb2.mono D.out.size)
      have XQ := Lib.hid XQ
      have RB := Lib.hid RB
      have XO := Lib.hid XO
      have OM := Lib.hid OM
      have XX := Lib.hid XX
      have OX := Lib.hid OX
      have XY := Lib.hid XY
      have OY := Lib.hid OY
      have D := Lib.hid D
      obtain ⟨c0, c1, c2⟩ := XO.out.cells
      clear hown hbn hb2 hb3 N
      go_wp2_with fail
      obtain ⟨BY, hB⟩ : ∃ x, x = w9.heap.size := ⟨_, rfl⟩
      rw [← hB] at XY ⊢
      obtain ⟨w10, hW⟩ : ∃ x : World, x = (w9.alloc (.cells #[.slice AY I1.length cY, .int .i64 H1, .int .i64 M1] 24)) := ⟨_, rfl⟩
      rw [← hW] at XQ RB XO OM XX OX XY OY D c0 c1 c2 ⊢
      clear hB hW
      have N := Lib.hid (HO.out AO len0 cO w10 XO.out.txt)
      clear c0 c1 c2
      refine N.out.mono ?_
      rintro e w11 ⟨AP, cP, AC, cC, rfl, hown, hrow, hbn⟩
      have hb2 : Below w10.heap.size w10 (w11.alloc (.cells #[.slice AP I2.length cP, .int .i64 H2, .int .i64 M2] 24)) := hbn.alloc hbn.size _
      have hb3 : Below w11.heap.size w11 (w11.alloc (.cells #[.slice AP I2.length cP, .int .i64 H2, .int .i64 M2] 24)) := (Below.refl _ _).alloc (Nat.le_refl _) _
      have XQ := XQ.out.below hb2
      have RB := RB.out.below hb2
      have XO := XO.out.below hb2
      have OM := owns_below OM.out hb2
      have XX := XX.out.below hb2
      have OX := OX.out.below hb2
      have XY := XY.out.below hb2
      have OY := OY.out.below hb2
      have XP := QBox.new H2 M2 (Texts.of_own hown)
      have OP := (hown.below hb3).lower D.out.size
      have OC := owns_base (owns_below hrow hb3) D.out.size
      have D := D.out.trans (hb2.mono D.out.size)
      have XQ := Lib.hid XQ
      have RB := Lib.hid RB
      have XO := Lib.hid XO
      have OM := Lib.hid OM
      have XX := Lib.hid XX
      have OX := Lib.hid OX
      have XY := Lib.hid XY
      have OY := Lib.hid OY
      have XP := Lib.hid XP
      have OP := Lib.hid OP
      have OC := Lib.hid OC
      have D := Lib.hid D
      obtain ⟨c0, c1, c2⟩ := XQ.out.cells
      clear hown hbn hb2 hb3 N hrow
      go_wp2_with fail
      obtain ⟨BP, hB⟩ : ∃ x, x = w11.heap.size := ⟨_, rfl⟩
      rw [← hB] at XP ⊢
      obtain ⟨w12, hW⟩ : ∃ x : World, x = (w11.alloc (.cells #[.slice AP I2.length cP, .int .i64 H2, .int .i64 M2] 24)) := ⟨_, rfl⟩
      rw [← hW] at XQ RB XO OM XX OX XY OY XP OP OC D c0 c1 c2 ⊢
      clear hB hW
      have N := Lib.hid (HRO.out a0 len0 cap0 w12 XQ.out.txt)
      clear c0 c1 c2
      refine N.out.mono ?_
      rintro e w13 ⟨AR, cR, AD, cD, rfl, hown, hrow, hbn⟩
      have hb2 : Below w12.heap.size w12 (w13.alloc (.cells #[.slice AR I2.length cR, .int .i64 H2, .int .i64 M2] 24)) := hbn.alloc hbn.size _
      have hb3 : Below w13.heap.size w13 (w13.alloc (.cells #[.slice AR I2.length cR, .int .i64 H2, .int .i64 M2] 24)) := (Below.refl _ _).alloc (Nat.le_refl _) _
      have XQ := XQ.out.below hb2
      have RB := RB.out.below hb2
      have XO := XO.out.below hb2
      have OM := owns_below OM.out hb2
      have XX := XX.out.below hb2
      have OX := OX.out.below hb2
      have XY := XY.out.below hb2
      have OY := OY.out.below hb2
      have XP := XP.out.below hb2
      have OP := OP.out.below hb2
      have OC := owns_below OC.out hb2
      have XR := QBox.new H2 M2 (Texts.of_own hown)
      have OR := (hown.below hb3).lower D.out.size
      have OD := owns_base (owns_below hrow hb3) D.out.size
      have D := D.out.trans (hb2.mono D.out.size)
      have XQ := Lib.hid XQ
      have RB := Lib.hid RB
      have XO := Lib.hid XO
      have OM := Lib.hid OM
      have XX := Lib.hid XX
      have OX := Lib.hid OX
      have XY := Lib.hid XY
      have OY := Lib.hid OY
      have XP := Lib.hid XP
      have OP := Lib.hid OP
      have OC := Lib.hid OC
      have XR := Lib.hid XR
      have OR := Lib.hid OR
      have OD := Lib.hid OD
      have D := Lib.hid D
      obtain ⟨c0, c1, c2⟩ := XO.out.cells
      clear hown hbn hb2 hb3 N hrow
      go_wp2_with fail
      obtain ⟨BR, hB⟩ : ∃ x, x = w13.heap.size := ⟨_, rfl⟩
      rw [← hB] at XR ⊢
      obtain ⟨w14, hW⟩ : ∃ x : World, x = (w13.alloc (.cells #[.slice AR I2.length cR, .int .i64 H2, .int .i64 M2] 24)) := ⟨_, rfl⟩
      rw [← hW] at XQ RB XO OM XX OX XY OY XP OP OC XR OR OD D c0 c1 c2 ⊢
      clear hB hW
      have N := Lib.hid (HLI.out AO len0 cO w14 XO.out.txt)
      clear c0 c1 c2
      refine N.out.mono ?_
      rintro e w15 ⟨AL, cL, rfl, hown, hbn⟩
      have hb2 := hbn
      have XQ := XQ.out.below hb2
      have RB := RB.out.below hb2
      have XO := XO.out.below hb2
      have OM := owns_below OM.out hb2
      have XX := XX.out.below hb2
      have OX := OX.out.below hb2
      have XY := XY.out.below hb2
      have OY := OY.out.below hb2
      have XP := XP.out.below hb2
      have OP := OP.out.below hb2
      have OC := owns_below OC.out hb2
      have XR := XR.out.below hb2
      have OR := OR.out.below hb2
      have OD := owns_below OD.out hb2
      have OL := hown.lower D.out.size
      have D := D.out.trans (hb2.mono D.out.size)
      clear hown hbn hb2 N
      have XQ := Lib.hid XQ
      have RB := Lib.hid RB
      have XO := Lib.hid XO
      have OM := Lib.hid OM
      have XX := Lib.hid XX
      have OX := Lib.hid OX
      have XY := Lib.hid XY
      have OY := Lib.hid OY
      have XP := Lib.hid XP
      have OP := Lib.hid OP
      have OC := Lib.hid OC
      have XR := Lib.hid XR
      have OR := Lib.hid OR
      have OD := Lib.hid OD
      have OL := Lib.hid OL
      have D := Lib.hid D
      obtain ⟨c0, c1, c2⟩ := XQ.out.cells
      go_wp2_with fail
      have N := Lib.hid (HRLI.out a0 len0 cap0 w15 XQ.out.txt)
      clear c0 c1 c2
      refine N.out.mono ?_
      rintro e w16 ⟨AK, cK, rfl, hown, hbn⟩
      have hb2 := hbn
      have XQ := XQ.out.below hb2
      have RB := RB.out.below hb2
      have XO := XO.out.below hb2
      have OM := owns_below OM.out hb2
      have XX := XX.out.below hb2
      have OX := OX.out.below hb2
      have XY := XY.out.below hb2
      have OY := OY.out.below hb2
      have XP := XP.out.below hb2
      have OP := OP.out.below hb2
      have OC := owns_below OC.out hb2
      have XR := XR.out.below hb2
      have OR := OR.out.below hb2
      have OD := owns_below OD.out hb2
      have OL := OL.out.below hb2
      have OK := hown.lower D.out.size
      have D := D.out.trans (hb2.mono D.out.size)
      clear hown hbn hb2 N
      have XQ := Lib.hid XQ
      have RB := Lib.hid RB
      have XO := Lib.hid XO
      have OM := Lib.hid OM
      have XX := Lib.hid XX
      have OX := Lib.hid OX
      have XY := Lib.hid XY
      have OY := Lib.hid OY
      have XP := Lib.hid XP
      have OP := Lib.hid OP
      have OC := Lib.hid OC
      have XR := Lib.hid XR
      have OR := Lib.hid OR
      have OD := Lib.hid OD
      have OL := Lib.hid OL
      have OK := Lib.hid OK
      have D := Lib.hid D
      go_wp2
      have hcur : Below w16.heap.size w16 w16.drew := below_drewN (Below.refl _ _) 1
      have keepX : ∀ wx, Below w16.heap.size w16 wx → wx.cell? ⟨BO, 0, none⟩ = some (.slice AO len0 cO) ∧ wx.cell? ⟨BO, 1, none⟩ = some (.int .i64 h0) ∧ wx.cell? ⟨BO, 2, none⟩ = some (.int .i64 m0) ∧ wx.cell? ⟨w.heap.size, 0, none⟩ = some (.slice a0 len0 cap0) ∧ wx.cell? ⟨w.heap.size, 1, none⟩ = some (.int .i64 h0) ∧ wx.cell? ⟨w.heap.size, 2, none⟩ = some (.int .i64 m0) ∧ wx.cell? ⟨BX, 0, none⟩ = some (.slice AX I1.length cX) ∧ wx.cell? ⟨BX, 1, none⟩ = some (.int .i64 H1) ∧ wx.cell? ⟨BX, 2, none⟩ = some (.int .i64 M1) ∧ wx.cell? ⟨BY, 0, none⟩ = some (.slice AY I1.length cY) ∧ wx.cell? ⟨BY, 1, none⟩ = some (.int .i64 H1) ∧ wx.cell? ⟨BY, 2, none⟩ = some (.int .i64 M1) ∧ wx.cell? ⟨BP, 0, none⟩ = some (.slice AP I2.length cP) ∧ wx.cell? ⟨BP, 1, none⟩ = some (.int .i64 H2) ∧ wx.cell? ⟨BP, 2, none⟩ = some (.int .i64 M2) ∧ wx.cell? ⟨BR, 0, none⟩ = some (.slice AR I2.length cR) ∧ wx.cell? ⟨BR, 1, none⟩ = some (.int .i64 H2) ∧ wx.cell? ⟨BR, 2, none⟩ = some (.int .i64 M2) ∧ (convert 28 9 (.slice AC T2.length cC)).run Try.prog wx = .ok (.string (strOfNums T2)) wx ∧ (convert 28 9 (.slice AD T2.length cD)).run Try.prog wx = .ok (.string (strOfNums T2)) wx := fun wx hx => by
        obtain ⟨u00, u01, u02⟩ := (XO.out.below hx).cells
        obtain ⟨u10, u11, u12⟩ := (XQ.out.below hx).cells
        obtain ⟨u20, u21, u22⟩ := (XX.out.below hx).cells
        obtain ⟨u30, u31, u32⟩ := (XY.out.below hx).cells
        obtain ⟨u40, u41, u42⟩ := (XP.out.below hx).cells
        obtain ⟨u50, u51, u52⟩ := (XR.out.below hx).cells
        exact ⟨u00, u01, u02, u10, u11, u12, u20, u21, u22, u30, u31, u32, u40, u41, u42, u50, u51, u52, str_arg (Arg.own (owns_below OC.out hx)), str_arg (Arg.own (owns_below OD.out hx))⟩
      have hkX := keepX _ hcur
      go_region_held3 (fun w' => w'.cell? ⟨BO, 0, none⟩ = some (.slice AO len0 cO) ∧ w'.cell? ⟨BO, 1, none⟩ = some (.int .i64 h0) ∧ w'.cell? ⟨BO, 2, none⟩ = some (.int .i64 m0) ∧ w'.cell? ⟨w.heap.size, 0, none⟩ = some (.slice a0 len0 cap0) ∧ w'.cell? ⟨w.heap.size, 1, none⟩ = some (.int .i64 h0) ∧ w'.cell? ⟨w.heap.size, 2, none⟩ = some (.int .i64 m0) ∧ w'.cell? ⟨BX, 0, none⟩ = some (.slice AX I1.length cX) ∧ w'.cell? ⟨BX, 1, none⟩ = some (.int .i64 H1) ∧ w'.cell? ⟨BX, 2, none⟩ = some (.int .i64 M1) ∧ w'.cell? ⟨BY, 0, none⟩ = some (.slice AY I1.length cY) ∧ w'.cell? ⟨BY, 1, none⟩ = some (.int .i64 H1) ∧ w'.cell? ⟨BY, 2, none⟩ = some (.int .i64 M1) ∧ w'.cell? ⟨BP, 0, none⟩ = some (.slice AP I2.length cP) ∧ w'.cell? ⟨BP, 1, none⟩ = some (.int .i64 H2) ∧ w'.cell? ⟨BP, 2, none⟩ = some (.int .i64 M2) ∧ w'.cell? ⟨BR, 0, none⟩ = some (.slice AR I2.length cR) ∧ w'.cell? ⟨BR, 1, none⟩ = some (.int .i64 H2) ∧ w'.cell? ⟨BR, 2, none⟩ = some (.int .i64 M2) ∧ (convert 28 9 (.slice AC T2.length cC)).run Try.prog w' = .ok (.string (strOfNums T2)) w' ∧ (convert 28 9 (.slice AD T2.length cD)).run Try.prog w' = .ok (.string (strOfNums T2)) w')
        (first | exact hkX | go_keep)
        (first
          | (go_at_call 18; refine (same_yes _ _ _ _ _ _ _ _ _ _ (by first | exact (XX.out.below hcur).txt | exact (XP.out.below hcur).txt) (by first | exact (XY.out.below hcur).txt | exact (XR.out.below hcur).txt)).mono ?_; rintro e wN ⟨rfl, hbN⟩; have hcur := hcur.trans (hbN.mono hcur.size); have hkX := keepX _ hcur)
          | (go_at_call 19; refine (sameAll_b _ _ _ LT _ _ _ _ (Texts.of_own (OL.out.below hcur)) (Texts.of_own (OK.out.below hcur))).mono ?_; rintro e wN ⟨rfl, hbN⟩; have hcur := hcur.trans (hbN.mono hcur.size); have hkX := keepX _ hcur)
          | (go_at_call 10; refine (HCK.out _ _ _ _ (XO.out.below hcur).txt).mono ?_; rintro e wN ⟨rfl, hbN⟩; have hcur := hcur.trans (hbN.mono hcur.size); have hkX := keepX _ hcur)
          | (go_at_call 20; refine (HRCK.out _ _ _ _ (XQ.out.below hcur).txt).mono ?_; rintro e wN ⟨rfl, hbN⟩; have hcur := hcur.trans (hbN.mono hcur.size); have hkX := keepX _ hcur))
      have HCUR := Lib.hid hcur
      have D := Lib.hid (D.out.trans (hcur.mono D.out.size))
      have XX := (XX.out.below hcur).blk
      have XP := Lib.hid (XP.out.below hcur).blk
      have OX := OX.out.below hcur
      have OP := Lib.hid (OP.out.below hcur)
      have OL := Lib.hid (OL.out.below hcur)
      have OC := Lib.hid (owns_below OC.out hcur)
      have t0 := XX.cell 0
      have t1 := XX.lt
      have hz0 := Lib.hid D.out.size
      have SP := Lib.hid (spoil_all AX I1.length cX w6.heap.size I1 wN OX D.out.size HSU.out.many HSU.out.at_)
      clear hcur hkX keepX XX OX hbN
      go_wp2_with fail
      refine SP.out.mono ?_
      rintro e wA ⟨rfl, hbA, hsA⟩
      have D := Lib.hid (D.out.trans hbA)
      have SA := Lib.hid hsA
      have XP := hsA.blk _ _ _ (by decide) XP.out
      obtain ⟨qP, hqP, hlP⟩ := hsA.txt _ _ _ _ _ OP.out
      clear SP t0 t1 hbA hsA
      have t0 := XP.cell 0
      have t1 := XP.lt
      have SP := Lib.hid (spoil_all AP I2.length cP w6.heap.size qP wA hqP D.out.size HSO.out.many (fun j => by rw [hlP j]; exact HSO.out.at_ j))
      clear XP hqP hlP
      go_wp2_with fail
      refine SP.out.mono ?_
      rintro e wB ⟨rfl, hbB, hsB⟩
      have D := Lib.hid (D.out.trans hbB)
      have SA := Lib.hid (SA.out.trans hsB)
      obtain ⟨qL, hqL, hlL⟩ := SA.out.txt _ _ _ _ _ OL.out
      clear SP t0 t1 hbB hsB
      have SP := Lib.hid (spoil_all AL LT.length cL w6.heap.size qL wB hqL D.out.size HSL.out.many (fun j => by rw [hlL j]; exact HSL.out.at_ j))
      clear hqL hlL
      go_wp2_with fail
      refine SP.out.mono ?_
      rintro e wC ⟨rfl, hbC, hsC⟩
      have D := Lib.hid (D.out.trans hbC)
      have SA := SA.out.trans hsC
      obtain ⟨tC, hbyC, hlC, hoC⟩ := SA.row _ _ _ _ _ CB.out OC.out
      have hone := one_text D.out.size hbyC hoC
      have D := Lib.hid (D.out.alloc D.out.size (.cells #[.slice AC T2.length cC] 28))
      have SP := Lib.hid (spoil_all (some ⟨wC.heap.size, 0, none⟩) 1 1 w6.heap.size [tC] (wC.alloc (.cells #[.slice AC T2.length cC] 28)) hone D.out.size (by decide) (fun j => by have := HST.out; cases j with | zero => simp; omega | succ j => simp))
      clear SA hbC hsC hone hbyC hlC hoC
      go_wp2_with fail
      refine SP.out.mono ?_
      rintro e wE ⟨rfl, hbE, hsE⟩
      have D := D.out.trans hbE
      have XO := XO6.out.below D
      have XQ := XQ6.out.below D
      obtain ⟨c0, c1, c2⟩ := XO.cells
      obtain ⟨d0, d1, d2⟩ := XQ.cells
      have K6 := Lib.hid (same_yes AO len0 cO h0 m0 z0 a0 len0 cap0 wE XO.txt XQ.txt)
      have D := Lib.hid D
      clear SP hbE hsE XO XQ
      go_wp2_with fail
      refine K6.out.mono ?_
      rintro e wF ⟨rfl, hbF⟩
      have D := D.out.trans (hbF.mono D.out.size)
      have e1 := str_arg (Arg.own (owns_below OM6.out D))
      have e2 := str_arg (RB6.out.below D)
      have BF := Lib.hid (B6.out.trans (D.mono B6.out.size))
      clear D hbF K6
      go_wp2
      go_ret
      exact ⟨rfl, BF.out⟩

end Go.Proofs.Ytbbnfbclbhkneaa
