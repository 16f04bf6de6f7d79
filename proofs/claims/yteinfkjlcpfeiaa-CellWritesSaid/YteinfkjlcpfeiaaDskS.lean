/- Layer 5, package disk: Same. -/
import Derived.Test.YteinfkjlcpfeiaaDskP4
namespace Go.Proofs.Yteinfkjlcpfeiaa
open Go.RowKit
set_option linter.unusedVariables false

theorem lists_yes {α : Type} {l m : List α} (z : α) (hl : l.length = m.length) (h : ∀ k, k < l.length → l.getD k z = m.getD k z) : l = m := by
  apply List.ext_getElem hl
  intro k h1 h2
  have := h k h1
  rwa [List.getD_eq_getElem?_getD, List.getD_eq_getElem?_getD, List.getElem?_eq_getElem h1, List.getElem?_eq_getElem h2] at this
theorem lists_no {α : Type} {l m : List α} (z : α) (k : Nat) (h : l.getD k z ≠ m.getD k z) : l ≠ m := fun e => h (by rw [e])

set_option maxRecDepth 100000 in
set_option maxHeartbeats 1600000 in
theorem sameSector_any (A : Option Addr) (n c : Nat) (x : Txt) (p : Bool) (A' : Option Addr) (n' c' : Nat) (y : Txt) (p' : Bool) (w : World) (hx : Arg w .u8 A n c x) (hy : Arg w .u8 A' n' c' y) (bx : ∀ z ∈ x, isByte z) (by_ : ∀ z ∈ y, isByte z) :
    Calls Try.prog 69 #[.agg #[.slice A n c, .bool p], .agg #[.slice A' n' c', .bool p']] w fun e w' => e = .returned (.bool (decide ((p, x) = (p', y)))) ∧ Below w.heap.size w w' := by
  obtain ⟨w1, hw1⟩ : ∃ w1, w1 = (w.alloc (.cells #[.slice A n c, .bool p] 39)).alloc (.cells #[.slice A' n' c', .bool p'] 39) := ⟨_, rfl⟩
  have hb : Below w.heap.size w w1 := by rw [hw1]; exact ((Below.refl _ _).alloc (Nat.le_refl _) _).alloc (by simp) _
  have b1 : Blk w1 w.heap.size 39 [.slice A n c, .bool p] := by rw [hw1]; exact (Blk.new w 39 [.slice A n c, .bool p]).grown (World.grownBy_alloc _ _ none) (by simp)
  have b2 : Blk w1 (w.heap.size + 1) 39 [.slice A' n' c', .bool p'] := by
    have := Blk.new (w.alloc (.cells #[.slice A n c, .bool p] 39)) 39 [.slice A' n' c', .bool p']
    rw [World.size_alloc] at this
    rw [hw1]; exact this
  have q0 := b1.cell 0
  have q1 := b1.cell 1
  have r0 := b2.cell 0
  have r1 := b2.cell 1
  simp only [List.getElem?_cons_zero, List.getElem?_cons_succ] at q0 q1 r0 r1
  have EQ := equal_any A n c x A' n' c' y w1 (hx.below hb) (hy.below hb) bx by_
  have HB := Lib.hid hb
  clear b1 b2 hx hy bx by_ hb
  by_cases hp : p = p'
  · subst hp
    have hpb : (p == p) = true := by simp
    have hpc : True := trivial
    have hR : decide ((p, x) = (p, y)) = decide (x = y) := by simp
    rw [hR]
    have EQ := Lib.hid EQ
    obtain ⟨R, hR⟩ : ∃ R, R = decide (x = y) := ⟨_, rfl⟩
    rw [← hR] at EQ ⊢
    clear hR
    cases p with
    | false =>
      go_enter Try.func69, Try.ntmps69
      go_wp2_with fail
      rw [← hw1]
      clear hw1
      refine EQ.out.mono ?_
      rintro e w' ⟨rfl, rfl⟩
      go_wp2
      go_ret
      exact ⟨rfl, HB.out⟩
    | true =>
      go_enter Try.func69, Try.ntmps69
      go_wp2_with fail
      rw [← hw1]
      clear hw1
      refine EQ.out.mono ?_
      rintro e w' ⟨rfl, rfl⟩
      go_wp2
      go_ret
      exact ⟨rfl, HB.out⟩
  · have hR : decide ((p, x) = (p', y)) = false := by
      apply decide_eq_false
      intro e
      injection e with e1 e2
      exact hp e1
    rw [hR]
    have hpb : (p == p') = false := beq_eq_false_iff_ne.2 hp
    have hpc : True := trivial
    clear hR EQ
    cases p with
    | false =>
      cases p' with
      | false => exact absurd rfl hp
      | true =>
        go_enter Try.func69, Try.ntmps69
        rw [hw1] at q0 q1 r0 r1 HB
        clear hw1
        go_wp2
        go_ret
        exact ⟨rfl, HB.out⟩
    | true =>
      cases p' with
      | true => exact absurd rfl hp
      | false =>
        go_enter Try.func69, Try.ntmps69
        rw [hw1] at q0 q1 r0 r1 HB
        clear hw1
        go_wp2
        go_ret
        exact ⟨rfl, HB.out⟩

set_option maxRecDepth 100000 in
set_option maxHeartbeats 1600000 in
theorem eqSecs_any (A : Option Addr) (n c : Nat) (S : List Sec) (A' : Option Addr) (n' c' : Nat) (S' : List Sec) (w : World) (h : Secs w A n c S) (h' : Secs w A' n' c' S') :
    Calls Try.prog 68 #[.slice A n c, .slice A' n' c', .func (.func 69) #[] #[]] w fun e w' => e = .returned (.bool (decide (S = S'))) ∧ Below w.heap.size w w' := by
  have hl := h.len
  have hl' := h'.len
  have hcm := Nat.le_trans h.cap h.max
  have hcm' := Nat.le_trans h'.cap h'.max
  unfold maxLen at hcm hcm'
  have YES := Lib.hid (fun a b => decide_eq_true (lists_yes (l := S) (m := S') (false, []) a b))
  have NO := Lib.hid (fun k a => decide_eq_false (lists_no (l := S) (m := S') (false, []) k a))
  have NL : S.length ≠ S'.length → decide (S = S') = false := fun hne => decide_eq_false (fun e => hne (by rw [e]))
  rw [hl, hl'] at YES NL
  obtain ⟨R, hR⟩ : ∃ R, R = decide (S = S') := ⟨_, rfl⟩
  rw [← hR] at YES NO NL ⊢
  have H := Lib.hid h
  have H' := Lib.hid h'
  clear h h' hl hl' hR
  by_cases hnn : n = n'
  · subst hnn
    have hq : ((n : Int) != (n : Int)) = false := by simp
    have hq2 : ¬ ((n : Int) ≠ (n : Int)) := fun h => h rfl
    have YES2 := Lib.hid (YES.out rfl)
    clear NL YES
    go_enter Try.func68, Try.ntmps68
    go_wp2
    go_loopw [17] (fun i wr => ∃ k : Nat, k ≤ n ∧ i = .int .i64 k ∧ (∀ y, y < k → S.getD y (false, []) = S'.getD y (false, [])) ∧ Below w.heap.size w wr) (fun i _ => n - (intOf i).toNat)
    case atStart => exact ⟨0, Nat.zero_le _, rfl, fun y hy => by omega, Below.refl _ _⟩
    case round =>
      obtain ⟨k, hk, rfl, hall, hb⟩ := hrel
      have ALL := Lib.hid hall
      have B := Lib.hid hb
      by_cases hkn : k < n
      · have hki : (k : Int) < (n : Int) := by omega
        obtain ⟨b, o, Ai, ni, ci, rfl, hlt, hc, hx, ha⟩ := (H.out.below hb).at_ k hkn
        obtain ⟨b', o', Ai', ni', ci', rfl, hlt', hc', hx', ha'⟩ := (H'.out.below hb).at_ k hkn
        have hby := H.out.byte_at k
        have hby' := H'.out.byte_at k
        obtain ⟨s, hs⟩ : ∃ s, s = S.getD k (false, []) := ⟨_, rfl⟩
        obtain ⟨s', hs'⟩ : ∃ s', s' = S'.getD k (false, []) := ⟨_, rfl⟩
        have NK := NO.out k
        rw [← hs] at hx ha hby NK
        rw [← hs'] at hx' ha' hby' NK
        have HS := Lib.hid hs
        have HS' := Lib.hid hs'
        obtain ⟨p, x⟩ := s
        obtain ⟨p', x'⟩ := s'
        obtain ⟨wb, hwb⟩ : ∃ wb, wb = (wr.alloc (.cells #[.slice Ai ni ci, .bool p] 39)).alloc (.cells #[.slice Ai' ni' ci', .bool p'] 39) := ⟨_, rfl⟩
        have hb2 : Below wr.heap.size wr wb := by rw [hwb]; exact ((Below.refl _ _).alloc (Nat.le_refl _) _).alloc (by simp) _
        have b1 : Blk wb wr.heap.size 39 [.slice Ai ni ci, .bool p] := by rw [hwb]; exact (Blk.new wr 39 [.slice Ai ni ci, .bool p]).grown (World.grownBy_alloc _ _ none) (by simp)
        have b2 : Blk wb (wr.heap.size + 1) 39 [.slice Ai' ni' ci', .bool p'] := by
          have := Blk.new (wr.alloc (.cells #[.slice Ai ni ci, .bool p] 39)) 39 [.slice Ai' ni' ci', .bool p']
          rw [World.size_alloc] at this
          rw [hwb]; exact this
        have q0 := b1.cell 0
        have q1 := b1.cell 1
        have r0 := b2.cell 0
        have r1 := b2.cell 1
        simp only [List.getElem?_cons_zero, List.getElem?_cons_succ] at q0 q1 r0 r1
        have e0 : (wr.alloc (.cells #[.slice Ai ni ci, .bool p] 39)).cell? ⟨b', o' + k * 2, none⟩ = wr.cell? ⟨b', o' + k * 2, none⟩ := World.cell?_alloc_lt _ _ _ hlt'
        have e1 : (wr.alloc (.cells #[.slice Ai ni ci, .bool p] 39)).cell? ⟨b', o' + k * 2 + 1, none⟩ = wr.cell? ⟨b', o' + k * 2 + 1, none⟩ := World.cell?_alloc_lt _ _ _ hlt'
        rw [hc'] at e0
        rw [hx'] at e1
        have SA := sameSector_any Ai ni ci x p Ai' ni' ci' x' p' wb (ha.below hb2) (ha'.below hb2) hby hby'
        have B2 := Lib.hid (hb.trans (hb2.mono hb.size))
        clear hall hb ha ha' hby hby' hs hs' hb2 b1 b2
        by_cases he : (p, x) = (p', x')
        · rw [decide_eq_true he] at SA
          have SA := Lib.hid SA
          have HE := Lib.hid he
          clear he NK
          go_wp2_with fail
          rw [← hwb]
          clear hwb
          refine SA.out.mono ?_
          rintro e w' ⟨rfl, hb3⟩
          have B3 := Lib.hid (B2.out.trans (hb3.mono B2.out.size))
          clear hb3
          go_wp2
          go_roundw
          case rel =>
            refine ⟨k + 1, by omega, by go_num, fun y hy => ?_, B3.out⟩
            rcases Nat.lt_or_ge y k with h' | h'
            · exact ALL.out y h'
            · obtain rfl : y = k := by omega
              rw [← HS.out, ← HS'.out]
              exact HE.out
          case measure => simp [intOf]; omega
        · rw [decide_eq_false he] at SA
          have SA := Lib.hid SA
          have HR := Lib.hid (NK he)
          clear he NK
          go_wp2_with fail
          rw [← hwb]
          clear hwb
          refine SA.out.mono ?_
          rintro e w' ⟨rfl, hb3⟩
          have B3 := Lib.hid (B2.out.trans (hb3.mono B2.out.size))
          clear hb3
          go_wp2
          go_ret
          rw [HR.out]
          exact ⟨rfl, B3.out⟩
      · obtain rfl : k = n := by omega
        have HR := Lib.hid (YES2.out hall)
        clear hall hb
        go_wp2
        go_ret
        rw [HR.out]
        exact ⟨rfl, B.out⟩
  · have hq : ((n : Int) != (n' : Int)) = true := bne_iff_ne.2 (by omega)
    have HR := Lib.hid (NL hnn)
    clear NL hnn
    go_enter Try.func68, Try.ntmps68
    go_wp2
    go_ret
    rw [HR.out]
    exact ⟨rfl, Below.refl _ _⟩

set_option maxRecDepth 100000 in
set_option maxHeartbeats 1600000 in
theorem sameWrite_any (A : Option Addr) (n c : Nat) (x : Txt) (p : Int) (A' : Option Addr) (n' c' : Nat) (y : Txt) (p' : Int) (w : World) (hx : Arg w .u8 A n c x) (hy : Arg w .u8 A' n' c' y) (bx : ∀ z ∈ x, isByte z) (by_ : ∀ z ∈ y, isByte z) :
    Calls Try.prog 71 #[.agg #[.int .i64 p, .slice A n c], .agg #[.int .i64 p', .slice A' n' c']] w fun e w' => e = .returned (.bool (decide ((p, x) = (p', y)))) ∧ Below w.heap.size w w' := by
  obtain ⟨w1, hw1⟩ : ∃ w1, w1 = (w.alloc (.cells #[.int .i64 p, .slice A n c] 63)).alloc (.cells #[.int .i64 p', .slice A' n' c'] 63) := ⟨_, rfl⟩
  have hb : Below w.heap.size w w1 := by rw [hw1]; exact ((Below.refl _ _).alloc (Nat.le_refl _) _).alloc (by simp) _
  have b1 : Blk w1 w.heap.size 63 [.int .i64 p, .slice A n c] := by rw [hw1]; exact (Blk.new w 63 [.int .i64 p, .slice A n c]).grown (World.grownBy_alloc _ _ none) (by simp)
  have b2 : Blk w1 (w.heap.size + 1) 63 [.int .i64 p', .slice A' n' c'] := by
    have := Blk.new (w.alloc (.cells #[.int .i64 p, .slice A n c] 63)) 63 [.int .i64 p', .slice A' n' c']
    rw [World.size_alloc] at this
    rw [hw1]; exact this
  have q0 := b1.cell 0
  have q1 := b1.cell 1
  have r0 := b2.cell 0
  have r1 := b2.cell 1
  simp only [List.getElem?_cons_zero, List.getElem?_cons_succ] at q0 q1 r0 r1
  have EQ := equal_any A n c x A' n' c' y w1 (hx.below hb) (hy.below hb) bx by_
  have HB := Lib.hid hb
  clear b1 b2 hx hy bx by_ hb
  by_cases hp : p = p'
  · subst hp
    have hpb : (p == p) = true := by simp
    have hpc : True := trivial
    have hR : decide ((p, x) = (p, y)) = decide (x = y) := by simp
    rw [hR]
    have EQ := Lib.hid EQ
    obtain ⟨R, hR⟩ : ∃ R, R = decide (x = y) := ⟨_, rfl⟩
    rw [← hR] at EQ ⊢
    clear hR
    go_enter Try.func71, Try.ntmps71
    go_wp2_with fail
    rw [← hw1]
    clear hw1
    refine EQ.out.mono ?_
    rintro e w' ⟨rfl, rfl⟩
    go_wp2
    go_ret
    exact ⟨rfl, HB.out⟩
  · have hR : decide ((p, x) = (p', y)) = false := by
      apply decide_eq_false
      intro e
      injection e with e1 e2
      exact hp e1
    rw [hR]
    have hpb : (p == p') = false := beq_eq_false_iff_ne.2 hp
    have hpc : True := trivial
    clear hR EQ
    go_enter Try.func71, Try.ntmps71
    rw [hw1] at q0 q1 r0 r1 HB
    clear hw1
    go_wp2
    go_ret
    exact ⟨rfl, HB.out⟩

set_option maxRecDepth 100000 in
set_option maxHeartbeats 1600000 in
theorem eqPnds_any (A : Option Addr) (n c : Nat) (S : List Pnd) (A' : Option Addr) (n' c' : Nat) (S' : List Pnd) (w : World) (h : Pnds w A n c S) (h' : Pnds w A' n' c' S') :
    Calls Try.prog 70 #[.slice A n c, .slice A' n' c', .func (.func 71) #[] #[]] w fun e w' => e = .returned (.bool (decide (S = S'))) ∧ Below w.heap.size w w' := by
  have hl := h.len
  have hl' := h'.len
  have hcm := Nat.le_trans h.cap h.max
  have hcm' := Nat.le_trans h'.cap h'.max
  unfold maxLen at hcm hcm'
  have YES := Lib.hid (fun a b => decide_eq_true (lists_yes (l := S) (m := S') (0, []) a b))
  have NO := Lib.hid (fun k a => decide_eq_false (lists_no (l := S) (m := S') (0, []) k a))
  have NL : S.length ≠ S'.length → decide (S = S') = false := fun hne => decide_eq_false (fun e => hne (by rw [e]))
  rw [hl, hl'] at YES NL
  obtain ⟨R, hR⟩ : ∃ R, R = decide (S = S') := ⟨_, rfl⟩
  rw [← hR] at YES NO NL ⊢
  have H := Lib.hid h
  have H' := Lib.hid h'
  clear h h' hl hl' hR
  by_cases hnn : n = n'
  · subst hnn
    have hq : ((n : Int) != (n : Int)) = false := by simp
    have hq2 : ¬ ((n : Int) ≠ (n : Int)) := fun h => h rfl
    have YES2 := Lib.hid (YES.out rfl)
    clear NL YES
    go_enter Try.func70, Try.ntmps70
    go_wp2
    go_loopw [17] (fun i wr => ∃ k : Nat, k ≤ n ∧ i = .int .i64 k ∧ (∀ y, y < k → S.getD y (0, []) = S'.getD y (0, [])) ∧ Below w.heap.size w wr) (fun i _ => n - (intOf i).toNat)
    case atStart => exact ⟨0, Nat.zero_le _, rfl, fun y hy => by omega, Below.refl _ _⟩
    case round =>
      obtain ⟨k, hk, rfl, hall, hb⟩ := hrel
      have ALL := Lib.hid hall
      have B := Lib.hid hb
      by_cases hkn : k < n
      · have hki : (k : Int) < (n : Int) := by omega
        obtain ⟨b, o, Ai, ni, ci, rfl, hlt, hc, hx, ha⟩ := (H.out.below hb).at_ k hkn
        obtain ⟨b', o', Ai', ni', ci', rfl, hlt', hc', hx', ha'⟩ := (H'.out.below hb).at_ k hkn
        have hby := H.out.byte_at k
        have hby' := H'.out.byte_at k
        obtain ⟨s, hs⟩ : ∃ s, s = S.getD k (0, []) := ⟨_, rfl⟩
        obtain ⟨s', hs'⟩ : ∃ s', s' = S'.getD k (0, []) := ⟨_, rfl⟩
        have NK := NO.out k
        rw [← hs] at hx ha hby NK
        rw [← hs'] at hx' ha' hby' NK
        have HS := Lib.hid hs
        have HS' := Lib.hid hs'
        obtain ⟨p, x⟩ := s
        obtain ⟨p', x'⟩ := s'
        obtain ⟨wb, hwb⟩ : ∃ wb, wb = (wr.alloc (.cells #[.int .i64 p, .slice Ai ni ci] 63)).alloc (.cells #[.int .i64 p', .slice Ai' ni' ci'] 63) := ⟨_, rfl⟩
        have hb2 : Below wr.heap.size wr wb := by rw [hwb]; exact ((Below.refl _ _).alloc (Nat.le_refl _) _).alloc (by simp) _
        have b1 : Blk wb wr.heap.size 63 [.int .i64 p, .slice Ai ni ci] := by rw [hwb]; exact (Blk.new wr 63 [.int .i64 p, .slice Ai ni ci]).grown (World.grownBy_alloc _ _ none) (by simp)
        have b2 : Blk wb (wr.heap.size + 1) 63 [.int .i64 p', .slice Ai' ni' ci'] := by
          have := Blk.new (wr.alloc (.cells #[.int .i64 p, .slice Ai ni ci] 63)) 63 [.int .i64 p', .slice Ai' ni' ci']
          rw [World.size_alloc] at this
          rw [hwb]; exact this
        have q0 := b1.cell 0
        have q1 := b1.cell 1
        have r0 := b2.cell 0
        have r1 := b2.cell 1
        simp only [List.getElem?_cons_zero, List.getElem?_cons_succ] at q0 q1 r0 r1
        have e0 : (wr.alloc (.cells #[.int .i64 p, .slice Ai ni ci] 63)).cell? ⟨b', o' + k * 2, none⟩ = wr.cell? ⟨b', o' + k * 2, none⟩ := World.cell?_alloc_lt _ _ _ hlt'
        have e1 : (wr.alloc (.cells #[.int .i64 p, .slice Ai ni ci] 63)).cell? ⟨b', o' + k * 2 + 1, none⟩ = wr.cell? ⟨b', o' + k * 2 + 1, none⟩ := World.cell?_alloc_lt _ _ _ hlt'
        rw [hx'] at e0
        rw [hc'] at e1
        have SA := sameWrite_any Ai ni ci x p Ai' ni' ci' x' p' wb (ha.below hb2) (ha'.below hb2) hby hby'
        have B2 := Lib.hid (hb.trans (hb2.mono hb.size))
        clear hall hb ha ha' hby hby' hs hs' hb2 b1 b2
        by_cases he : (p, x) = (p', x')
        · rw [decide_eq_true he] at SA
          have SA := Lib.hid SA
          have HE := Lib.hid he
          clear he NK
          go_wp2_with fail
          rw [← hwb]
          clear hwb
          refine SA.out.mono ?_
          rintro e w' ⟨rfl, hb3⟩
          have B3 := Lib.hid (B2.out.trans (hb3.mono B2.out.size))
          clear hb3
          go_wp2
          go_roundw
          case rel =>
            refine ⟨k + 1, by omega, by go_num, fun y hy => ?_, B3.out⟩
            rcases Nat.lt_or_ge y k with h' | h'
            · exact ALL.out y h'
            · obtain rfl : y = k := by omega
              rw [← HS.out, ← HS'.out]
              exact HE.out
          case measure => simp [intOf]; omega
        · rw [decide_eq_false he] at SA
          have SA := Lib.hid SA
          have HR := Lib.hid (NK he)
          clear he NK
          go_wp2_with fail
          rw [← hwb]
          clear hwb
          refine SA.out.mono ?_
          rintro e w' ⟨rfl, hb3⟩
          have B3 := Lib.hid (B2.out.trans (hb3.mono B2.out.size))
          clear hb3
          go_wp2
          go_ret
          rw [HR.out]
          exact ⟨rfl, B3.out⟩
      · obtain rfl : k = n := by omega
        have HR := Lib.hid (YES2.out hall)
        clear hall hb
        go_wp2
        go_ret
        rw [HR.out]
        exact ⟨rfl, B.out⟩
  · have hq : ((n : Int) != (n' : Int)) = true := bne_iff_ne.2 (by omega)
    have HR := Lib.hid (NL hnn)
    clear NL hnn
    go_enter Try.func70, Try.ntmps70
    go_wp2
    go_ret
    rw [HR.out]
    exact ⟨rfl, Below.refl _ _⟩


set_option maxRecDepth 100000 in
set_option maxHeartbeats 1600000 in
theorem psame_any (A : Option Addr) (n c : Nat) (A' : Option Addr) (n' c' : Nat) (S : List Sec) (C : List Pnd) (B : Option Addr) (m d : Nat) (B' : Option Addr) (m' d' : Nat) (T : List Sec) (D : List Pnd) (w : World) (hq : Dsk w A n c A' n' c' S C) (hr : Dsk w B m d B' m' d' T D) :
    Calls Try.prog 36 #[diskV A n c A' n' c', diskV B m d B' m' d'] w fun e w' => e = .returned (.bool (sameD S C T D)) ∧ Below w.heap.size w w' := by
  obtain ⟨b1, b2, hb⟩ := boxes2 w A n c A' n' c' B m d B' m' d'
  obtain ⟨w1, hw1⟩ : ∃ w1, w1 = (w.alloc (.cells #[.slice A n c, .slice A' n' c'] 25)).alloc (.cells #[.slice B m d, .slice B' m' d'] 25) := ⟨_, rfl⟩
  rw [← hw1] at b1 b2 hb
  have q0 := b1.cell 0
  have r0 := b2.cell 0
  simp only [List.getElem?_cons_zero] at q0 r0
  have hsd : sameD S C T D = (decide (S = T) && decide (C = D)) := by unfold sameD; simp
  rw [hsd]
  have hl1 := b1.lt
  have hl2 := b2.lt
  have E1 := eqSecs_any A n c S B m d T w1 (hq.below hb).secs (hr.below hb).secs
  have E2 := Lib.hid (fun w2 (hb2 : Below w1.heap.size w1 w2) => eqPnds_any A' n' c' C B' m' d' D w2 ((hq.below hb).below hb2).pnds ((hr.below hb).below hb2).pnds)
  have HB := Lib.hid hb
  have b1 := Lib.hid b1
  have b2 := Lib.hid b2
  clear hq hr hb hsd
  cases he : decide (S = T) with
  | false =>
    rw [he] at E1
    rw [Bool.false_and]
    have E1 := Lib.hid E1
    clear he
    go_enter Try.func36, Try.ntmps36
    go_wp2_with fail
    rw [← hw1]
    clear hw1
    refine E1.out.mono ?_
    rintro e w2 ⟨rfl, hb2⟩
    have B2 := Lib.hid (HB.out.trans (hb2.mono HB.out.size))
    clear hb2
    go_wp2
    go_ret
    exact ⟨rfl, B2.out⟩
  | true =>
    rw [he] at E1
    rw [Bool.true_and]
    have E1 := Lib.hid E1
    obtain ⟨R, hR⟩ : ∃ R, R = decide (C = D) := ⟨_, rfl⟩
    rw [← hR] at E2 ⊢
    clear he hR
    go_enter Try.func36, Try.ntmps36
    go_wp2_with fail
    rw [← hw1]
    clear hw1
    refine E1.out.mono ?_
    rintro e w2 ⟨rfl, hb2⟩
    have B2 := Lib.hid (HB.out.trans (hb2.mono HB.out.size))
    have E3 := Lib.hid (E2.out w2 hb2)
    have q1 := (b1.out.below hb2 hl1).cell 1
    have r1 := (b2.out.below hb2 hl2).cell 1
    simp only [List.getElem?_cons_zero, List.getElem?_cons_succ] at q1 r1
    clear hb2
    go_wp2_with fail
    refine E3.out.mono ?_
    rintro e w3 ⟨rfl, hb3⟩
    have B3 := Lib.hid (B2.out.trans (hb3.mono B2.out.size))
    clear hb3
    go_wp2
    go_ret
    exact ⟨rfl, B3.out⟩

end Go.Proofs.Yteinfkjlcpfeiaa
