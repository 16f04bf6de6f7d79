/- Layer 5, package disk: Check, and whether a sector is there. -/
import Derived.Test.YtkbeeknnfndjgaaDskP3
namespace Go.Proofs.Ytkbeeknnfndjgaa
open Go.RowKit
set_option linter.unusedVariables false

theorem chk_yes {S : List Sec} {C : List Pnd} (h : 1 ≤ S.length ∧ S.length ≤ 1024) (hc : C.length ≤ 64) (h1 : S.all secOk = true) (h2 : C.all (pndOkI S.length) = true) : chkD S C = 0 := by
  unfold chkD mayD
  rw [decide_eq_true h.1, decide_eq_true h.2, decide_eq_true hc, h1, show C.all (pndOk S.length) = true from h2]
  rfl
theorem chk_no1 {S : List Sec} {C : List Pnd} (h : ¬ (1 ≤ S.length ∧ S.length ≤ 1024 ∧ C.length ≤ 64)) : chkD S C = 8 := by
  unfold chkD
  rw [if_neg]
  intro hm
  exact h ((mayD_iff S C).1 hm).1
theorem chk_no2 {S : List Sec} {C : List Pnd} (h : S.all secOk = false) : chkD S C = 8 := by
  unfold chkD mayD
  rw [h]
  simp
theorem chk_no3 {S : List Sec} {C : List Pnd} (h : C.all (pndOkI S.length) = false) : chkD S C = 8 := by
  unfold chkD mayD
  rw [show C.all (pndOk S.length) = false from h]
  simp

set_option maxRecDepth 100000 in
set_option maxHeartbeats 1600000 in
theorem check_any (A : Option Addr) (n c : Nat) (A' : Option Addr) (n' c' : Nat) (S : List Sec) (C : List Pnd) (w : World) (hq : Dsk w A n c A' n' c' S C) :
    Calls Try.prog 21 #[diskV A n c A' n' c'] w fun e w' => e = .returned (.int .i64 (chkD S C)) ∧ Below w.heap.size w w' := by
  have hbel : Below w.heap.size w (w.alloc (.cells #[.slice A n c, .slice A' n' c'] 25)) := (Below.refl _ _).alloc (Nat.le_refl _) _
  obtain ⟨c0, c1⟩ := box_disk w A n c A' n' c'
  have hl := hq.secs.len
  have hl' := hq.pnds.len
  have hcm := Nat.le_trans hq.secs.cap hq.secs.max
  have hcm' := Nat.le_trans hq.pnds.cap hq.pnds.max
  unfold maxLen at hcm hcm'
  have Y := chk_yes (S := S) (C := C)
  have N1 := chk_no1 (S := S) (C := C)
  have N2 := chk_no2 (S := S) (C := C)
  have N3 := chk_no3 (S := S) (C := C)
  rw [hl, hl'] at N1
  rw [hl] at Y N3
  rw [hl'] at Y
  obtain ⟨R, hR⟩ : ∃ R, R = chkD S C := ⟨_, rfl⟩
  rw [← hR] at Y N1 N2 N3 ⊢
  obtain ⟨w1, hw1⟩ : ∃ w1, w1 = w.alloc (.cells #[.slice A n c, .slice A' n' c'] 25) := ⟨_, rfl⟩
  have hsz : w1.heap.size = w.heap.size + 1 := by rw [hw1]; simp
  rw [← hw1] at hbel c0 c1
  have HQ := hq.below hbel
  have IM := isMany_any n w1
  have AS := areSectors_any A n c S w1 HQ.secs
  have AW := fun w2 (hb : Below w1.heap.size w1 w2) => areWrites_any n A' n' c' C w2 (HQ.pnds.below hb)
  have BEL := Lib.hid hbel
  clear hbel hq HQ hl hl' hR
  have IM := Lib.hid IM
  cases hm : decide (1 ≤ (n : Int) ∧ (n : Int) ≤ 1024) with
  | false =>
    have hmm := of_decide_eq_false hm
    have HR := Lib.hid (N1 (by omega))
    rw [hm] at IM
    clear hm hmm Y N1 N2 N3 AS AW
    go_enter Try.func21, Try.ntmps21
    go_wp2_with fail
    rw [← hw1]
    clear hw1
    refine IM.out.mono ?_
    rintro e w' ⟨rfl, rfl⟩
    go_wp2
    go_ret
    rw [HR.out]
    exact ⟨rfl, BEL.out⟩
  | true =>
    have hmm := of_decide_eq_true hm
    rw [hm] at IM
    by_cases h64 : n' ≤ 64
    · have h64i : ((n' : Int) > 64) = False := by simp; omega
      have h64d : decide ((64 : Int) < (n' : Int)) = false := decide_eq_false (by omega)
      cases hs : S.all secOk with
      | false =>
        have HR := Lib.hid (N2 hs)
        rw [hs] at AS
        have AS := Lib.hid AS
        clear hm hmm Y N1 N2 N3 AW hs
        go_enter Try.func21, Try.ntmps21
        go_wp2_with fail
        rw [← hw1]
        clear hw1
        refine IM.out.mono ?_
        rintro e w' ⟨rfl, rfl⟩
        go_wp2_with fail
        refine AS.out.mono ?_
        rintro e w2 ⟨rfl, hb2⟩
        have B2 := Lib.hid (BEL.out.trans (hb2.mono BEL.out.size))
        clear hb2
        go_wp2
        go_ret
        rw [HR.out]
        exact ⟨rfl, B2.out⟩
      | true =>
        rw [hs] at AS
        cases hp : C.all (pndOkI n) with
        | false =>
          rw [hp] at AW
          have HR := Lib.hid (N3 hp)
          have AS := Lib.hid AS
          have AW := Lib.hid AW
          clear hm hmm Y N1 N2 N3 hs hp
          go_enter Try.func21, Try.ntmps21
          go_wp2_with fail
          rw [← hw1]
          clear hw1
          refine IM.out.mono ?_
          rintro e w' ⟨rfl, rfl⟩
          go_wp2_with fail
          refine AS.out.mono ?_
          rintro e w2 ⟨rfl, hb2⟩
          have B2 := Lib.hid (BEL.out.trans (hb2.mono BEL.out.size))
          have d1 := (hb2.cell (p := ⟨w.heap.size, 1, none⟩) (by rw [hsz]; exact Nat.lt_succ_self _)).trans c1
          have AW := Lib.hid (AW.out w2 hb2)
          clear hb2
          go_wp2_with fail
          refine AW.out.mono ?_
          rintro e w3 ⟨rfl, hb3⟩
          have B3 := Lib.hid (B2.out.trans (hb3.mono B2.out.size))
          clear hb3
          go_wp2
          go_ret
          rw [HR.out]
          exact ⟨rfl, B3.out⟩
        | true =>
          rw [hp] at AW
          have HR := Lib.hid (Y (by omega) h64 hs hp)
          have AS := Lib.hid AS
          have AW := Lib.hid AW
          clear hm hmm Y N1 N2 N3 hs hp
          go_enter Try.func21, Try.ntmps21
          go_wp2_with fail
          rw [← hw1]
          clear hw1
          refine IM.out.mono ?_
          rintro e w' ⟨rfl, rfl⟩
          go_wp2_with fail
          refine AS.out.mono ?_
          rintro e w2 ⟨rfl, hb2⟩
          have B2 := Lib.hid (BEL.out.trans (hb2.mono BEL.out.size))
          have d1 := (hb2.cell (p := ⟨w.heap.size, 1, none⟩) (by rw [hsz]; exact Nat.lt_succ_self _)).trans c1
          have AW := Lib.hid (AW.out w2 hb2)
          clear hb2
          go_wp2_with fail
          refine AW.out.mono ?_
          rintro e w3 ⟨rfl, hb3⟩
          have B3 := Lib.hid (B2.out.trans (hb3.mono B2.out.size))
          clear hb3
          go_wp2
          go_ret
          rw [HR.out]
          exact ⟨rfl, B3.out⟩
    · have h64i : (64 : Int) < (n' : Int) := by omega
      have HR := Lib.hid (N1 (by omega))
      clear hm hmm Y N1 N2 N3 AS AW
      go_enter Try.func21, Try.ntmps21
      go_wp2_with fail
      rw [← hw1]
      clear hw1
      refine IM.out.mono ?_
      rintro e w' ⟨rfl, rfl⟩
      go_wp2
      go_ret
      rw [HR.out]
      exact ⟨rfl, BEL.out⟩

theorem ask_chk {S : List Sec} {C : List Pnd} {t : Int} (h : chkD S C ≠ 0) : askE S C t = chkD S C := by
  unfold askE chkD at *
  split at h
  · exact absurd rfl h
  · rename_i hm; rw [if_neg hm, if_neg hm]
theorem ask_at {S : List Sec} {C : List Pnd} {t : Int} (h : chkD S C = 0) : askE S C t = if 0 ≤ t ∧ t < (S.length : Int) then 0 else 2 := by
  unfold askE chkD at *
  split at h
  · rename_i hm
    rw [if_pos hm]
    by_cases hc : 0 ≤ t ∧ t < (S.length : Int)
    · rw [if_pos hc, if_neg (by omega)]
    · rw [if_neg hc, if_pos (by omega)]
  · omega

set_option maxRecDepth 100000 in
set_option maxHeartbeats 1600000 in
theorem checkAt_any (A : Option Addr) (n c : Nat) (A' : Option Addr) (n' c' : Nat) (S : List Sec) (C : List Pnd) (t : Int) (w : World) (hq : Dsk w A n c A' n' c' S C) :
    Calls Try.prog 50 #[diskV A n c A' n' c', .int .i64 t] w fun e w' => e = .returned (.int .i64 (askE S C t)) ∧ Below w.heap.size w w' := by
  have hbel : Below w.heap.size w (w.alloc (.cells #[.slice A n c, .slice A' n' c'] 25)) := (Below.refl _ _).alloc (Nat.le_refl _) _
  obtain ⟨c0, c1⟩ := box_disk w A n c A' n' c'
  have hl := hq.secs.len
  have hcm := Nat.le_trans hq.secs.cap hq.secs.max
  unfold maxLen at hcm
  have N := ask_chk (S := S) (C := C) (t := t)
  have Y := ask_at (S := S) (C := C) (t := t)
  rw [hl] at Y
  obtain ⟨w1, hw1⟩ : ∃ w1, w1 = w.alloc (.cells #[.slice A n c, .slice A' n' c'] 25) := ⟨_, rfl⟩
  have hsz : w1.heap.size = w.heap.size + 1 := by rw [hw1]; simp
  rw [← hw1] at hbel c0 c1
  have CK := check_any A n c A' n' c' S C w1 (hq.below hbel)
  obtain ⟨R, hR⟩ : ∃ R, R = askE S C t := ⟨_, rfl⟩
  obtain ⟨E, hE⟩ : ∃ E, E = chkD S C := ⟨_, rfl⟩
  rw [← hR, ← hE] at Y N
  rw [← hE] at CK
  rw [← hR]
  have CK := Lib.hid CK
  have BEL := Lib.hid hbel
  clear hq hbel hl hR hE
  by_cases he : E = 0
  · subst he
    have IA := isAt_any n t
    have HR := Y rfl
    by_cases hat : 0 ≤ t ∧ t < (n : Int)
    · rw [if_pos hat] at HR
      rw [decide_eq_true hat] at IA
      have HR := Lib.hid HR
      have IA := Lib.hid IA
      clear Y N hat
      go_enter Try.func50, Try.ntmps50
      go_wp2_with fail
      rw [← hw1]
      clear hw1
      refine CK.out.mono ?_
      rintro e w2 ⟨rfl, hb2⟩
      have B2 := Lib.hid (BEL.out.trans (hb2.mono BEL.out.size))
      have d0 := (hb2.cell (p := ⟨w.heap.size, 0, none⟩) (by rw [hsz]; exact Nat.lt_succ_self _)).trans c0
      clear hb2
      go_wp2_with fail
      refine (IA.out _).mono ?_
      rintro e w' ⟨rfl, rfl⟩
      go_wp2
      go_ret
      rw [HR.out]
      exact ⟨rfl, B2.out⟩
    · rw [if_neg hat] at HR
      rw [decide_eq_false hat] at IA
      have HR := Lib.hid HR
      have IA := Lib.hid IA
      clear Y N hat
      go_enter Try.func50, Try.ntmps50
      go_wp2_with fail
      rw [← hw1]
      clear hw1
      refine CK.out.mono ?_
      rintro e w2 ⟨rfl, hb2⟩
      have B2 := Lib.hid (BEL.out.trans (hb2.mono BEL.out.size))
      have d0 := (hb2.cell (p := ⟨w.heap.size, 0, none⟩) (by rw [hsz]; exact Nat.lt_succ_self _)).trans c0
      clear hb2
      go_wp2_with fail
      refine (IA.out _).mono ?_
      rintro e w' ⟨rfl, rfl⟩
      go_wp2
      go_ret
      rw [HR.out]
      exact ⟨rfl, B2.out⟩
  · have HR := Lib.hid (N he)
    have hne : (E != 0) = true := bne_iff_ne.2 he
    clear Y N he
    go_enter Try.func50, Try.ntmps50
    go_wp2_with fail
    rw [← hw1]
    clear hw1
    refine CK.out.mono ?_
    rintro e w2 ⟨rfl, hb2⟩
    have B2 := Lib.hid (BEL.out.trans (hb2.mono BEL.out.size))
    clear hb2
    go_wp2
    go_ret
    rw [HR.out]
    exact ⟨rfl, B2.out⟩

end Go.Proofs.Ytkbeeknnfndjgaa
