/- Layer 5: the document's own: what is asked of a sector: its error, whether a write waits, what is read. -/
/- Layer 5: the document's own: a disk with a write more. -/
/- Layer 5: the document's own: a write. -/
import Derived.Test.YteinfkjlcpfeiaaDiskR4
import Derived.Lib.QuoteBits
import Derived.Deep.Cut
namespace Go.Proofs.Yteinfkjlcpfeiaa
open Go.RowKit
set_option linter.unusedVariables false

/-- What a call hands back beside a number: bytes of its own. -/
def BytesOut (w : World) (b : Txt) (E : Int) (e : Ending) (w' : World) : Prop :=
  ∃ A c, e = .returned (.tuple #[.slice A b.length c, .int .i64 E]) ∧ w'.ownsRow w.heap.size 5 1 (.slice A b.length c) b.length (ints .u8 b) ∧ Below w.heap.size w w'

theorem asked_any (A : Option Addr) (n c : Nat) (A' : Option Addr) (n' c' : Nat) (S : List Sec) (C : List Pnd) (at_ : Int) (w : World) (hq : Dsk w A n c A' n' c' S C) :
    Calls Try.prog 55 #[diskV A n c A' n' c', .int .i64 at_] w fun e w' => e = .returned (.int .i64 (askE S C at_)) ∧ Below w.heap.size w w' := by
  have hbel : Below w.heap.size w (w.alloc (.cells #[.slice A n c, .slice A' n' c'] 25)) := (Below.refl _ _).alloc (Nat.le_refl _) _
  have M := may_any A n c A' n' c' S C _ (hq.below hbel)
  have x := Blk.new w 25 [.slice A n c, .slice A' n' c']
  have X := Lib.hid x
  have hl := hq.secs.len
  have c0 := x.cell 0
  have c1 := x.cell 1
  simp only [List.getElem?_cons_zero, List.getElem?_cons_succ] at c0 c1
  unfold askE
  rw [hl]
  have BEL := Lib.hid hbel
  have hz1 : (w.alloc (.cells #[.slice A n c, .slice A' n' c'] 25)).heap.size = w.heap.size + 1 := World.size_alloc _ _
  have HZ1 := Lib.hid hz1
  cases hR : mayD S C with
  | false =>
    rw [hR] at M
    have M := Lib.hid M
    simp only [Bool.false_eq_true, if_false]
    clear hbel hR hq hl x hz1
    go_enter Try.func55, Try.ntmps55
    go_wp2_with fail
    refine M.out.mono ?_
    rintro e w2 ⟨rfl, hb2⟩
    have B2 := Lib.hid (BEL.out.trans (hb2.mono BEL.out.size))
    clear hb2
    go_wp2
    go_ret
    exact ⟨rfl, B2.out⟩
  | true =>
    rw [hR] at M
    have M := Lib.hid M
    simp only [if_true]
    clear hbel hR hq hl x hz1
    by_cases a0 : at_ < 0
    · go_enter Try.func55, Try.ntmps55
      go_wp2_with fail
      refine M.out.mono ?_
      rintro e w2 ⟨rfl, hb2⟩
      have B2 := Lib.hid (BEL.out.trans (hb2.mono BEL.out.size))
      clear hb2
      go_wp2
      go_ret
      exact ⟨rfl, B2.out⟩
    · by_cases a1 : (n : Int) ≤ at_
      · go_enter Try.func55, Try.ntmps55
        go_wp2_with fail
        refine M.out.mono ?_
        rintro e w2 ⟨rfl, hb2⟩
        have B2 := Lib.hid (BEL.out.trans (hb2.mono BEL.out.size))
        have d0 := (X.out.below hb2 (by rw [HZ1.out]; exact Nat.lt_succ_self _)).cell 0
        simp only [List.getElem?_cons_zero] at d0
        clear hb2
        go_wp2
        go_ret
        exact ⟨rfl, B2.out⟩
      · go_enter Try.func55, Try.ntmps55
        go_wp2_with fail
        refine M.out.mono ?_
        rintro e w2 ⟨rfl, hb2⟩
        have B2 := Lib.hid (BEL.out.trans (hb2.mono BEL.out.size))
        have d0 := (X.out.below hb2 (by rw [HZ1.out]; exact Nat.lt_succ_self _)).cell 0
        simp only [List.getElem?_cons_zero] at d0
        clear hb2
        go_wp2
        go_ret
        exact ⟨rfl, B2.out⟩

theorem pend_hit {C : List Pnd} {at_ : Int} {k : Nat} (hk : k < C.length) (h : (C.getD k (0, [])).1 = at_) : pendB C at_ = true := by
  unfold pendB
  rw [List.any_eq_true]
  rw [List.getD_eq_getElem?_getD, List.getElem?_eq_getElem hk, Option.getD_some] at h
  exact ⟨C[k], List.getElem_mem hk, by rw [h]; simp⟩
theorem pend_none {C : List Pnd} {at_ : Int} (h : ∀ y, y < C.length → (C.getD y (0, [])).1 ≠ at_) : pendB C at_ = false := by
  unfold pendB
  rw [List.any_eq_false]
  intro p hp
  obtain ⟨k, hk, rfl⟩ := List.getElem_of_mem hp
  have := h k hk
  rw [List.getD_eq_getElem?_getD, List.getElem?_eq_getElem hk, Option.getD_some] at this
  simpa using this
theorem lastW_none {C : List Pnd} {at_ : Int} (h : ∀ y, y < C.length → (C.getD y (0, [])).1 ≠ at_) : lastW C at_ = none := by
  unfold lastW
  rw [show C.reverse.find? (fun p => decide (p.1 = at_)) = none from ?_]
  · rfl
  · rw [List.find?_eq_none]
    intro p hp
    obtain ⟨k, hk, rfl⟩ := List.getElem_of_mem (List.mem_reverse.1 hp)
    have := h k hk
    rw [List.getD_eq_getElem?_getD, List.getElem?_eq_getElem hk, Option.getD_some] at this
    simpa using this
theorem lastW_hit {C : List Pnd} {at_ : Int} {j : Nat} (hj : j < C.length) (h1 : (C.getD j (0, [])).1 = at_) (h : ∀ y, j < y → y < C.length → (C.getD y (0, [])).1 ≠ at_) : lastW C at_ = some (C.getD j (0, [])).2 := by
  unfold lastW
  have e : C = C.take j ++ (C[j] :: C.drop (j + 1)) := by
    rw [← List.drop_eq_getElem_cons hj, List.take_append_drop]
  have eg : C.getD j (0, []) = C[j] := by rw [List.getD_eq_getElem?_getD, List.getElem?_eq_getElem hj, Option.getD_some]
  rw [eg] at h1 ⊢
  have hd : (C.drop (j + 1)).reverse.find? (fun p => decide (p.1 = at_)) = none := by
    rw [List.find?_eq_none]
    intro p hp
    obtain ⟨k, hk, rfl⟩ := List.getElem_of_mem (List.mem_reverse.1 hp)
    rw [List.length_drop] at hk
    have := h (j + 1 + k) (by omega) (by omega)
    rw [List.getD_eq_getElem?_getD, List.getElem?_eq_getElem (by omega), Option.getD_some] at this
    rw [List.getElem_drop]
    simpa using this
  have hr : C.reverse = (C.drop (j + 1)).reverse ++ ([C[j]] ++ (C.take j).reverse) := by
    conv => lhs; rw [e]
    simp
  rw [hr, List.find?_append, hd, List.find?_append]
  simp [h1]

set_option maxHeartbeats 800000 in
theorem pending_any (A : Option Addr) (n c : Nat) (A' : Option Addr) (n' c' : Nat) (S : List Sec) (C : List Pnd) (at_ : Int) (w : World) (hq : Dsk w A n c A' n' c' S C) :
    Calls Try.prog 58 #[diskV A n c A' n' c', .int .i64 at_] w fun e w' => e = .returned (.bool (pendB C at_)) ∧ Below w.heap.size w w' := by
  have hbel : Below w.heap.size w (w.alloc (.cells #[.slice A n c, .slice A' n' c'] 25)) := (Below.refl _ _).alloc (Nat.le_refl _) _
  have HQ := hq.below hbel
  obtain ⟨c0, c1⟩ := box_disk w A n c A' n' c'
  have hl' := hq.pnds.len
  have hcm' := Nat.le_trans hq.pnds.cap hq.pnds.max
  unfold maxLen at hcm'
  have YES := Lib.hid fun k (hk : k < n') => pend_hit (C := C) (at_ := at_) (k := k) (by omega)
  have hno := pend_none (C := C) (at_ := at_)
  rw [hl'] at hno
  have NO := Lib.hid hno
  obtain ⟨R, hR⟩ : ∃ R, R = pendB C at_ := ⟨_, rfl⟩
  rw [← hR] at YES NO ⊢
  obtain ⟨w1, hw1⟩ : ∃ w1, w1 = w.alloc (.cells #[.slice A n c, .slice A' n' c'] 25) := ⟨_, rfl⟩
  rw [← hw1] at hbel HQ c0 c1
  have HQ := Lib.hid HQ
  have BEL := Lib.hid hbel
  clear hq hbel hno hR hl'
  go_enter Try.func58, Try.ntmps58
  go_wp2
  rw [← hw1]
  clear hw1
  go_loop [5] (fun i => ∃ k : Nat, k ≤ n' ∧ i = .int .i64 k ∧ ∀ y, y < k → (C.getD y (0, [])).1 ≠ at_) (fun i => n' - (intOf i).toNat)
  case atStart => exact ⟨0, Nat.zero_le _, rfl, fun y hy => by omega⟩
  case round =>
    obtain ⟨k, hk, rfl, hall⟩ := hrel
    have ALL := Lib.hid hall
    clear hall
    by_cases hkn : k < n'
    · have hki : (k : Int) < (n' : Int) := by omega
      obtain ⟨b, o, Ai, ni, ci, rfl, hlt, hc, hx, ha⟩ := HQ.out.pnds.at_ k hkn
      obtain ⟨p, hp⟩ : ∃ p, p = (C.getD k (0, [])).1 := ⟨_, rfl⟩
      rw [← hp] at hx
      have YK := Lib.hid (YES.out k hkn)
      rw [← hp] at YK
      have HP := Lib.hid hp
      clear hp ha
      by_cases hpa : p = at_
      · have HY := Lib.hid (YK.out hpa)
        have hq2 : (p == at_) = true := by rw [hpa]; simp
        clear hpa
        go_wp2
        go_ret
        rw [HY.out]
        exact ⟨rfl, BEL.out⟩
      · have hq2 : (p == at_) = false := beq_eq_false_iff_ne.2 hpa
        have HN := Lib.hid hpa
        clear hpa
        go_wp2
        go_round
        case rel =>
          refine ⟨k + 1, by omega, by go_num, fun y hy => ?_⟩
          rcases Nat.lt_or_ge y k with h' | h'
          · exact ALL.out y h'
          · obtain rfl : y = k := by omega
            rw [← HP.out]
            exact HN.out
        case measure => simp [intOf]; omega
    · obtain rfl : k = n' := by omega
      have HN := Lib.hid (NO.out ALL.out)
      go_wp2
      go_ret
      rw [HN.out]
      exact ⟨rfl, BEL.out⟩

set_option maxRecDepth 100000 in
set_option maxHeartbeats 3200000 in
theorem got_any (A : Option Addr) (n c : Nat) (A' : Option Addr) (n' c' : Nat) (S : List Sec) (C : List Pnd) (a : Nat) (w : World) (hq : Dsk w A n c A' n' c' S C) (hs : SmallD S C) (han : a < n) :
    Calls Try.prog 57 #[diskV A n c A' n' c', .int .i64 (a : Int)] w fun e w' => ∃ B d, e = .returned (.tuple #[.slice B (gotB S C a).length d, .bool (gotOk S C a)]) ∧ w'.ownsRow w.heap.size 5 1 (.slice B (gotB S C a).length d) (gotB S C a).length (ints .u8 (gotB S C a)) ∧ Below w.heap.size w w' := by
  obtain ⟨i0, hi0, hz0, hz1, hz2⟩ := info_parts byte_info
  have hml : (1000 : Nat) ≤ maxLen := by decide
  have hbel : Below w.heap.size w (w.alloc (.cells #[.slice A n c, .slice A' n' c'] 25)) := (Below.refl _ _).alloc (Nat.le_refl _) _
  have HQ := hq.below hbel
  obtain ⟨c0, c1⟩ := box_disk w A n c A' n' c'
  have hl := hq.secs.len
  have hl' := hq.pnds.len
  have hn' := hs.pnds
  rw [hl'] at hn'
  have SM1 := Lib.hid (show (S.getD a (false, [])).2.length ≤ 100 from by
    have hk' : a < S.length := by rw [hl]; exact han
    rw [List.getD_eq_getElem?_getD, List.getElem?_eq_getElem hk', Option.getD_some]
    exact hs.long _ (List.getElem_mem hk'))
  have SM2 := Lib.hid fun k (hk : k < n') => (show (C.getD k (0, [])).2.length ≤ 100 from by
    have hk' : k < C.length := by rw [hl']; exact hk
    rw [List.getD_eq_getElem?_getD, List.getElem?_eq_getElem hk', Option.getD_some]
    exact hs.wide _ (List.getElem_mem hk'))
  have hhit : ∀ j, j < n' → (C.getD j (0, [])).1 = (a : Int) → (∀ y, j < y → y < n' → (C.getD y (0, [])).1 ≠ (a : Int)) → gotB S C a = (C.getD j (0, [])).2 ∧ gotOk S C a = true := fun j hj h1 h2 => by
    have := lastW_hit (C := C) (at_ := (a : Int)) (j := j) (by omega) h1 (fun y hy hy2 => h2 y hy (by omega))
    unfold gotB gotOk
    rw [this]
    exact ⟨rfl, rfl⟩
  have hnone : (∀ y, y < n' → (C.getD y (0, [])).1 ≠ (a : Int)) → gotB S C a = (S.getD a (false, [])).2 ∧ gotOk S C a = !(S.getD a (false, [])).1 := fun h1 => by
    have := lastW_none (C := C) (at_ := (a : Int)) (fun y hy => h1 y (by omega))
    unfold gotB gotOk secAt
    rw [this, Int.toNat_natCast]
    exact ⟨rfl, rfl⟩
  have HIT := Lib.hid hhit
  have NONE := Lib.hid hnone
  have hsz1 : (w.alloc (.cells #[.slice A n c, .slice A' n' c'] 25)).heap.size = w.heap.size + 1 := World.size_alloc _ _
  obtain ⟨B, hB⟩ : ∃ B, B = gotB S C a := ⟨_, rfl⟩
  obtain ⟨K, hK⟩ : ∃ K, K = gotOk S C a := ⟨_, rfl⟩
  rw [← hB, ← hK] at HIT NONE ⊢
  obtain ⟨w1, hw1⟩ : ∃ w1, w1 = w.alloc (.cells #[.slice A n c, .slice A' n' c'] 25) := ⟨_, rfl⟩
  rw [← hw1] at hbel HQ c0 c1 hsz1
  have HQ := Lib.hid HQ
  have BEL := Lib.hid hbel
  have HZ1 := Lib.hid hsz1
  have hw64 : ∀ k : Nat, k ≤ 100 → IntKind.i64.wrap ((k : Int) - 1) = (k : Int) - 1 := fun k hk => by
    cases k with
    | zero => rfl
    | succ k => have := Lib.wrap_i64_small k (by omega); rw [show ((k + 1 : Nat) : Int) - 1 = (k : Int) by omega]; exact this
  have HW := Lib.hid hw64
  clear hq hbel hl hl' hhit hnone hs hB hK hsz1 hw64
  have hwn := HW.out n' (by omega)
  go_enter Try.func57, Try.ntmps57
  go_wp2
  rw [← hw1]
  clear hw1 hwn
  go_loop [6] (fun i => ∃ k : Nat, k ≤ n' ∧ i = .int .i64 ((k : Int) - 1) ∧ ∀ y, k ≤ y → y < n' → (C.getD y (0, [])).1 ≠ (a : Int)) (fun i => ((intOf i) + 1).toNat)
  case atStart => exact ⟨n', Nat.le_refl _, rfl, fun y h1 h2 => by omega⟩
  case round =>
    obtain ⟨k, hk, rfl, hall⟩ := hrel
    have ALL := Lib.hid hall
    clear hall
    by_cases hk0 : k = 0
    · subst hk0
      obtain ⟨b, o, Ai, ni, ci, rfl, hlt, hc, hx, ha⟩ := HQ.out.secs.at_ a han
      obtain ⟨e1, e2⟩ := NONE.out (fun y hy => ALL.out y (Nat.zero_le _) hy)
      have hlen := ha.len
      have hsm := SM1.out
      obtain ⟨sec, hsec⟩ : ∃ sec, sec = S.getD a (false, []) := ⟨_, rfl⟩
      rw [← hsec] at e1 e2 hlen hsm hx ha
      obtain ⟨bad, t⟩ := sec
      dsimp only at e1 e2 hlen hsm hx ha
      have E1 := Lib.hid e1
      have E2 := Lib.hid e2
      have HA := Lib.hid (show Arg w1.drew .u8 Ai ni ci t from ha.below (below_drewN (Below.refl _ _) 1))
      have hni : ni ≤ 100 := by rw [← hlen]; exact hsm
      have hai : (a : Int) < (n : Int) := by omega
      have hblt := hlt
      have keepX : ∀ wx, Below w1.drew.heap.size w1.drew wx → wx.cell? ⟨w.heap.size, 0, none⟩ = some (.slice (some ⟨b, o, none⟩) n c) ∧ wx.cell? ⟨b, o + a * 2, none⟩ = some (.slice Ai ni ci) ∧ wx.cell? ⟨b, o + a * 2 + 1, none⟩ = some (.bool bad) := fun wx hx' =>
        ⟨(hx'.cell (p := ⟨w.heap.size, 0, none⟩) (by show w.heap.size < w1.heap.size; rw [HZ1.out]; exact Nat.lt_succ_self _)).trans c0, (hx'.cell (p := ⟨b, o + a * 2, none⟩) hblt).trans hc, (hx'.cell (p := ⟨b, o + a * 2 + 1, none⟩) hblt).trans hx⟩
      clear hsec e1 e2 hlen hsm ha
      go_wp2_with fail
      have hkX := keepX _ (Below.refl _ _)
      go_region_held3 (fun w' => w'.cell? ⟨w.heap.size, 0, none⟩ = some (.slice (some ⟨b, o, none⟩) n c) ∧ w'.cell? ⟨b, o + a * 2, none⟩ = some (.slice Ai ni ci) ∧ w'.cell? ⟨b, o + a * 2 + 1, none⟩ = some (.bool bad))
        (first | exact hkX | go_keep)
        ((refine step_dup_g w1.drew (by rfl) (.tmp 31) (.tmp 37) _ (by rfl) 5 i0 _ 1 Try.underlying31 hi0 hz0 hz1 hz2 rfl (by rfl) Ai ni ci (ints .u8 t) (by rfl) (by rw [ints_length, HA.out.len]) HA.out.seq (ints_one _ _) (by omega) (by omega) ?_; intro A2 c2 w2 hown2 hbX; have hkX := keepX w2 hbX))
      have O2 := Lib.hid hown2
      have B2 := Lib.hid ((below_drewN BEL.out 1).trans (hbX.mono (show w.heap.size ≤ w1.heap.size by rw [HZ1.out]; exact Nat.le_succ _)))
      have hbase : w.heap.size ≤ w1.heap.size := by rw [HZ1.out]; exact Nat.le_succ _
      clear hown2 hbX keepX hkX hc hx c0 c1
      go_wp2
      go_ret2
      have hl2 := HA.out.len
      rw [E1.out, E2.out, hl2]
      exact ⟨A2, c2, rfl, owns_base O2.out hbase, B2.out⟩
    · obtain ⟨j, rfl⟩ : ∃ j, k = j + 1 := ⟨k - 1, by omega⟩
      rw [show ((j + 1 : Nat) : Int) - 1 = (j : Int) by omega]
      have hjn : j < n' := by omega
      have hji : (j : Int) < (n' : Int) := by omega
      obtain ⟨b, o, Ai, ni, ci, rfl, hlt, hc, hx, ha⟩ := HQ.out.pnds.at_ j hjn
      have hj := HIT.out j hjn
      have hsm := SM2.out j hjn
      have hlen := ha.len
      obtain ⟨pnd, hpnd⟩ : ∃ p, p = C.getD j (0, []) := ⟨_, rfl⟩
      rw [← hpnd] at hj hsm hlen hx ha
      have HP := Lib.hid hpnd
      obtain ⟨p, t⟩ := pnd
      dsimp only at hj hsm hlen hx ha
      have HJ := Lib.hid hj
      have hni : ni ≤ 100 := by rw [← hlen]; exact hsm
      have HA := Lib.hid ha
      clear hpnd hj hsm hlen ha hk0 hk
      by_cases hpa : p = (a : Int)
      · obtain ⟨e1, e2⟩ := HJ.out hpa (fun y h1 h2 => ALL.out y h1 h2)
        have E1 := Lib.hid e1
        have E2 := Lib.hid e2
        subst hpa
        have c1a := (World.cell?_alloc_lt w1 (.cells #[] 5) ⟨w.heap.size, 1, none⟩ (by show w.heap.size < w1.heap.size; rw [HZ1.out]; exact Nat.lt_succ_self _)).trans c1
        have hca := (World.cell?_alloc_lt w1 (.cells #[] 5) ⟨b, o + j * 2 + 1, none⟩ hlt).trans hc
        clear e1 e2
        go_wp2_with (at_builtin; (refine wpList_dup_g w1 rfl (.tmp 23) (.tmp 29) _ rfl 5 i0 _ 1 Try.underlying31 hi0 hz0 hz1 hz2 rfl rfl Ai ni ci (ints .u8 t) rfl (by rw [ints_length, HA.out.len]) HA.out.seq (ints_one _ _) (by omega) (by omega) ?_); intro A2 c2 w2 hown2 hbX; have O2 := Lib.hid hown2; have B2 := Lib.hid (BEL.out.trans (hbX.mono (show w.heap.size ≤ w1.heap.size by rw [HZ1.out]; exact Nat.le_succ _))); clear hown2 hbX)
        go_ret2
        have hl2 := HA.out.len
        have hbase : w.heap.size ≤ w1.heap.size := by rw [HZ1.out]; exact Nat.le_succ _
        rw [E1.out, E2.out, hl2]
        exact ⟨A2, c2, rfl, owns_base O2.out hbase, B2.out⟩
      · have hq2 : (p == (a : Int)) = false := beq_eq_false_iff_ne.2 hpa
        have HN := Lib.hid hpa
        have hwj := HW.out j (by omega)
        clear hpa
        go_wp2
        go_round
        case rel =>
          refine ⟨j, by omega, by go_num, fun y h1 h2 => ?_⟩
          rcases Nat.lt_or_ge j y with h' | h'
          · exact ALL.out y h' h2
          · obtain rfl : y = j := by omega
            rw [← HP.out]
            exact HN.out
        case measure => simp [intOf]

theorem waits_any (A : Option Addr) (n c : Nat) (A' : Option Addr) (n' c' : Nat) (S : List Sec) (C : List Pnd) (at_ : Int) (w : World) (hq : Dsk w A n c A' n' c' S C) :
    Calls Try.prog 26 #[diskV A n c A' n' c', .int .i64 at_] w fun e w' => e = .returned (.tuple #[.bool (waB S C at_), .int .i64 (askE S C at_)]) ∧ Below w.heap.size w w' := by
  have hbel : Below w.heap.size w (w.alloc (.cells #[.slice A n c, .slice A' n' c'] 25)) := (Below.refl _ _).alloc (Nat.le_refl _) _
  have K := asked_any A n c A' n' c' S C at_ _ (hq.below hbel)
  have PE := Lib.hid fun w2 hx => pending_any A n c A' n' c' S C at_ w2 hx
  have HQ := Lib.hid (hq.below hbel)
  have x := Blk.new w 25 [.slice A n c, .slice A' n' c']
  have X := Lib.hid x
  have c0 := x.cell 0
  have c1 := x.cell 1
  simp only [List.getElem?_cons_zero, List.getElem?_cons_succ] at c0 c1
  have BEL := Lib.hid hbel
  have hz1 : (w.alloc (.cells #[.slice A n c, .slice A' n' c'] 25)).heap.size = w.heap.size + 1 := World.size_alloc _ _
  have HZ1 := Lib.hid hz1
  unfold waB
  obtain ⟨E, hE⟩ : ∃ E, E = askE S C at_ := ⟨_, rfl⟩
  rw [← hE] at K ⊢
  clear hbel hq x hz1 hE
  by_cases h0 : E = 0
  · subst h0
    have K := Lib.hid K
    simp only [if_true]
    go_enter Try.func26, Try.ntmps26
    go_wp2_with fail
    refine K.out.mono ?_
    rintro e w2 ⟨rfl, hb2⟩
    have B2 := Lib.hid (BEL.out.trans (hb2.mono BEL.out.size))
    have x2 := X.out.below hb2 (by rw [HZ1.out]; exact Nat.lt_succ_self _)
    have d0 := x2.cell 0
    have d1 := x2.cell 1
    simp only [List.getElem?_cons_zero, List.getElem?_cons_succ] at d0 d1
    have P := Lib.hid (PE.out w2 (HQ.out.below hb2))
    clear hb2 x2 c0 c1
    go_wp2_with fail
    refine P.out.mono ?_
    rintro e w3 ⟨rfl, hb3⟩
    have B3 := Lib.hid (B2.out.trans (hb3.mono B2.out.size))
    clear hb3
    go_wp2
    go_ret2
    exact ⟨rfl, B3.out⟩
  · rw [if_neg h0]
    have K := Lib.hid K
    have hne : (E != 0) = true := bne_iff_ne.2 h0
    clear h0
    go_enter Try.func26, Try.ntmps26
    go_wp2_with fail
    refine K.out.mono ?_
    rintro e w2 ⟨rfl, hb2⟩
    have B2 := Lib.hid (BEL.out.trans (hb2.mono BEL.out.size))
    clear hb2
    go_wp2
    go_ret2
    exact ⟨rfl, B2.out⟩

theorem ask_zero {S : List Sec} {C : List Pnd} {at_ : Int} (h : askE S C at_ = 0) : mayD S C = true ∧ ∃ a : Nat, at_ = a ∧ a < S.length := by
  unfold askE at h
  cases hR : mayD S C with
  | false => rw [hR] at h; simp at h
  | true =>
    rw [hR] at h
    simp only [if_true] at h
    by_cases hx : at_ < 0 ∨ (S.length : Int) ≤ at_
    · rw [if_pos hx] at h; omega
    · exact ⟨rfl, at_.toNat, by omega, by omega⟩

theorem read_any (A : Option Addr) (n c : Nat) (A' : Option Addr) (n' c' : Nat) (S : List Sec) (C : List Pnd) (at_ : Int) (w : World) (hq : Dsk w A n c A' n' c' S C) (hs : SmallD S C) :
    Calls Try.prog 25 #[diskV A n c A' n' c', .int .i64 at_] w (BytesOut w (rdB S C at_) (rdE S C at_)) := by
  have hbel : Below w.heap.size w (w.alloc (.cells #[.slice A n c, .slice A' n' c'] 25)) := (Below.refl _ _).alloc (Nat.le_refl _) _
  have K := asked_any A n c A' n' c' S C at_ _ (hq.below hbel)
  have HQ := Lib.hid (hq.below hbel)
  have x := Blk.new w 25 [.slice A n c, .slice A' n' c']
  have X := Lib.hid x
  have c0 := x.cell 0
  have c1 := x.cell 1
  simp only [List.getElem?_cons_zero, List.getElem?_cons_succ] at c0 c1
  have BEL := Lib.hid hbel
  have hz1 : (w.alloc (.cells #[.slice A n c, .slice A' n' c'] 25)).heap.size = w.heap.size + 1 := World.size_alloc _ _
  have HZ1 := Lib.hid hz1
  by_cases h0 : askE S C at_ = 0
  · obtain ⟨_, a, rfl, han⟩ := ask_zero h0
    rw [hq.secs.len] at han
    have GE := Lib.hid fun w2 hx => got_any A n c A' n' c' S C a w2 hx hs han
    rw [h0] at K
    have K := Lib.hid K
    have hE : rdE S C (a : Int) = if gotOk S C a then 0 else 50 := by unfold rdE; rw [if_pos h0]
    have hB : rdB S C (a : Int) = if gotOk S C a then gotB S C a else [] := by
      unfold rdB
      rw [hE]
      cases gotOk S C (a : Int) <;> rfl
    rw [hE, hB]
    obtain ⟨G, hG⟩ : ∃ G, G = gotB S C a := ⟨_, rfl⟩
    obtain ⟨OK, hOK⟩ : ∃ OK, OK = gotOk S C a := ⟨_, rfl⟩
    rw [← hG, ← hOK] at GE ⊢
    clear hbel hq x hz1 hs h0 hE hB hG hOK
    cases OK with
    | true =>
      simp only [if_true]
      go_enter Try.func25, Try.ntmps25
      go_wp2_with fail
      refine K.out.mono ?_
      rintro e w2 ⟨rfl, hb2⟩
      have B2 := Lib.hid (BEL.out.trans (hb2.mono BEL.out.size))
      have x2 := X.out.below hb2 (by rw [HZ1.out]; exact Nat.lt_succ_self _)
      have d0 := x2.cell 0
      have d1 := x2.cell 1
      simp only [List.getElem?_cons_zero, List.getElem?_cons_succ] at d0 d1
      have P := Lib.hid (GE.out w2 (HQ.out.below hb2))
      clear hb2 x2 c0 c1
      go_wp2_with fail
      refine P.out.mono ?_
      rintro e w3 ⟨B, d, rfl, hown, hb3⟩
      have O3 := Lib.hid (owns_base hown B2.out.size)
      have B3 := Lib.hid (B2.out.trans (hb3.mono B2.out.size))
      clear hb3 hown
      go_wp2
      go_ret2
      exact ⟨B, d, rfl, O3.out, B3.out⟩
    | false =>
      simp only [Bool.false_eq_true, if_false]
      go_enter Try.func25, Try.ntmps25
      go_wp2_with fail
      refine K.out.mono ?_
      rintro e w2 ⟨rfl, hb2⟩
      have B2 := Lib.hid (BEL.out.trans (hb2.mono BEL.out.size))
      have x2 := X.out.below hb2 (by rw [HZ1.out]; exact Nat.lt_succ_self _)
      have d0 := x2.cell 0
      have d1 := x2.cell 1
      simp only [List.getElem?_cons_zero, List.getElem?_cons_succ] at d0 d1
      have P := Lib.hid (GE.out w2 (HQ.out.below hb2))
      clear hb2 x2 c0 c1
      go_wp2_with fail
      refine P.out.mono ?_
      rintro e w3 ⟨B, d, rfl, hown, hb3⟩
      have B3 := Lib.hid (B2.out.trans (hb3.mono B2.out.size))
      clear hb3 hown
      go_wp2
      go_ret2
      exact ⟨none, 0, rfl, World.ownsRow_nil _ _ _ _, B3.out⟩
  · have hE : rdE S C at_ = askE S C at_ := by unfold rdE; rw [if_neg h0]
    have hB : rdB S C at_ = [] := by unfold rdB; rw [hE, if_neg h0]
    rw [hE, hB]
    obtain ⟨E, hEE⟩ : ∃ E, E = askE S C at_ := ⟨_, rfl⟩
    rw [← hEE] at K h0 ⊢
    have K := Lib.hid K
    have hne : (E != 0) = true := bne_iff_ne.2 h0
    clear hbel hq x hz1 hs h0 hE hB hEE
    go_enter Try.func25, Try.ntmps25
    go_wp2_with fail
    refine K.out.mono ?_
    rintro e w2 ⟨rfl, hb2⟩
    have B2 := Lib.hid (BEL.out.trans (hb2.mono BEL.out.size))
    clear hb2
    go_wp2
    go_ret2
    exact ⟨none, 0, rfl, World.ownsRow_nil _ _ _ _, B2.out⟩

end Go.Proofs.Yteinfkjlcpfeiaa

namespace Go.Proofs.Yteinfkjlcpfeiaa
open Go.RowKit
set_option linter.unusedVariables false

/-- What a call hands back beside a number: a disk of its own. -/
def DiskOut (w : World) (S : List Sec) (C : List Pnd) (E : Int) (e : Ending) (w' : World) : Prop :=
  ∃ A c A' c', e = .returned (.tuple #[diskV A S.length c A' C.length c', .int .i64 E]) ∧ OwnDsk w' w.heap.size A S.length c A' C.length c' S C ∧ Below w.heap.size w w'

set_option maxRecDepth 100000 in
set_option maxHeartbeats 6400000 in
theorem with_any (A : Option Addr) (n c : Nat) (A' : Option Addr) (n' c' : Nat) (S : List Sec) (C : List Pnd) (at_ : Int) (Ab : Option Addr) (nb cb : Nat) (b : Txt) (w : World) (hq : Dsk w A n c A' n' c' S C) (hs : SmallD S C) (hb : Arg w .u8 Ab nb cb b) (hby : ∀ z ∈ b, isByte z) (hbl : b.length ≤ 100) :
    Calls Try.prog 56 #[diskV A n c A' n' c', .int .i64 at_, .slice Ab nb cb] w fun e w' => ∃ B d B' d', e = .returned (diskV B n d B' (n' + 1) d') ∧ OwnDsk w' w.heap.size B n d B' (n' + 1) d' S (C ++ [(at_, b)]) ∧ Below w.heap.size w w' := by
  obtain ⟨i0, hi0, hz0, hz1, hz2⟩ := info_parts byte_info
  have hml : (1000 : Nat) ≤ maxLen := by decide
  obtain ⟨x1, x2, hbel⟩ := boxes2 w A n c A' n' c' none 0 0 none 0 0
  have T := twin_any A n c A' n' c' S C _ (hq.below hbel) hs
  have hn' := hs.pnds
  rw [hq.pnds.len] at hn'
  have c0 := x1.cell 0
  have c1 := x1.cell 1
  simp only [List.getElem?_cons_zero, List.getElem?_cons_succ] at c0 c1
  have hsz : ((w.alloc (.cells #[.slice A n c, .slice A' n' c'] 25)).alloc (.cells #[.slice none 0 0, .slice none 0 0] 25)).heap.size = w.heap.size + 2 := by simp
  have hnb : nb ≤ 100 := by rw [← hb.len]; exact hbl
  have HB := Lib.hid hb
  have HBY := Lib.hid hby
  obtain ⟨w1, hw1⟩ : ∃ w1, w1 = (w.alloc (.cells #[.slice A n c, .slice A' n' c'] 25)).alloc (.cells #[.slice none 0 0, .slice none 0 0] 25) := ⟨_, rfl⟩
  rw [← hw1] at x1 x2 hbel T c0 c1 hsz
  have X1 := Lib.hid x1
  have X2 := Lib.hid x2
  have BEL := Lib.hid hbel
  have T := Lib.hid T
  have HSZ := Lib.hid hsz
  clear x1 x2 hbel hq hs hb hby hbl hsz
  go_enter Try.func56, Try.ntmps56
  rw [hw1] at c0 c1 T
  go_wp2_with fail
  refine T.out.mono ?_
  rintro e w4 ⟨B, d, B', d', rfl, hown, hb4⟩
  rw [← hw1] at hown hb4 T
  have hz1' := HSZ.out
  have hz4 := hb4.size
  have x2 := X2.out.below hb4 (by omega)
  have xg := Blk.new w4 25 [.slice B n d, .slice B' n' d']
  have x2 := x2.grown (World.grownBy_alloc w4 (.cells #[.slice B n d, .slice B' n' d'] 25) none) (by simp)
  have O5 := hown.below ((Below.refl _ _).alloc (Nat.le_refl _) (.cells #[.slice B n d, .slice B' n' d'] 25))
  have B5 := (BEL.out.trans (hb4.mono BEL.out.size)).alloc (Nat.le_trans BEL.out.size hz4) (.cells #[.slice B n d, .slice B' n' d'] 25)
  clear c0 c1 T hown hb4
  go_wp2
  obtain ⟨G, hG⟩ : ∃ G, G = w4.heap.size := ⟨_, rfl⟩
  rw [← hG] at xg hz4 ⊢
  obtain ⟨w5, hw5⟩ : ∃ w5, w5 = w4.alloc (.cells #[.slice B n d, .slice B' n' d'] 25) := ⟨_, rfl⟩
  have hz5 : w5.heap.size = G + 1 := by rw [hw5, hG]; exact World.size_alloc _ _
  change Blk (w4.alloc (.cells #[.slice B n d, .slice B' n' d'] 25)) G 25 [.slice B n d, .slice B' n' d'] at xg
  rw [← hw5] at x2 xg O5 B5 ⊢
  have X2 := Lib.hid (show Blk w5.drew (w.heap.size + 1) 25 [.slice none 0 0, .slice none 0 0] from x2)
  have XG := Lib.hid (show Blk w5.drew G 25 [.slice B n d, .slice B' n' d'] from xg)
  have OD := Lib.hid (show OwnDsk w5.drew w1.heap.size B n d B' n' d' S C from O5.below (below_drewN (Below.refl _ _) 1))
  have BD := Lib.hid (show Below w.heap.size w w5.drew from below_drewN B5 1)
  have HBD := Lib.hid (show Arg w5.drew .u8 Ab nb cb b from HB.out.below BD.out)
  have q1 := xg.cell 1
  simp only [List.getElem?_cons_zero, List.getElem?_cons_succ] at q1
  have hGl : G < w5.drew.heap.size := by show G < w5.heap.size; omega
  have hle : w1.heap.size ≤ w5.drew.heap.size := by show _ ≤ w5.heap.size; omega
  have keepS : ∀ wx, Below w5.drew.heap.size w5.drew wx → wx.cell? ⟨G, 1, none⟩ = some (.slice B' n' d') := fun wx hx => (hx.cell (p := ⟨G, 1, none⟩) hGl).trans q1
  have hHeld := keepS w5.drew (Below.refl _ _)
  have hGw : w1.heap.size ≤ G := hz4
  have HS1 := Lib.hid hz1'
  clear hw5 hG x2 xg O5 B5 hz5 hz4 q1 hw1
  refine wp_region_to 10 (fun w' => w'.cell? ⟨G, 1, none⟩ = some (.slice B' n' d')) (by kernel_rfl) ?_
  refine wpAnyG_take (i := 0) (v := ?_) rfl (by kernel_rfl) (by kernel_rfl) (by kernel_rfl) (by kernel_rfl) (by kernel_rfl) rfl (fun _ _ _ h => h) (Or.inl ⟨by rfl, ?_⟩) hHeld ?_
  rotate_left
  · (intro w' hSw; (try dsimp only at hSw); go_simp; (try with_reducible rfl))
  simp only [Act.put, List.setIfInBounds_toArray]
  refine wpAnyG_take (i := 1) (v := ?_) rfl (by kernel_rfl) (by kernel_rfl) (by kernel_rfl) (by kernel_rfl) (by kernel_rfl) rfl (fun _ _ _ h => h) (Or.inl ⟨by rfl, ?_⟩) hHeld ?_
  rotate_left
  · (intro w' hSw; (try dsimp only at hSw); go_simp; (try with_reducible rfl))
  simp only [Act.put]
  refine wpAnyG_take (i := 2) (v := ?_) rfl (by kernel_rfl) (by kernel_rfl) (by kernel_rfl) (by kernel_rfl) (by kernel_rfl) rfl (fun _ _ _ h => h) (Or.inl ⟨by rfl, ?_⟩) hHeld ?_
  rotate_left
  · (intro w' hSw; (try dsimp only at hSw); go_simp; (try with_reducible rfl))
  simp only [Act.put]
  refine wpAnyG_take (i := 4) (v := ?_) rfl (by kernel_rfl) (by kernel_rfl) (by kernel_rfl) (by kernel_rfl) (by kernel_rfl) rfl (fun _ _ _ h => h) (Or.inl ⟨by rfl, ?_⟩) hHeld ?_
  rotate_left
  · (intro w' hSw; (try dsimp only at hSw); go_simp; (try with_reducible rfl))
  simp only [Act.put]
  refine wpAnyG_one (i := 3) (by kernel_rfl) rfl (fun K hK => ?_)
  go_simp
  refine hK.out _ _ (fun _ => keepS _ ((Below.refl _ _).alloc (Nat.le_refl _) _)) (fun hHeld => ?_)
  have hHeld := hHeld (by decide)
  clear hK K
  try simp only [Act.put, List.setIfInBounds_toArray, List.set_cons_zero, List.set_cons_succ]
  refine wpAnyG_one (i := 5) (by kernel_rfl) rfl (fun K hK => ?_)
  refine step_dup_g w5.drew (by rfl) (.tmp 13) (.tmp 14) _ (by rfl) 5 i0 _ 1 Try.underlying31 hi0 hz0 hz1 hz2 rfl (by rfl) Ab nb cb (ints .u8 b) (by rfl) (by rw [ints_length, HBD.out.len]) HBD.out.seq (ints_one _ _) (by omega) (by omega) ?_
  intro A6 c6 w6 hown6 hb6
  refine hK.out _ _ (fun _ => keepS _ hb6) (fun hHeld => ?_)
  have hHeld := hHeld (by decide)
  clear hK K
  try simp only [Act.put, List.setIfInBounds_toArray]
  refine wpAnyG_take (i := 6) (v := ?_) rfl (by kernel_rfl) (by kernel_rfl) (by kernel_rfl) (by kernel_rfl) (by kernel_rfl) rfl (fun _ _ _ h => h) (Or.inl ⟨by rfl, ?_⟩) hHeld ?_
  rotate_left
  · (intro w' hSw; (try dsimp only at hSw); go_simp; (try with_reducible rfl))
  simp only [Act.put]
  refine wpAnyG_one (i := 7) (by kernel_rfl) rfl (fun K hK => ?_)
  go_simp
  refine hK.out _ _ (fun _ => keepS _ (hb6.alloc hb6.size _)) (fun hHeld => ?_)
  have hHeld := hHeld (by decide)
  clear hK K
  try simp only [Act.put, List.setIfInBounds_toArray, List.set_cons_zero, List.set_cons_succ]
  refine wpAnyG_one (i := 8) (by kernel_rfl) rfl (fun K hK => ?_)
  refine step_pnd w5.drew w6 (by rfl) (.tmp 11) (.tmp 17) (by rfl) w1.heap.size B' n' d' C (by rfl) (OD.out.pnds.below hb6) A6 nb c6 at_ b HBY.out (owns_base hown6 hle) (by rfl) (by omega) (hb6.mono hle) hle ?_
  intro g7 c7 w7 hO7 hb7 hg7
  have x7 := ((XG.out.below hb6 hGl).grown (World.grownBy_alloc w6 (.cells #[.int .i64 at_, .slice A6 nb c6] 63) none) (by simp)).grown hg7 (((OD.out.pnds.below hb6).below ((Below.refl _ _).alloc (Nat.le_refl _) _)).not_blk ((XG.out.below hb6 hGl).grown (World.grownBy_alloc w6 (.cells #[.int .i64 at_, .slice A6 nb c6] 63) none) (by simp)))
  have l7 := x7.cell 1
  have f7 := x7.free 1
  simp only [List.getElem?_cons_zero, List.getElem?_cons_succ] at l7
  refine hK.out _ _ (fun _ => l7) (fun hHeld => ?_)
  have hHeld := hHeld (by decide)
  clear hK K
  try simp only [Act.put, List.setIfInBounds_toArray]
  refine wpAnyG_take (i := 9) (v := ?_) rfl (by kernel_rfl) (by kernel_rfl) (by kernel_rfl) (by kernel_rfl) (by kernel_rfl) rfl (fun _ _ _ h => h) (Or.inl ⟨by rfl, ?_⟩) hHeld ?_
  rotate_left
  · (intro w' hSw; (try dsimp only at hSw); go_simp; (try with_reducible rfl))
  simp only [Act.put]
  refine wpAnyG_one (i := 10) (by kernel_rfl) rfl (fun K hK => ?_)
  go_simp
  refine hK.out _ _ (fun h => absurd rfl h) (fun _ => ?_)
  clear hK K
  refine wpAnyG_done (by kernel_rfl) ?_ _
  have hz1' := HS1.out
  have x2 := (X2.out.below hb7 (by omega)).away (g' := G) (by omega) 1 (.slice (some ⟨g7, 0, none⟩) (n' + 1) c7)
  have xg := x7.set 1 (.slice (some ⟨g7, 0, none⟩) (n' + 1) c7)
  simp only [List.set_cons_zero, List.set_cons_succ] at xg
  have hsec := (((OD.out.secs.below hb6).below ((Below.refl _ _).alloc (Nat.le_refl _) _)).beside ((OD.out.pnds.below hb6).below ((Below.refl _ _).alloc (Nat.le_refl _) _)) hg7)
  have O8 := (OwnDsk.mk hsec hO7).box x7 1 (.slice (some ⟨g7, 0, none⟩) (n' + 1) c7)
  have B8 := (BD.out.trans (hb7.mono (by omega))).setCell (p := ⟨G, 1, none⟩) (show w.heap.size ≤ G by omega) (.slice (some ⟨g7, 0, none⟩) (n' + 1) c7)
  obtain ⟨w8, hw8⟩ : ∃ w8, w8 = w7.setCell ⟨G, 1, none⟩ (.slice (some ⟨g7, 0, none⟩) (n' + 1) c7) := ⟨_, rfl⟩
  rw [← hw8] at x2 xg O8 B8 ⊢
  have k0 := xg.cell 0
  have k1 := xg.cell 1
  have e0 := x2.cell 0
  have e1 := x2.cell 1
  have g0 := x2.free 0
  have g1 := x2.free 1
  simp only [List.getElem?_cons_zero, List.getElem?_cons_succ] at k0 k1 e0 e1
  have R2 := Lib.hid x2
  have O8 := Lib.hid O8
  have B8 := Lib.hid B8
  clear hw8 x2 xg hsec hO7 hb7 hg7 x7 l7 f7 hown6 hb6 keepS hHeld hz1'
  go_wp2
  have z := R2.out.two (.slice B n d) (.slice (some ⟨g7, 0, none⟩) (n' + 1) c7)
  have z0 := z.cell 0
  have z1 := z.cell 1
  simp only [List.getElem?_cons_zero, List.getElem?_cons_succ] at z0 z1
  have O9 := O8.out.two R2.out (.slice B n d) (.slice (some ⟨g7, 0, none⟩) (n' + 1) c7)
  have B9 := below_two B8.out (show w.heap.size ≤ w.heap.size + 1 by omega) (.slice B n d) (.slice (some ⟨g7, 0, none⟩) (n' + 1) c7)
  have hz1' := HS1.out
  refine bodyPost_ret (v := diskV B n d (some ⟨g7, 0, none⟩) (n' + 1) c7) ?_ rfl ⟨B, d, _, c7, rfl, O9.lower (by omega), B9⟩
  clear k0 k1 e0 e1 g0 g1
  simp [results, Try.f56, go_sem, z0, z1]

end Go.Proofs.Yteinfkjlcpfeiaa

namespace Go.Proofs.Yteinfkjlcpfeiaa
open Go.RowKit
set_option linter.unusedVariables false

set_option maxRecDepth 100000 in
set_option maxHeartbeats 3200000 in
theorem write_any (A : Option Addr) (n c : Nat) (A' : Option Addr) (n' c' : Nat) (S : List Sec) (C : List Pnd) (at_ : Int) (Ab : Option Addr) (nb cb : Nat) (b : Txt) (w : World) (hq : Dsk w A n c A' n' c' S C) (hs : SmallD S C) (hb : Arg w .u8 Ab nb cb b) (hby : ∀ z ∈ b, isByte z) (hbl : b.length ≤ 100) :
    Calls Try.prog 24 #[diskV A n c A' n' c', .int .i64 at_, .slice Ab nb cb] w (DiskOut w (wrS S C at_ b) (wrC S C at_ b) (wrE S C at_ b)) := by
  obtain ⟨x1, x2, hbel⟩ := boxes2 w A n c A' n' c' none 0 0 none 0 0
  have hsz : ((w.alloc (.cells #[.slice A n c, .slice A' n' c'] 25)).alloc (.cells #[.slice none 0 0, .slice none 0 0] 25)).heap.size = w.heap.size + 2 := by simp
  have K := asked_any A n c A' n' c' S C at_ _ (hq.below hbel)
  have X1 := Lib.hid x1
  have X2 := Lib.hid x2
  have BEL := Lib.hid hbel
  have HSZ := Lib.hid hsz
  have c0 := x1.cell 0
  have c1 := x1.cell 1
  simp only [List.getElem?_cons_zero, List.getElem?_cons_succ] at c0 c1
  have hlb := hb.len
  have hlp := hq.pnds.len
  have hls := hq.secs.len
  have hcb := Nat.le_trans hb.cap hb.max
  have hcp := Nat.le_trans hq.pnds.cap hq.pnds.max
  unfold maxLen at hcb hcp
  by_cases h0 : askE S C at_ = 0
  · have hE : wrE S C at_ b = if b.length = 32 then (if 64 ≤ C.length then 9 else 0) else 2 := by unfold wrE; rw [if_pos h0]
    rw [h0] at K
    have K := Lib.hid K
    by_cases h32 : nb = 32
    · by_cases h64 : 64 ≤ n'
      · have hE9 : wrE S C at_ b = 9 := by rw [hE, if_pos (by omega), if_pos (by omega)]
        rw [show wrS S C at_ b = [] by unfold wrS; rw [hE9]; rfl, show wrC S C at_ b = [] by unfold wrC; rw [hE9]; rfl, hE9]
        subst h32
        have h64i : (64 : Int) ≤ (n' : Int) := by omega
        clear hE hE9 h0 hq hs hb hby hbl hlb hlp hls x1 x2 hbel hsz
        go_enter Try.func24, Try.ntmps24
        go_wp2_with fail
        refine K.out.mono ?_
        rintro e w3 ⟨rfl, hb3⟩
        have x1 := X1.out.below hb3 (by have := HSZ.out; omega)
        have x2 := X2.out.below hb3 (by have := HSZ.out; omega)
        have d0 := x1.cell 0
        have d1 := x1.cell 1
        have e0 := x2.cell 0
        have e1 := x2.cell 1
        have g0 := x2.free 0
        have g1 := x2.free 1
        simp only [List.getElem?_cons_zero, List.getElem?_cons_succ] at d0 d1 e0 e1
        have R2 := Lib.hid x2
        have B3 := Lib.hid (BEL.out.trans (hb3.mono (by have := HSZ.out; omega)))
        clear hb3 x1 x2 c0 c1
        go_wp2
        have z := R2.out.two (.slice none 0 0) (.slice none 0 0)
        have z0 := z.cell 0
        have z1 := z.cell 1
        simp only [List.getElem?_cons_zero, List.getElem?_cons_succ] at z0 z1
        refine bodyPost_ret (v := .tuple #[diskV none 0 0 none 0 0, .int .i64 9]) ?_ rfl ⟨none, 0, none, 0, rfl, OwnDsk.nil _ _, below_two B3.out (by omega) _ _⟩
        clear d0 d1 e0 e1 g0 g1
        simp [results, Try.f24, go_sem, z0, z1]

      · have hE0 : wrE S C at_ b = 0 := by rw [hE, if_pos (by omega), if_neg (by omega)]
        rw [show wrS S C at_ b = S by unfold wrS; rw [hE0]; rfl, show wrC S C at_ b = C ++ [(at_, b)] by unfold wrC; rw [hE0]; rfl, hE0]
        have W := Lib.hid fun w3 hx hy => with_any A n c A' n' c' S C at_ Ab nb cb b w3 hx hs hy hby hbl
        subst h32
        have h64i : ¬ (64 : Int) ≤ (n' : Int) := by omega
        have HQ := Lib.hid hq
        have HB := Lib.hid hb
        have HLS := Lib.hid hls
        have HLP := Lib.hid (show (C ++ [(at_, b)]).length = n' + 1 by simp [hlp])
        clear hE hE0 h0 hq hs hb hby hbl hlb hlp hls x1 x2 hbel hsz
        go_enter Try.func24, Try.ntmps24
        go_wp2_with fail
        refine K.out.mono ?_
        rintro e w3 ⟨rfl, hb3⟩
        have x1 := X1.out.below hb3 (by have := HSZ.out; omega)
        have x2 := X2.out.below hb3 (by have := HSZ.out; omega)
        have d0 := x1.cell 0
        have d1 := x1.cell 1
        have e0 := x2.cell 0
        have e1 := x2.cell 1
        have g0 := x2.free 0
        have g1 := x2.free 1
        simp only [List.getElem?_cons_zero, List.getElem?_cons_succ] at d0 d1 e0 e1
        have R2 := Lib.hid x2
        have B3 := Lib.hid (BEL.out.trans (hb3.mono (by have := HSZ.out; omega)))
        have W := Lib.hid (W.out w3 (HQ.out.below B3.out) (HB.out.below B3.out))
        clear hb3 x1 x2 c0 c1 K e0 e1 g0 g1
        go_wp2_with fail
        refine W.out.mono ?_
        rintro e w4 ⟨B, d, B', d', rfl, hown, hb4⟩
        have hz3 : w.heap.size + 2 ≤ w3.heap.size := by have h1 := R2.out.lt; omega
        have x2 := R2.out.below hb4 (by omega)
        have e0 := x2.cell 0
        have e1 := x2.cell 1
        have g0 := x2.free 0
        have g1 := x2.free 1
        simp only [List.getElem?_cons_zero, List.getElem?_cons_succ] at e0 e1
        have Q2 := Lib.hid x2
        have O4 := Lib.hid hown
        have B4 := Lib.hid (B3.out.trans (hb4.mono B3.out.size))
        clear x2 hown hb4 d0 d1
        go_wp2
        have z := Q2.out.two (.slice B n d) (.slice B' (n' + 1) d')
        have z0 := z.cell 0
        have z1 := z.cell 1
        simp only [List.getElem?_cons_zero, List.getElem?_cons_succ] at z0 z1
        have O9 := O4.out.two Q2.out (.slice B n d) (.slice B' (n' + 1) d')
        have hls := HLS.out
        have hlp := HLP.out
        refine bodyPost_ret (v := .tuple #[diskV B n d B' (n' + 1) d', .int .i64 0]) ?_ rfl ⟨B, d, B', d', by rw [hls, hlp], by rw [hls, hlp]; exact O9.lower (by omega), below_two B4.out (by omega) _ _⟩
        clear e0 e1 g0 g1
        simp [results, Try.f24, go_sem, z0, z1]

    · have hE2 : wrE S C at_ b = 2 := by rw [hE, if_neg (by omega)]
      rw [show wrS S C at_ b = [] by unfold wrS; rw [hE2]; rfl, show wrC S C at_ b = [] by unfold wrC; rw [hE2]; rfl, hE2]
      have h32i : ((nb : Int) != 32) = true := bne_iff_ne.2 (by omega)
      clear hE hE2 h0 hq hs hb hby hbl hlb hlp hls x1 x2 hbel hsz
      go_enter Try.func24, Try.ntmps24
      go_wp2_with fail
      refine K.out.mono ?_
      rintro e w3 ⟨rfl, hb3⟩
      have x1 := X1.out.below hb3 (by have := HSZ.out; omega)
      have x2 := X2.out.below hb3 (by have := HSZ.out; omega)
      have d0 := x1.cell 0
      have d1 := x1.cell 1
      have e0 := x2.cell 0
      have e1 := x2.cell 1
      have g0 := x2.free 0
      have g1 := x2.free 1
      simp only [List.getElem?_cons_zero, List.getElem?_cons_succ] at d0 d1 e0 e1
      have R2 := Lib.hid x2
      have B3 := Lib.hid (BEL.out.trans (hb3.mono (by have := HSZ.out; omega)))
      clear hb3 x1 x2 c0 c1
      go_wp2
      have z := R2.out.two (.slice none 0 0) (.slice none 0 0)
      have z0 := z.cell 0
      have z1 := z.cell 1
      simp only [List.getElem?_cons_zero, List.getElem?_cons_succ] at z0 z1
      refine bodyPost_ret (v := .tuple #[diskV none 0 0 none 0 0, .int .i64 2]) ?_ rfl ⟨none, 0, none, 0, rfl, OwnDsk.nil _ _, below_two B3.out (by omega) _ _⟩
      clear d0 d1 e0 e1 g0 g1
      simp [results, Try.f24, go_sem, z0, z1]

  · have hE : wrE S C at_ b = askE S C at_ := by unfold wrE; rw [if_neg h0]
    rw [show wrS S C at_ b = [] by unfold wrS; rw [hE, if_neg h0], show wrC S C at_ b = [] by unfold wrC; rw [hE, if_neg h0], hE]
    obtain ⟨E, hEE⟩ : ∃ E, E = askE S C at_ := ⟨_, rfl⟩
    rw [← hEE] at K h0 ⊢
    have K := Lib.hid K
    have hne : (E != 0) = true := bne_iff_ne.2 h0
    clear hE hEE h0 hq hs hb hby hbl hlb hlp hls x1 x2 hbel hsz
    go_enter Try.func24, Try.ntmps24
    go_wp2_with fail
    refine K.out.mono ?_
    rintro e w3 ⟨rfl, hb3⟩
    have x1 := X1.out.below hb3 (by have := HSZ.out; omega)
    have x2 := X2.out.below hb3 (by have := HSZ.out; omega)
    have d0 := x1.cell 0
    have d1 := x1.cell 1
    have e0 := x2.cell 0
    have e1 := x2.cell 1
    have g0 := x2.free 0
    have g1 := x2.free 1
    simp only [List.getElem?_cons_zero, List.getElem?_cons_succ] at d0 d1 e0 e1
    have R2 := Lib.hid x2
    have B3 := Lib.hid (BEL.out.trans (hb3.mono (by have := HSZ.out; omega)))
    clear hb3 x1 x2 c0 c1
    go_wp2
    have z := R2.out.two (.slice none 0 0) (.slice none 0 0)
    have z0 := z.cell 0
    have z1 := z.cell 1
    simp only [List.getElem?_cons_zero, List.getElem?_cons_succ] at z0 z1
    refine bodyPost_ret (v := .tuple #[diskV none 0 0 none 0 0, .int .i64 E]) ?_ rfl ⟨none, 0, none, 0, rfl, OwnDsk.nil _ _, below_two B3.out (by omega) _ _⟩
    clear d0 d1 e0 e1 g0 g1
    simp [results, Try.f24, go_sem, z0, z1]

end Go.Proofs.Yteinfkjlcpfeiaa
