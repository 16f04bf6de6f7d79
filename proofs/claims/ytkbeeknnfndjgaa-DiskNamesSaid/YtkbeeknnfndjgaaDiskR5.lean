/- Layer 5: the document's own: what is asked of a sector: its error, whether a write waits, what is read. -/
import Derived.Test.YtkbeeknnfndjgaaDiskR4
import Derived.Lib.QuoteBits
namespace Go.Proofs.Ytkbeeknnfndjgaa
open Go.RowKit
set_option linter.unusedVariables false

/-- What a call hands back beside a number: bytes of its own. -/
def BytesOut (w : World) (b : Txt) (E : Int) (e : Ending) (w' : World) : Prop :=
  ∃ A c, e = .returned (.tuple #[.slice A b.length c, .int .i64 E]) ∧ w'.ownsRow w.heap.size 5 1 (.slice A b.length c) b.length (ints .u8 b) ∧ Below w.heap.size w w'

theorem asked_any (A : Option Addr) (n c : Nat) (A' : Option Addr) (n' c' : Nat) (S : List Sec) (C : List Pnd) (at_ : Int) (w : World) (hq : Dsk w A n c A' n' c' S C) :
    Calls Try.prog 55 #[diskV A n c A' n' c', .int .i64 at_] w fun e w' => e = .returned (.int .i64 (askE S C at_)) ∧ Below w.heap.size w w' := by
  have hbel : Below w.heap.size w (w.alloc (.cells #[.slice A n c, .slice A' n' c'] 25)) := (Below.refl _ _).alloc (Nat.le_refl _) _
  have M := may_any A n c A' n' c' S C _ (hq.below hbel)
  have x := Blk.new w 25 [.slice A n c, .slice A' n' c']
  have X := Lib.hid x
  have hl := hq.secs.len
  have c0 := x.cell 0
  have c1 := x.cell 1
  simp only [List.getElem?_cons_zero, List.getElem?_cons_succ] at c0 c1
  unfold askE
  rw [hl]
  have BEL := Lib.hid hbel
  have hz1 : (w.alloc (.cells #[.slice A n c, .slice A' n' c'] 25)).heap.size = w.heap.size + 1 := World.size_alloc _ _
  have HZ1 := Lib.hid hz1
  cases hR : mayD S C with
  | false =>
    rw [hR] at M
    have M := Lib.hid M
    simp only [Bool.false_eq_true, if_false]
    clear hbel hR hq hl x hz1
    go_enter Try.func55, Try.ntmps55
    go_wp2_with fail
    refine M.out.mono ?_
    rintro e w2 ⟨rfl, hb2⟩
    have B2 := Lib.hid (BEL.out.trans (hb2.mono BEL.out.size))
    clear hb2
    go_wp2
    go_ret
    exact ⟨rfl, B2.out⟩
  | true =>
    rw [hR] at M
    have M := Lib.hid M
    simp only [if_true]
    clear hbel hR hq hl x hz1
    by_cases a0 : at_ < 0
    · go_enter Try.func55, Try.ntmps55
      go_wp2_with fail
      refine M.out.mono ?_
      rintro e w2 ⟨rfl, hb2⟩
      have B2 := Lib.hid (BEL.out.trans (hb2.mono BEL.out.size))
      clear hb2
      go_wp2
      go_ret
      exact ⟨rfl, B2.out⟩
    · by_cases a1 : (n : Int) ≤ at_
      · go_enter Try.func55, Try.ntmps55
        go_wp2_with fail
        refine M.out.mono ?_
        rintro e w2 ⟨rfl, hb2⟩
        have B2 := Lib.hid (BEL.out.trans (hb2.mono BEL.out.size))
        have d0 := (X.out.below hb2 (by rw [HZ1.out]; exact Nat.lt_succ_self _)).cell 0
        simp only [List.getElem?_cons_zero] at d0
        clear hb2
        go_wp2
        go_ret
        exact ⟨rfl, B2.out⟩
      · go_enter Try.func55, Try.ntmps55
        go_wp2_with fail
        refine M.out.mono ?_
        rintro e w2 ⟨rfl, hb2⟩
        have B2 := Lib.hid (BEL.out.trans (hb2.mono BEL.out.size))
        have d0 := (X.out.below hb2 (by rw [HZ1.out]; exact Nat.lt_succ_self _)).cell 0
        simp only [List.getElem?_cons_zero] at d0
        clear hb2
        go_wp2
        go_ret
        exact ⟨rfl, B2.out⟩

theorem pend_hit {C : List Pnd} {at_ : Int} {k : Nat} (hk : k < C.length) (h : (C.getD k (0, [])).1 = at_) : pendB C at_ = true := by
  unfold pendB
  rw [List.any_eq_true]
  rw [List.getD_eq_getElem?_getD, List.getElem?_eq_getElem hk, Option.getD_some] at h
  exact ⟨C[k], List.getElem_mem hk, by rw [h]; simp⟩
theorem pend_none {C : List Pnd} {at_ : Int} (h : ∀ y, y < C.length → (C.getD y (0, [])).1 ≠ at_) : pendB C at_ = false := by
  unfold pendB
  rw [List.any_eq_false]
  intro p hp
  obtain ⟨k, hk, rfl⟩ := List.getElem_of_mem hp
  have := h k hk
  rw [List.getD_eq_getElem?_getD, List.getElem?_eq_getElem hk, Option.getD_some] at this
  simpa using this
theorem lastW_none {C : List Pnd} {at_ : Int} (h : ∀ y, y < C.length → (C.getD y (0, [])).1 ≠ at_) : lastW C at_ = none := by
  unfold lastW
  rw [show C.reverse.find? (fun p => decide (p.1 = at_)) = none from ?_]
  · rfl
  · rw [List.find?_eq_none]
    intro p hp
    obtain ⟨k, hk, rfl⟩ := List.getElem_of_mem (List.mem_reverse.1 hp)
    have := h k hk
    rw [List.getD_eq_getElem?_getD, List.getElem?_eq_getElem hk, Option.getD_some] at this
    simpa using this
theorem lastW_hit {C : List Pnd} {at_ : Int} {j : Nat} (hj : j < C.length) (h1 : (C.getD j (0, [])).1 = at_) (h : ∀ y, j < y → y < C.length → (C.getD y (0, [])).1 ≠ at_) : lastW C at_ = some (C.getD j (0, [])).2 := by
  unfold lastW
  have e : C = C.take j ++ (C[j] :: C.drop (j + 1)) := by
    rw [← List.drop_eq_getElem_cons hj, List.take_append_drop]
  have eg : C.getD j (0, []) = C[j] := by rw [List.getD_eq_getElem?_getD, List.getElem?_eq_getElem hj, Option.getD_some]
  rw [eg] at h1 ⊢
  have hd : (C.drop (j + 1)).reverse.find? (fun p => decide (p.1 = at_)) = none := by
    rw [List.find?_eq_none]
    intro p hp
    obtain ⟨k, hk, rfl⟩ := List.getElem_of_mem (List.mem_reverse.1 hp)
    rw [List.length_drop] at hk
    have := h (j + 1 + k) (by omega) (by omega)
    rw [List.getD_eq_getElem?_getD, List.getElem?_eq_getElem (by omega), Option.getD_some] at this
    rw [List.getElem_drop]
    simpa using this
  have hr : C.reverse = (C.drop (j + 1)).reverse ++ ([C[j]] ++ (C.take j).reverse) := by
    conv => lhs; rw [e]
    simp
  rw [hr, List.find?_append, hd, List.find?_append]
  simp [h1]

set_option maxHeartbeats 800000 in
theorem pending_any (A : Option Addr) (n c : Nat) (A' : Option Addr) (n' c' : Nat) (S : List Sec) (C : List Pnd) (at_ : Int) (w : World) (hq : Dsk w A n c A' n' c' S C) :
    Calls Try.prog 58 #[diskV A n c A' n' c', .int .i64 at_] w fun e w' => e = .returned (.bool (pendB C at_)) ∧ Below w.heap.size w w' := by
  have hbel : Below w.heap.size w (w.alloc (.cells #[.slice A n c, .slice A' n' c'] 25)) := (Below.refl _ _).alloc (Nat.le_refl _) _
  have HQ := hq.below hbel
  obtain ⟨c0, c1⟩ := box_disk w A n c A' n' c'
  have hl' := hq.pnds.len
  have hcm' := Nat.le_trans hq.pnds.cap hq.pnds.max
  unfold maxLen at hcm'
  have YES := Lib.hid fun k (hk : k < n') => pend_hit (C := C) (at_ := at_) (k := k) (by omega)
  have hno := pend_none (C := C) (at_ := at_)
  rw [hl'] at hno
  have NO := Lib.hid hno
  obtain ⟨R, hR⟩ : ∃ R, R = pendB C at_ := ⟨_, rfl⟩
  rw [← hR] at YES NO ⊢
  obtain ⟨w1, hw1⟩ : ∃ w1, w1 = w.alloc (.cells #[.slice A n c, .slice A' n' c'] 25) := ⟨_, rfl⟩
  rw [← hw1] at hbel HQ c0 c1
  have HQ := Lib.hid HQ
  have BEL := Lib.hid hbel
  clear hq hbel hno hR hl'
  go_enter Try.func58, Try.ntmps58
  go_wp2
  rw [← hw1]
  clear hw1
  go_loop [5] (fun i => ∃ k : Nat, k ≤ n' ∧ i = .int .i64 k ∧ ∀ y, y < k → (C.getD y (0, [])).1 ≠ at_) (fun i => n' - (intOf i).toNat)
  case atStart => exact ⟨0, Nat.zero_le _, rfl, fun y hy => by omega⟩
  case round =>
    obtain ⟨k, hk, rfl, hall⟩ := hrel
    have ALL := Lib.hid hall
    clear hall
    by_cases hkn : k < n'
    · have hki : (k : Int) < (n' : Int) := by omega
      obtain ⟨b, o, Ai, ni, ci, rfl, hlt, hc, hx, ha⟩ := HQ.out.pnds.at_ k hkn
      obtain ⟨p, hp⟩ : ∃ p, p = (C.getD k (0, [])).1 := ⟨_, rfl⟩
      rw [← hp] at hx
      have YK := Lib.hid (YES.out k hkn)
      rw [← hp] at YK
      have HP := Lib.hid hp
      clear hp ha
      by_cases hpa : p = at_
      · have HY := Lib.hid (YK.out hpa)
        have hq2 : (p == at_) = true := by rw [hpa]; simp
        clear hpa
        go_wp2
        go_ret
        rw [HY.out]
        exact ⟨rfl, BEL.out⟩
      · have hq2 : (p == at_) = false := beq_eq_false_iff_ne.2 hpa
        have HN := Lib.hid hpa
        clear hpa
        go_wp2
        go_round
        case rel =>
          refine ⟨k + 1, by omega, by go_num, fun y hy => ?_⟩
          rcases Nat.lt_or_ge y k with h' | h'
          · exact ALL.out y h'
          · obtain rfl : y = k := by omega
            rw [← HP.out]
            exact HN.out
        case measure => simp [intOf]; omega
    · obtain rfl : k = n' := by omega
      have HN := Lib.hid (NO.out ALL.out)
      go_wp2
      go_ret
      rw [HN.out]
      exact ⟨rfl, BEL.out⟩

set_option maxRecDepth 100000 in
set_option maxHeartbeats 3200000 in
theorem got_any (A : Option Addr) (n c : Nat) (A' : Option Addr) (n' c' : Nat) (S : List Sec) (C : List Pnd) (a : Nat) (w : World) (hq : Dsk w A n c A' n' c' S C) (hs : SmallD S C) (han : a < n) :
    Calls Try.prog 57 #[diskV A n c A' n' c', .int .i64 (a : Int)] w fun e w' => ∃ B d, e = .returned (.tuple #[.slice B (gotB S C a).length d, .bool (gotOk S C a)]) ∧ w'.ownsRow w.heap.size 5 1 (.slice B (gotB S C a).length d) (gotB S C a).length (ints .u8 (gotB S C a)) ∧ Below w.heap.size w w' := by
  obtain ⟨i0, hi0, hz0, hz1, hz2⟩ := info_parts byte_info
  have hml : (1000 : Nat) ≤ maxLen := by decide
  have hbel : Below w.heap.size w (w.alloc (.cells #[.slice A n c, .slice A' n' c'] 25)) := (Below.refl _ _).alloc (Nat.le_refl _) _
  have HQ := hq.below hbel
  obtain ⟨c0, c1⟩ := box_disk w A n c A' n' c'
  have hl := hq.secs.len
  have hl' := hq.pnds.len
  have hn' := hs.pnds
  rw [hl'] at hn'
  have SM1 := Lib.hid (show (S.getD a (false, [])).2.length ≤ 100 from by
    have hk' : a < S.length := by rw [hl]; exact han
    rw [List.getD_eq_getElem?_getD, List.getElem?_eq_getElem hk', Option.getD_some]
    exact hs.long _ (List.getElem_mem hk'))
  have SM2 := Lib.hid fun k (hk : k < n') => (show (C.getD k (0, [])).2.length ≤ 100 from by
    have hk' : k < C.length := by rw [hl']; exact hk
    rw [List.getD_eq_getElem?_getD, List.getElem?_eq_getElem hk', Option.getD_some]
    exact hs.wide _ (List.getElem_mem hk'))
  have hhit : ∀ j, j < n' → (C.getD j (0, [])).1 = (a : Int) → (∀ y, j < y → y < n' → (C.getD y (0, [])).1 ≠ (a : Int)) → gotB S C a = (C.getD j (0, [])).2 ∧ gotOk S C a = true := fun j hj h1 h2 => by
    have := lastW_hit (C := C) (at_ := (a : Int)) (j := j) (by omega) h1 (fun y hy hy2 => h2 y hy (by omega))
    unfold gotB gotOk
    rw [this]
    exact ⟨rfl, rfl⟩
  have hnone : (∀ y, y < n' → (C.getD y (0, [])).1 ≠ (a : Int)) → gotB S C a = (S.getD a (false, [])).2 ∧ gotOk S C a = !(S.getD a (false, [])).1 := fun h1 => by
    have := lastW_none (C := C) (at_ := (a : Int)) (fun y hy => h1 y (by omega))
    unfold gotB gotOk secAt
    rw [this, Int.toNat_natCast]
    exact ⟨rfl, rfl⟩
  have HIT := Lib.hid hhit
  have NONE := Lib.hid hnone
  have hsz1 : (w.alloc (.cells #[.slice A n c, .slice A' n' c'] 25)).heap.size = w.heap.size + 1 := World.size_alloc _ _
  obtain ⟨B, hB⟩ : ∃ B, B = gotB S C a := ⟨_, rfl⟩
  obtain ⟨K, hK⟩ : ∃ K, K = gotOk S C a := ⟨_, rfl⟩
  rw [← hB, ← hK] at HIT NONE ⊢
  obtain ⟨w1, hw1⟩ : ∃ w1, w1 = w.alloc (.cells #[.slice A n c, .slice A' n' c'] 25) := ⟨_, rfl⟩
  rw [← hw1] at hbel HQ c0 c1 hsz1
  have HQ := Lib.hid HQ
  have BEL := Lib.hid hbel
  have HZ1 := Lib.hid hsz1
  have hw64 : ∀ k : Nat, k ≤ 100 → IntKind.i64.wrap ((k : Int) - 1) = (k : Int) - 1 := fun k hk => by
    cases k with
    | zero => rfl
    | succ k => have := Lib.wrap_i64_small k (by omega); rw [show ((k + 1 : Nat) : Int) - 1 = (k : Int) by omega]; exact this
  have HW := Lib.hid hw64
  clear hq hbel hl hl' hhit hnone hs hB hK hsz1 hw64
  have hwn := HW.out n' (by omega)
  go_enter Try.func57, Try.ntmps57
  go_wp2
  rw [← hw1]
  clear hw1 hwn
  go_loop [6] (fun i => ∃ k : Nat, k ≤ n' ∧ i = .int .i64 ((k : Int) - 1) ∧ ∀ y, k ≤ y → y < n' → (C.getD y (0, [])).1 ≠ (a : Int)) (fun i => ((intOf i) + 1).toNat)
  case atStart => exact ⟨n', Nat.le_refl _, rfl, fun y h1 h2 => by omega⟩
  case round =>
    obtain ⟨k, hk, rfl, hall⟩ := hrel
    have ALL := Lib.hid hall
    clear hall
    by_cases hk0 : k = 0
    · subst hk0
      obtain ⟨b, o, Ai, ni, ci, rfl, hlt, hc, hx, ha⟩ := HQ.out.secs.at_ a han
      obtain ⟨e1, e2⟩ := NONE.out (fun y hy => ALL.out y (Nat.zero_le _) hy)
      have hlen := ha.len
      have hsm := SM1.out
      obtain ⟨sec, hsec⟩ : ∃ sec, sec = S.getD a (false, []) := ⟨_, rfl⟩
      rw [← hsec] at e1 e2 hlen hsm hx ha
      obtain ⟨bad, t⟩ := sec
      dsimp only at e1 e2 hlen hsm hx ha
      have E1 := Lib.hid e1
      have E2 := Lib.hid e2
      have HA := Lib.hid (show Arg w1.drew .u8 Ai ni ci t from ha.below (below_drewN (Below.refl _ _) 1))
      have hni : ni ≤ 100 := by rw [← hlen]; exact hsm
      have hai : (a : Int) < (n : Int) := by omega
      have hblt := hlt
      have keepX : ∀ wx, Below w1.drew.heap.size w1.drew wx → wx.cell? ⟨w.heap.size, 0, none⟩ = some (.slice (some ⟨b, o, none⟩) n c) ∧ wx.cell? ⟨b, o + a * 2, none⟩ = some (.slice Ai ni ci) ∧ wx.cell? ⟨b, o + a * 2 + 1, none⟩ = some (.bool bad) := fun wx hx' =>
        ⟨(hx'.cell (p := ⟨w.heap.size, 0, none⟩) (by show w.heap.size < w1.heap.size; rw [HZ1.out]; exact Nat.lt_succ_self _)).trans c0, (hx'.cell (p := ⟨b, o + a * 2, none⟩) hblt).trans hc, (hx'.cell (p := ⟨b, o + a * 2 + 1, none⟩) hblt).trans hx⟩
      clear hsec e1 e2 hlen hsm ha
      go_wp2_with fail
      have hkX := keepX _ (Below.refl _ _)
      go_region_held3 (fun w' => w'.cell? ⟨w.heap.size, 0, none⟩ = some (.slice (some ⟨b, o, none⟩) n c) ∧ w'.cell? ⟨b, o + a * 2, none⟩ = some (.slice Ai ni ci) ∧ w'.cell? ⟨b, o + a * 2 + 1, none⟩ = some (.bool bad))
        (first | exact hkX | go_keep)
        ((refine step_dup_g w1.drew (by rfl) (.tmp 31) (.tmp 37) _ (by rfl) 5 i0 _ 1 Try.underlying31 hi0 hz0 hz1 hz2 rfl (by rfl) Ai ni ci (ints .u8 t) (by rfl) (by rw [ints_length, HA.out.len]) HA.out.seq (ints_one _ _) (by omega) (by omega) ?_; intro A2 c2 w2 hown2 hbX; have hkX := keepX w2 hbX))
      have O2 := Lib.hid hown2
      have B2 := Lib.hid ((below_drewN BEL.out 1).trans (hbX.mono (show w.heap.size ≤ w1.heap.size by rw [HZ1.out]; exact Nat.le_succ _)))
      have hbase : w.heap.size ≤ w1.heap.size := by rw [HZ1.out]; exact Nat.le_succ _
      clear hown2 hbX keepX hkX hc hx c0 c1
      go_wp2
      go_ret2
      have hl2 := HA.out.len
      rw [E1.out, E2.out, hl2]
      exact ⟨A2, c2, rfl, owns_base O2.out hbase, B2.out⟩
    · obtain ⟨j, rfl⟩ : ∃ j, k = j + 1 := ⟨k - 1, by omega⟩
      rw [show ((j + 1 : Nat) : Int) - 1 = (j : Int) by omega]
      have hjn : j < n' := by omega
      have hji : (j : Int) < (n' : Int) := by omega
      obtain ⟨b, o, Ai, ni, ci, rfl, hlt, hc, hx, ha⟩ := HQ.out.pnds.at_ j hjn
      have hj := HIT.out j hjn
      have hsm := SM2.out j hjn
      have hlen := ha.len
      obtain ⟨pnd, hpnd⟩ : ∃ p, p = C.getD j (0, []) := ⟨_, rfl⟩
      rw [← hpnd] at hj hsm hlen hx ha
      have HP := Lib.hid hpnd
      obtain ⟨p, t⟩ := pnd
      dsimp only at hj hsm hlen hx ha
      have HJ := Lib.hid hj
      have hni : ni ≤ 100 := by rw [← hlen]; exact hsm
      have HA := Lib.hid ha
      clear hpnd hj hsm hlen ha hk0 hk
      by_cases hpa : p = (a : Int)
      · obtain ⟨e1, e2⟩ := HJ.out hpa (fun y h1 h2 => ALL.out y h1 h2)
        have E1 := Lib.hid e1
        have E2 := Lib.hid e2
        subst hpa
        have c1a := (World.cell?_alloc_lt w1 (.cells #[] 5) ⟨w.heap.size, 1, none⟩ (by show w.heap.size < w1.heap.size; rw [HZ1.out]; exact Nat.lt_succ_self _)).trans c1
        have hca := (World.cell?_alloc_lt w1 (.cells #[] 5) ⟨b, o + j * 2 + 1, none⟩ hlt).trans hc
        clear e1 e2
        go_wp2_with (at_builtin; (refine wpList_dup_g w1 rfl (.tmp 23) (.tmp 29) _ rfl 5 i0 _ 1 Try.underlying31 hi0 hz0 hz1 hz2 rfl rfl Ai ni ci (ints .u8 t) rfl (by rw [ints_length, HA.out.len]) HA.out.seq (ints_one _ _) (by omega) (by omega) ?_); intro A2 c2 w2 hown2 hbX; have O2 := Lib.hid hown2; have B2 := Lib.hid (BEL.out.trans (hbX.mono (show w.heap.size ≤ w1.heap.size by rw [HZ1.out]; exact Nat.le_succ _))); clear hown2 hbX)
        go_ret2
        have hl2 := HA.out.len
        have hbase : w.heap.size ≤ w1.heap.size := by rw [HZ1.out]; exact Nat.le_succ _
        rw [E1.out, E2.out, hl2]
        exact ⟨A2, c2, rfl, owns_base O2.out hbase, B2.out⟩
      · have hq2 : (p == (a : Int)) = false := beq_eq_false_iff_ne.2 hpa
        have HN := Lib.hid hpa
        have hwj := HW.out j (by omega)
        clear hpa
        go_wp2
        go_round
        case rel =>
          refine ⟨j, by omega, by go_num, fun y h1 h2 => ?_⟩
          rcases Nat.lt_or_ge j y with h' | h'
          · exact ALL.out y h' h2
          · obtain rfl : y = j := by omega
            rw [← HP.out]
            exact HN.out
        case measure => simp [intOf]

theorem waits_any (A : Option Addr) (n c : Nat) (A' : Option Addr) (n' c' : Nat) (S : List Sec) (C : List Pnd) (at_ : Int) (w : World) (hq : Dsk w A n c A' n' c' S C) :
    Calls Try.prog 26 #[diskV A n c A' n' c', .int .i64 at_] w fun e w' => e = .returned (.tuple #[.bool (waB S C at_), .int .i64 (askE S C at_)]) ∧ Below w.heap.size w w' := by
  have hbel : Below w.heap.size w (w.alloc (.cells #[.slice A n c, .slice A' n' c'] 25)) := (Below.refl _ _).alloc (Nat.le_refl _) _
  have K := asked_any A n c A' n' c' S C at_ _ (hq.below hbel)
  have PE := Lib.hid fun w2 hx => pending_any A n c A' n' c' S C at_ w2 hx
  have HQ := Lib.hid (hq.below hbel)
  have x := Blk.new w 25 [.slice A n c, .slice A' n' c']
  have X := Lib.hid x
  have c0 := x.cell 0
  have c1 := x.cell 1
  simp only [List.getElem?_cons_zero, List.getElem?_cons_succ] at c0 c1
  have BEL := Lib.hid hbel
  have hz1 : (w.alloc (.cells #[.slice A n c, .slice A' n' c'] 25)).heap.size = w.heap.size + 1 := World.size_alloc _ _
  have HZ1 := Lib.hid hz1
  unfold waB
  obtain ⟨E, hE⟩ : ∃ E, E = askE S C at_ := ⟨_, rfl⟩
  rw [← hE] at K ⊢
  clear hbel hq x hz1 hE
  by_cases h0 : E = 0
  · subst h0
    have K := Lib.hid K
    simp only [if_true]
    go_enter Try.func26, Try.ntmps26
    go_wp2_with fail
    refine K.out.mono ?_
    rintro e w2 ⟨rfl, hb2⟩
    have B2 := Lib.hid (BEL.out.trans (hb2.mono BEL.out.size))
    have x2 := X.out.below hb2 (by rw [HZ1.out]; exact Nat.lt_succ_self _)
    have d0 := x2.cell 0
    have d1 := x2.cell 1
    simp only [List.getElem?_cons_zero, List.getElem?_cons_succ] at d0 d1
    have P := Lib.hid (PE.out w2 (HQ.out.below hb2))
    clear hb2 x2 c0 c1
    go_wp2_with fail
    refine P.out.mono ?_
    rintro e w3 ⟨rfl, hb3⟩
    have B3 := Lib.hid (B2.out.trans (hb3.mono B2.out.size))
    clear hb3
    go_wp2
    go_ret2
    exact ⟨rfl, B3.out⟩
  · rw [if_neg h0]
    have K := Lib.hid K
    have hne : (E != 0) = true := bne_iff_ne.2 h0
    clear h0
    go_enter Try.func26, Try.ntmps26
    go_wp2_with fail
    refine K.out.mono ?_
    rintro e w2 ⟨rfl, hb2⟩
    have B2 := Lib.hid (BEL.out.trans (hb2.mono BEL.out.size))
    clear hb2
    go_wp2
    go_ret2
    exact ⟨rfl, B2.out⟩

theorem ask_zero {S : List Sec} {C : List Pnd} {at_ : Int} (h : askE S C at_ = 0) : mayD S C = true ∧ ∃ a : Nat, at_ = a ∧ a < S.length := by
  unfold askE at h
  cases hR : mayD S C with
  | false => rw [hR] at h; simp at h
  | true =>
    rw [hR] at h
    simp only [if_true] at h
    by_cases hx : at_ < 0 ∨ (S.length : Int) ≤ at_
    · rw [if_pos hx] at h; omega
    · exact ⟨rfl, at_.toNat, by omega, by omega⟩

theorem read_any (A : Option Addr) (n c : Nat) (A' : Option Addr) (n' c' : Nat) (S : List Sec) (C : List Pnd) (at_ : Int) (w : World) (hq : Dsk w A n c A' n' c' S C) (hs : SmallD S C) :
    Calls Try.prog 25 #[diskV A n c A' n' c', .int .i64 at_] w (BytesOut w (rdB S C at_) (rdE S C at_)) := by
  have hbel : Below w.heap.size w (w.alloc (.cells #[.slice A n c, .slice A' n' c'] 25)) := (Below.refl _ _).alloc (Nat.le_refl _) _
  have K := asked_any A n c A' n' c' S C at_ _ (hq.below hbel)
  have HQ := Lib.hid (hq.below hbel)
  have x := Blk.new w 25 [.slice A n c, .slice A' n' c']
  have X := Lib.hid x
  have c0 := x.cell 0
  have c1 := x.cell 1
  simp only [List.getElem?_cons_zero, List.getElem?_cons_succ] at c0 c1
  have BEL := Lib.hid hbel
  have hz1 : (w.alloc (.cells #[.slice A n c, .slice A' n' c'] 25)).heap.size = w.heap.size + 1 := World.size_alloc _ _
  have HZ1 := Lib.hid hz1
  by_cases h0 : askE S C at_ = 0
  · obtain ⟨_, a, rfl, han⟩ := ask_zero h0
    rw [hq.secs.len] at han
    have GE := Lib.hid fun w2 hx => got_any A n c A' n' c' S C a w2 hx hs han
    rw [h0] at K
    have K := Lib.hid K
    have hE : rdE S C (a : Int) = if gotOk S C a then 0 else 50 := by unfold rdE; rw [if_pos h0]
    have hB : rdB S C (a : Int) = if gotOk S C a then gotB S C a else [] := by
      unfold rdB
      rw [hE]
      cases gotOk S C (a : Int) <;> rfl
    rw [hE, hB]
    obtain ⟨G, hG⟩ : ∃ G, G = gotB S C a := ⟨_, rfl⟩
    obtain ⟨OK, hOK⟩ : ∃ OK, OK = gotOk S C a := ⟨_, rfl⟩
    rw [← hG, ← hOK] at GE ⊢
    clear hbel hq x hz1 hs h0 hE hB hG hOK
    cases OK with
    | true =>
      simp only [if_true]
      go_enter Try.func25, Try.ntmps25
      go_wp2_with fail
      refine K.out.mono ?_
      rintro e w2 ⟨rfl, hb2⟩
      have B2 := Lib.hid (BEL.out.trans (hb2.mono BEL.out.size))
      have x2 := X.out.below hb2 (by rw [HZ1.out]; exact Nat.lt_succ_self _)
      have d0 := x2.cell 0
      have d1 := x2.cell 1
      simp only [List.getElem?_cons_zero, List.getElem?_cons_succ] at d0 d1
      have P := Lib.hid (GE.out w2 (HQ.out.below hb2))
      clear hb2 x2 c0 c1
      go_wp2_with fail
      refine P.out.mono ?_
      rintro e w3 ⟨B, d, rfl, hown, hb3⟩
      have O3 := Lib.hid (owns_base hown B2.out.size)
      have B3 := Lib.hid (B2.out.trans (hb3.mono B2.out.size))
      clear hb3 hown
      go_wp2
      go_ret2
      exact ⟨B, d, rfl, O3.out, B3.out⟩
    | false =>
      simp only [Bool.false_eq_true, if_false]
      go_enter Try.func25, Try.ntmps25
      go_wp2_with fail
      refine K.out.mono ?_
      rintro e w2 ⟨rfl, hb2⟩
      have B2 := Lib.hid (BEL.out.trans (hb2.mono BEL.out.size))
      have x2 := X.out.below hb2 (by rw [HZ1.out]; exact Nat.lt_succ_self _)
      have d0 := x2.cell 0
      have d1 := x2.cell 1
      simp only [List.getElem?_cons_zero, List.getElem?_cons_succ] at d0 d1
      have P := Lib.hid (GE.out w2 (HQ.out.below hb2))
      clear hb2 x2 c0 c1
      go_wp2_with fail
      refine P.out.mono ?_
      rintro e w3 ⟨B, d, rfl, hown, hb3⟩
      have B3 := Lib.hid (B2.out.trans (hb3.mono B2.out.size))
      clear hb3 hown
      go_wp2
      go_ret2
      exact ⟨none, 0, rfl, World.ownsRow_nil _ _ _ _, B3.out⟩
  · have hE : rdE S C at_ = askE S C at_ := by unfold rdE; rw [if_neg h0]
    have hB : rdB S C at_ = [] := by unfold rdB; rw [hE, if_neg h0]
    rw [hE, hB]
    obtain ⟨E, hEE⟩ : ∃ E, E = askE S C at_ := ⟨_, rfl⟩
    rw [← hEE] at K h0 ⊢
    have K := Lib.hid K
    have hne : (E != 0) = true := bne_iff_ne.2 h0
    clear hbel hq x hz1 hs h0 hE hB hEE
    go_enter Try.func25, Try.ntmps25
    go_wp2_with fail
    refine K.out.mono ?_
    rintro e w2 ⟨rfl, hb2⟩
    have B2 := Lib.hid (BEL.out.trans (hb2.mono BEL.out.size))
    clear hb2
    go_wp2
    go_ret2
    exact ⟨none, 0, rfl, World.ownsRow_nil _ _ _ _, B2.out⟩

end Go.Proofs.Ytkbeeknnfndjgaa
