/- Layer 10: the document's Note, Notes, Scan, Plan. -/
import Derived.Test.YteapaoefgcnicaaJrnR
import Derived.Test.YteapaoefgcnicaaHeldOne
import Derived.KernelRfl
namespace Go.Proofs.Yteapaoefgcnicaa
open Go.RowKit
set_option linter.unusedVariables false

theorem OwnTxt.sub {w : World} {base g o n c lo hi : Nat} {zs : List Int} (h : OwnTxt w base (some ⟨g, o, none⟩) n c zs) (h1 : lo ≤ hi) (h2 : hi ≤ n) : OwnTxt w base (some ⟨g, o + lo, none⟩) (hi - lo) (c - lo) ((zs.drop lo).take (hi - lo)) := by
  obtain ⟨a1, a2, a3, a4⟩ := h
  refine ⟨by rw [List.length_take, List.length_drop]; omega, by omega, by omega, ?_⟩
  rcases a4 with a4 | ⟨g', o', cs, e, hb, hg, hc⟩
  · exact .inl (by omega)
  · injection e with e
    injection e with e1 e2 _
    subst e1
    subst e2
    refine .inr ⟨g, o + lo, cs, rfl, hb, hg, fun j hj => ?_⟩
    have e3 : ((zs.drop lo).take (hi - lo)).getD j 0 = zs.getD (lo + j) 0 := by
      rw [List.getD_eq_getElem?_getD, List.getElem?_take, if_pos hj, List.getElem?_drop, List.getD_eq_getElem?_getD]
    rw [e3, Nat.add_assoc]
    exact hc (lo + j) (by omega)

set_option maxRecDepth 100000 in
set_option maxHeartbeats 3200000 in
theorem rnote_any (D : Option Addr) (n c : Nat) (D' : Option Addr) (n' c' : Nat) (S : List Sec) (C : List Pnd) (a : Nat) (g j : Int) (w : World) (hq : Dsk w D n c D' n' c' S C) (hs : SmallD S C) (hmay : mayD S C = true) (han : a < n) (hg : isG g) (hj : 0 ≤ j ∧ j ≤ 255) :
    Calls Try.prog 51 #[diskV D n c D' n' c', .int .i64 (a : Int), .int .u64 g, .int .i64 j] w fun e w' => ∃ A' c', e = .returned (.slice A' (noteO g j (optAt S C a)).length c') ∧ OwnTxt w' w.heap.size A' (noteO g j (optAt S C a)).length c' (noteO g j (optAt S C a)) ∧ Below w.heap.size w w' := by
  have X0 := DBox.new hq
  have hb0 : Below w.heap.size w (w.alloc (.cells #[.slice D n c, .slice D' n' c'] 25)) := (Below.refl _ _).alloc (Nat.le_refl _) _
  obtain ⟨w0, hw0⟩ : ∃ x, x = w.alloc (.cells #[.slice D n c, .slice D' n' c'] 25) := ⟨_, rfl⟩
  rw [← hw0] at X0 hb0
  have X := Lib.hid X0
  have B := Lib.hid hb0
  have GT := Lib.hid (fun wx hx => got_any D n c D' n' c' S C a wx hx hs han)
  obtain ⟨x0, x1⟩ := X.out.cells
  have hsl := hq.secs.len
  have hopt := optAt_got (a := (a : Int)) hmay (by omega) (by omega)
  have hgood := fun h => rd_good (at_ := (a : Int)) (S := S) (C := C) h hq.secs.byte hq.pnds.byte
  cases hok : gotOk S C a with
  | false =>
    rw [hok] at GT hopt
    rw [if_neg (by decide)] at hopt
    rw [hopt]
    obtain ⟨m, hm⟩ : ∃ m, m = (gotB S C a).length := ⟨_, rfl⟩
    rw [← hm] at GT
    rw [show noteO g j none = [] from rfl]
    clear hopt hgood hok hm hsl hmay hq hs X0 hb0 han hg hj
    go_enter Try.func51, Try.ntmps51
    go_wp2_with fail
    rw [← hw0]
    clear hw0
    refine (GT.out _ X.out.dsk).mono ?_
    rintro e w2 ⟨AB, dB, rfl, hown, hb⟩
    have B := Lib.hid (B.out.trans (hb.mono B.out.size))
    clear hb hown GT x0 x1
    go_wp2
    go_ret
    exact ⟨none, 0, rfl, OwnTxt.nil _ _, B.out⟩
  | true =>
    rw [hok] at GT hopt
    rw [if_pos rfl] at hopt
    have hrd : rdE S C (a : Int) = 0 := by
      unfold optAt at hopt
      split at hopt
      · assumption
      · cases hopt
    obtain ⟨h32, hby⟩ := hgood hrd
    have hrb : rdB S C (a : Int) = gotB S C a := if_pos hrd
    rw [hrb] at h32 hby
    rw [hopt, show noteO g j (some (gotB S C a)) = noteT g j (gotB S C a) from rfl]
    obtain ⟨t, ht⟩ : ∃ t, t = gotB S C (a : Int) := ⟨_, rfl⟩
    rw [← ht] at GT h32 hby ⊢
    obtain ⟨hm0, hm1⟩ := byte_getD hby 10
    have H32 := Lib.hid h32
    have HBY := Lib.hid hby
    obtain ⟨k, hk⟩ : ∃ k : Nat, t.getD 10 0 = (k : Int) := ⟨(t.getD 10 0).toNat, by omega⟩
    have hnt : noteT g j t = if (1 ≤ k ∧ k ≤ 20) ∧ jT g j ((t.drop 12).take k) = t then (t.drop 12).take k else [] := by
      unfold noteT
      rw [hk, Int.toNat_natCast]
      by_cases h1 : 1 ≤ k ∧ k ≤ 20
      · by_cases h2 : jT g j ((t.drop 12).take k) = t
        · rw [if_pos ⟨⟨by omega, by omega⟩, h2⟩, if_pos ⟨h1, h2⟩]
        · rw [if_neg (fun h => h2 h.2), if_neg (fun h => h2 h.2)]
      · rw [if_neg (fun h => h1 ⟨by omega, by omega⟩), if_neg (fun h => h1 h.1)]
    have HM := Lib.hid hk.symm
    by_cases h1 : 1 ≤ k ∧ k ≤ 20
    · have SC0 := fun wx (A0 : Option Addr) (c0 : Nat) (hr : Arg wx .u8 A0 k c0 ((t.drop 12).take k)) => rsector_any g j hg hj A0 k c0 _ wx hr h1.2
      have hjb := jT_byte g j (b := (t.drop 12).take k) (fun z hz => hby z (List.mem_of_mem_drop (List.mem_of_mem_take hz)))
      have hbl : ((t.drop 12).take k).length = k := by rw [List.length_take, List.length_drop]; omega
      have hse := strs_eq hjb hby
      have q1 : ¬ (k : Int) < 1 := by omega
      have q2 : ¬ (20 : Int) < (k : Int) := by omega
      have hwk : IntKind.i64.wrap (k : Int) = k := wrap_i64_byte ⟨by omega, by omega⟩
      have hwk2 : IntKind.i64.wrap (12 + (k : Int)) = 12 + k := wrap_i64_byte ⟨by omega, by omega⟩
      obtain ⟨s1, hs1⟩ : ∃ s, s = strOfNums t := ⟨_, rfl⟩
      obtain ⟨s3, hs3⟩ : ∃ s, s = strOfNums (jT g j ((t.drop 12).take k)) := ⟨_, rfl⟩
      rw [← hs1, ← hs3] at hse
      have HS1 := Lib.hid hs1
      have HS3 := Lib.hid hs3
      by_cases h2 : jT g j ((t.drop 12).take k) = t
      · rw [if_pos ⟨h1, h2⟩] at hnt
        rw [hnt, hbl]
        rw [decide_eq_true h2] at hse
        have HBT := Lib.hid (rfl : (t.drop 12).take k = (t.drop 12).take k)
        clear hopt hgood hok hrd hrb hsl hmay hq hs X0 hb0 han hg hj hnt hjb hbl h2 hs1 hs3 h32 hby ht hk hm0 hm1 HBT
        go_enter Try.func51, Try.ntmps51
        go_wp2_with fail
        rw [← hw0]
        clear hw0
        refine (GT.out _ X.out.dsk).mono ?_
        rintro e w2 ⟨AB, dB, rfl, hown, hb⟩
        rw [H32.out] at hown ⊢
        obtain ⟨gB, rfl, _, q10, _, _⟩ := owns_int_at (j := 10) hown (by decide)
        rw [← HM.out] at q10
        have B := Lib.hid (B.out.trans (hb.mono B.out.size))
        have hc32 : 32 ≤ dB := (Arg.own hown).cap
        have hcm : dB ≤ maxLen := (Arg.own hown).max
        unfold maxLen at hcm
        have z1 : ¬ dB = 12 := by omega
        have z2 : (12 : Int) + (k : Int) ≤ (dB : Int) := by omega
        have z3 : (12 : Int) < (dB : Int) := by omega
        have ho12 := (OwnTxt.of hown).sub (lo := 12) (hi := 12 + k) (by omega) (by omega)
        rw [Nat.zero_add, Nat.add_sub_cancel_left] at ho12
        have B0 := Lib.hid (by assumption : Hid (Below w.heap.size w w0)).out
        have OT := Lib.hid ho12
        have AO := Lib.hid (Arg.own hown)
        have SC := Lib.hid (fun wx (hx : Below w2.heap.size w2 wx) => SC0 wx _ _ (OT.out.arg.below hx))
        have keepX : ∀ wx, Below w2.heap.size w2 wx → (convert 36 9 (.slice (some ⟨gB, 0, none⟩) 32 dB)).run Try.prog wx = .ok (.string s1) wx := fun wx hx => by rw [HS1.out]; exact str_arg (AO.out.below hx)
        clear hb hown GT x0 x1 SC0 ho12
        go_upto_region 5 with fail
        have hcur : Below w2.heap.size w2 w2.drew := below_drewN (Below.refl _ _) 1
        have hkX := keepX _ hcur
        have hHeld := hkX
        refine wp_region_to 7 (fun w' => (convert 36 9 (.slice (some ⟨gB, 0, none⟩) 32 dB)).run Try.prog w' = .ok (.string s1) w') (by kernel_rfl) ?_
        refine wpAnyG_take (i := 0) (v := ?_) rfl (by kernel_rfl) (by kernel_rfl) (by kernel_rfl) (by kernel_rfl) (by kernel_rfl) rfl (fun _ _ _ h => h) (Or.inl ⟨by rfl, ?_⟩) hHeld ?_
        rotate_left
        · (intro w' hSw; (try dsimp only at hSw); go_simp; (try with_reducible rfl))
        simp only [Act.put, List.setIfInBounds_toArray, List.set_cons_zero, List.set_cons_succ, List.getElem_toArray, List.getElem_cons_zero]
        refine wpAnyG_take (i := 1) (v := ?_) rfl (by kernel_rfl) (by kernel_rfl) (by kernel_rfl) (by kernel_rfl) (by kernel_rfl) rfl (fun _ _ _ h => h) (Or.inl ⟨by rfl, ?_⟩) hHeld ?_
        rotate_left
        · (intro w' hSw; (try dsimp only at hSw); go_simp; (try with_reducible rfl))
        simp only [Act.put, List.setIfInBounds_toArray, List.set_cons_zero, List.set_cons_succ, List.getElem_toArray, List.getElem_cons_zero, List.getElem_cons_succ]
        refine wpAnyG_take (i := 2) (v := ?_) rfl (by kernel_rfl) (by kernel_rfl) (by kernel_rfl) (by kernel_rfl) (by kernel_rfl) rfl (fun _ _ _ h => h) (Or.inl ⟨by rfl, ?_⟩) hHeld ?_
        rotate_left
        · (intro w' hSw; (try dsimp only at hSw); go_simp; (try with_reducible rfl))
        simp only [Act.put, List.setIfInBounds_toArray, List.set_cons_zero, List.set_cons_succ, List.getElem_toArray, List.getElem_cons_zero, List.getElem_cons_succ]
        refine wpAnyG_take (i := 5) (v := ?_) rfl (by kernel_rfl) (by kernel_rfl) (by kernel_rfl) (by kernel_rfl) (by kernel_rfl) rfl (fun _ _ _ h => h) (Or.inl ⟨by rfl, ?_⟩) hHeld ?_
        rotate_left
        · (intro w' hSw; (try dsimp only at hSw); go_simp; (try with_reducible rfl))
        simp only [Act.put, List.setIfInBounds_toArray, List.set_cons_zero, List.set_cons_succ, List.getElem_toArray, List.getElem_cons_zero, List.getElem_cons_succ]
        refine wpAnyG_take (i := 6) (v := ?_) rfl (by kernel_rfl) (by kernel_rfl) (by kernel_rfl) (by kernel_rfl) (by kernel_rfl) rfl (fun _ _ _ h => h) (Or.inl ⟨by rfl, ?_⟩) hHeld ?_
        rotate_left
        · (intro w' hSw; (try dsimp only at hSw); go_simp; (try with_reducible rfl))
        simp only [Act.put, List.setIfInBounds_toArray, List.set_cons_zero, List.set_cons_succ, List.getElem_toArray, List.getElem_cons_zero, List.getElem_cons_succ]
        refine wpAnyG_one (i := 3) (by kernel_rfl) rfl (fun K hK => ?_)
        go_simp
        go_at_call 34
        refine (SC.out _ hcur).mono ?_
        rintro e w3 ⟨A3, c3, rfl, hown3, hb3⟩
        have hcur := hcur.trans (hb3.mono hcur.size)
        have k3 := str_arg (Arg.own hown3)
        rw [← HS3.out] at k3
        refine hK.out _ _ (fun _ => keepX _ hcur) (fun hHeld => ?_)
        have hHeld := hHeld (by decide)
        clear hK K
        try simp only [Act.put, List.setIfInBounds_toArray, List.set_cons_zero, List.set_cons_succ]
        refine wpAnyG_one (i := 4) (by kernel_rfl) rfl (fun K hK => ?_)
        go_simp
        refine hK.out _ _ (fun _ => keepX _ hcur) (fun hHeld => ?_)
        have hHeld := hHeld (by decide)
        clear hK K
        try simp only [Act.put, List.setIfInBounds_toArray, List.set_cons_zero, List.set_cons_succ]
        refine wpAnyG_one (i := 7) (by kernel_rfl) rfl (fun K hK => ?_)
        go_simp
        refine hK.out _ _ (fun h => absurd rfl h) (fun _ => ?_)
        clear hK K
        refine wpAnyG_done (by kernel_rfl) ?_ _
        have B := Lib.hid (B.out.trans (hcur.mono B.out.size))
        go_wp2
        go_ret
        exact ⟨some ⟨gB, 12, none⟩, dB - 12, rfl, (OT.out.below hcur).lower B0.out.size, B.out⟩
      · rw [if_neg (fun h => h2 h.2)] at hnt
        rw [hnt]
        rw [decide_eq_false h2] at hse
        clear hopt hgood hok hrd hrb hsl hmay hq hs X0 hb0 han hg hj hnt hjb hbl h2 hs1 hs3 h32 hby ht hk hm0 hm1
        go_enter Try.func51, Try.ntmps51
        go_wp2_with fail
        rw [← hw0]
        clear hw0
        refine (GT.out _ X.out.dsk).mono ?_
        rintro e w2 ⟨AB, dB, rfl, hown, hb⟩
        rw [H32.out] at hown ⊢
        obtain ⟨gB, rfl, _, q10, _, _⟩ := owns_int_at (j := 10) hown (by decide)
        rw [← HM.out] at q10
        have B := Lib.hid (B.out.trans (hb.mono B.out.size))
        have hc32 : 32 ≤ dB := (Arg.own hown).cap
        have hcm : dB ≤ maxLen := (Arg.own hown).max
        unfold maxLen at hcm
        have z1 : ¬ dB = 12 := by omega
        have z2 : (12 : Int) + (k : Int) ≤ (dB : Int) := by omega
        have z3 : (12 : Int) < (dB : Int) := by omega
        have ho12 := (OwnTxt.of hown).sub (lo := 12) (hi := 12 + k) (by omega) (by omega)
        rw [Nat.zero_add, Nat.add_sub_cancel_left] at ho12
        have B0 := Lib.hid (by assumption : Hid (Below w.heap.size w w0)).out
        have OT := Lib.hid ho12
        have AO := Lib.hid (Arg.own hown)
        have SC := Lib.hid (fun wx (hx : Below w2.heap.size w2 wx) => SC0 wx _ _ (OT.out.arg.below hx))
        have keepX : ∀ wx, Below w2.heap.size w2 wx → (convert 36 9 (.slice (some ⟨gB, 0, none⟩) 32 dB)).run Try.prog wx = .ok (.string s1) wx := fun wx hx => by rw [HS1.out]; exact str_arg (AO.out.below hx)
        clear hb hown GT x0 x1 SC0 ho12
        go_upto_region 5 with fail
        have hcur : Below w2.heap.size w2 w2.drew := below_drewN (Below.refl _ _) 1
        have hkX := keepX _ hcur
        have hHeld := hkX
        refine wp_region_to 7 (fun w' => (convert 36 9 (.slice (some ⟨gB, 0, none⟩) 32 dB)).run Try.prog w' = .ok (.string s1) w') (by kernel_rfl) ?_
        refine wpAnyG_take (i := 0) (v := ?_) rfl (by kernel_rfl) (by kernel_rfl) (by kernel_rfl) (by kernel_rfl) (by kernel_rfl) rfl (fun _ _ _ h => h) (Or.inl ⟨by rfl, ?_⟩) hHeld ?_
        rotate_left
        · (intro w' hSw; (try dsimp only at hSw); go_simp; (try with_reducible rfl))
        simp only [Act.put, List.setIfInBounds_toArray, List.set_cons_zero, List.set_cons_succ, List.getElem_toArray, List.getElem_cons_zero]
        refine wpAnyG_take (i := 1) (v := ?_) rfl (by kernel_rfl) (by kernel_rfl) (by kernel_rfl) (by kernel_rfl) (by kernel_rfl) rfl (fun _ _ _ h => h) (Or.inl ⟨by rfl, ?_⟩) hHeld ?_
        rotate_left
        · (intro w' hSw; (try dsimp only at hSw); go_simp; (try with_reducible rfl))
        simp only [Act.put, List.setIfInBounds_toArray, List.set_cons_zero, List.set_cons_succ, List.getElem_toArray, List.getElem_cons_zero, List.getElem_cons_succ]
        refine wpAnyG_take (i := 2) (v := ?_) rfl (by kernel_rfl) (by kernel_rfl) (by kernel_rfl) (by kernel_rfl) (by kernel_rfl) rfl (fun _ _ _ h => h) (Or.inl ⟨by rfl, ?_⟩) hHeld ?_
        rotate_left
        · (intro w' hSw; (try dsimp only at hSw); go_simp; (try with_reducible rfl))
        simp only [Act.put, List.setIfInBounds_toArray, List.set_cons_zero, List.set_cons_succ, List.getElem_toArray, List.getElem_cons_zero, List.getElem_cons_succ]
        refine wpAnyG_take (i := 5) (v := ?_) rfl (by kernel_rfl) (by kernel_rfl) (by kernel_rfl) (by kernel_rfl) (by kernel_rfl) rfl (fun _ _ _ h => h) (Or.inl ⟨by rfl, ?_⟩) hHeld ?_
        rotate_left
        · (intro w' hSw; (try dsimp only at hSw); go_simp; (try with_reducible rfl))
        simp only [Act.put, List.setIfInBounds_toArray, List.set_cons_zero, List.set_cons_succ, List.getElem_toArray, List.getElem_cons_zero, List.getElem_cons_succ]
        refine wpAnyG_take (i := 6) (v := ?_) rfl (by kernel_rfl) (by kernel_rfl) (by kernel_rfl) (by kernel_rfl) (by kernel_rfl) rfl (fun _ _ _ h => h) (Or.inl ⟨by rfl, ?_⟩) hHeld ?_
        rotate_left
        · (intro w' hSw; (try dsimp only at hSw); go_simp; (try with_reducible rfl))
        simp only [Act.put, List.setIfInBounds_toArray, List.set_cons_zero, List.set_cons_succ, List.getElem_toArray, List.getElem_cons_zero, List.getElem_cons_succ]
        refine wpAnyG_one (i := 3) (by kernel_rfl) rfl (fun K hK => ?_)
        go_simp
        go_at_call 34
        refine (SC.out _ hcur).mono ?_
        rintro e w3 ⟨A3, c3, rfl, hown3, hb3⟩
        have hcur := hcur.trans (hb3.mono hcur.size)
        have k3 := str_arg (Arg.own hown3)
        rw [← HS3.out] at k3
        refine hK.out _ _ (fun _ => keepX _ hcur) (fun hHeld => ?_)
        have hHeld := hHeld (by decide)
        clear hK K
        try simp only [Act.put, List.setIfInBounds_toArray, List.set_cons_zero, List.set_cons_succ]
        refine wpAnyG_one (i := 4) (by kernel_rfl) rfl (fun K hK => ?_)
        go_simp
        refine hK.out _ _ (fun _ => keepX _ hcur) (fun hHeld => ?_)
        have hHeld := hHeld (by decide)
        clear hK K
        try simp only [Act.put, List.setIfInBounds_toArray, List.set_cons_zero, List.set_cons_succ]
        refine wpAnyG_one (i := 7) (by kernel_rfl) rfl (fun K hK => ?_)
        go_simp
        refine hK.out _ _ (fun h => absurd rfl h) (fun _ => ?_)
        clear hK K
        refine wpAnyG_done (by kernel_rfl) ?_ _
        have B := Lib.hid (B.out.trans (hcur.mono B.out.size))
        go_wp2
        go_ret
        exact ⟨none, 0, rfl, OwnTxt.nil _ _, B.out⟩
    · rw [if_neg (fun h => h1 h.1)] at hnt
      rw [hnt]
      by_cases q1 : (k : Int) < 1
      · clear hopt hgood hok hrd hrb hsl hmay hq hs X0 hb0 han hg hj hnt h32 hby ht hk hm0 hm1 h1
        go_enter Try.func51, Try.ntmps51
        go_wp2_with fail
        rw [← hw0]
        clear hw0
        refine (GT.out _ X.out.dsk).mono ?_
        rintro e w2 ⟨AB, dB, rfl, hown, hb⟩
        rw [H32.out] at hown ⊢
        obtain ⟨gB, rfl, _, q10, _, _⟩ := owns_int_at (j := 10) hown (by decide)
        rw [← HM.out] at q10
        have B := Lib.hid (B.out.trans (hb.mono B.out.size))
        clear hb hown GT x0 x1
        go_wp2
        go_ret
        exact ⟨none, 0, rfl, OwnTxt.nil _ _, B.out⟩
      · have q2 : (20 : Int) < (k : Int) := by omega
        clear hopt hgood hok hrd hrb hsl hmay hq hs X0 hb0 han hg hj hnt h32 hby ht hk hm0 hm1 h1
        go_enter Try.func51, Try.ntmps51
        go_wp2_with fail
        rw [← hw0]
        clear hw0
        refine (GT.out _ X.out.dsk).mono ?_
        rintro e w2 ⟨AB, dB, rfl, hown, hb⟩
        rw [H32.out] at hown ⊢
        obtain ⟨gB, rfl, _, q10, _, _⟩ := owns_int_at (j := 10) hown (by decide)
        rw [← HM.out] at q10
        have B := Lib.hid (B.out.trans (hb.mono B.out.size))
        clear hb hown GT x0 x1
        go_wp2
        go_ret
        exact ⟨none, 0, rfl, OwnTxt.nil _ _, B.out⟩

end Go.Proofs.Yteapaoefgcnicaa
