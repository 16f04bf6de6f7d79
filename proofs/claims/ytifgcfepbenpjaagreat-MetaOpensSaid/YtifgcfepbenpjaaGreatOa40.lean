/- Texts of layers 1 to 12, joined. -/
import Derived.Test.YtifgcfepbenpjaaGreatOa20
import Derived.Test.YtifgcfepbenpjaaGreatOa39
import Derived.KernelRfl
import Derived.Deep.RegionHeld3
set_option maxRecDepth 100000
set_option maxHeartbeats 12800000
set_option linter.unusedVariables false
namespace Go.Proofs.YtifgcfepbenpjaaGreat
open Go.RowKit
theorem OwnTxt.sub {w : World} {base g o n c lo hi : Nat} {zs : List Int} (h : OwnTxt w base (some ⟨g, o, none⟩) n c zs) (h1 : lo ≤ hi) (h2 : hi ≤ n) : OwnTxt w base (some ⟨g, o + lo, none⟩) (hi - lo) (c - lo) ((zs.drop lo).take (hi - lo)) := by
 obtain ⟨a1, a2, a3, a4⟩ := h
 refine ⟨by rw [List.length_take, List.length_drop]; omega, by omega, by omega, ?_⟩
 rcases a4 with a4 | ⟨g', o', cs, e, hb, hg, hc⟩
 ·exact .inl (by omega)
 ·injection e with e
  injection e with e1 e2 _
  subst e1
  subst e2
  refine .inr ⟨g, o + lo, cs, rfl, hb, hg, fun j hj => ?_⟩
  have e3 : ((zs.drop lo).take (hi - lo)).getD j 0 = zs.getD (lo + j) 0 := by
   rw [gtD, List.getElem?_take, if_pos hj, List.getElem?_drop, gtD]
  rw [e3, Nat.add_assoc]
  exact hc (lo + j) (by omega)
theorem rnote_any (D : Option Addr) (n c : Nat) (D' : Option Addr) (n' c' : Nat) (S : List Sec) (C : List Pnd) (a : Nat) (g j : Int) (w : World) (hq : Dsk w D n c D' n' c' S C) (hs : SmallD S C) (hmay : mayD S C = true) (han : a < n) (hg : isG g) (hj : 0 ≤ j ∧ j ≤ 255) :
  Calls Tryz.prog 91 #[diskV D n c D' n' c', .int .i64 (a : Int), .int .u64 g, .int .i64 j] w fun e w' => ∃ A' c', e = .returned (.slice A' (noteO g j (optAt S C a)).length c') ∧ OwnTxt w' w.heap.size A' (noteO g j (optAt S C a)).length c' (noteO g j (optAt S C a)) ∧ Below w.heap.size w w' := by
 have X0 := DBox.new hq
 have hb0 : Below w.heap.size w (w.alloc (.cells #[.slice D n c, .slice D' n' c'] 25)) := (Below.refl _ _).alloc (Nat.le_refl _) _
 obtain ⟨w0, hw0⟩ : ∃ x, x = w.alloc (.cells #[.slice D n c, .slice D' n' c'] 25) := ⟨_, rfl⟩
 rw [← hw0] at X0 hb0
 have X := Lh X0
 have B := Lh hb0
 have GT := Lh (fun wx hx => got_any D n c D' n' c' S C a wx hx hs han)
 obtain ⟨x0, x1⟩ := X.out.cells
 have hsl := hq.secs.len
 have hopt := optAt_got (a := (a : Int)) hmay (by omega) (by omega)
 have hgood := fun h => rd_good (at_ := (a : Int)) (S := S) (C := C) h hq.secs.byte hq.pnds.byte
 cases hok : gotOk S C a with
 | false =>
  rw [hok] at GT hopt
  rw [if_neg (by decide)] at hopt
  rw [hopt]
  obtain ⟨m, hm⟩ : ∃ m, m = (gotB S C a).length := ⟨_, rfl⟩
  rw [← hm] at GT
  rw [show noteO g j none = [] from rfl]
  clear hopt hgood hok hm hsl hmay hq hs X0 hb0 han hg hj
  go_enter Tryz.func91, Tryz.ntmps91
  go_wp2_with fail
  rw [← hw0]
  clear hw0
  refine (GT.out _ X.out.dsk).mono ?_
  rintro e w2 ⟨AB, dB, rfl, hown, hb⟩
  have B := Lh (B.out.trans (hb.mono B.out.size))
  clear hb hown GT x0 x1
  go_wp2
  go_ret
  exact ⟨none, 0, rfl, OwnTxt.nil _ _, B.out⟩
 | true =>
  rw [hok] at GT hopt
  rw [if_pos rfl] at hopt
  have hrd : rdE S C (a : Int) = 0 := by
   unfold optAt at hopt
   split at hopt
   ·assumption
   ·cases hopt
  obtain ⟨h32, hby⟩ := hgood hrd
  have hrb : rdB S C (a : Int) = gotB S C a := if_pos hrd
  rw [hrb] at h32 hby
  rw [hopt, show noteO g j (some (gotB S C a)) = noteT g j (gotB S C a) from rfl]
  obtain ⟨t, ht⟩ : ∃ t, t = gotB S C (a : Int) := ⟨_, rfl⟩
  rw [← ht] at GT h32 hby ⊢
  obtain ⟨hm0, hm1⟩ := byte_getD hby 10
  have H32 := Lh h32
  have HBY := Lh hby
  obtain ⟨k, hk⟩ : ∃ k : Nat, t.getD 10 0 = (k : Int) := ⟨(t.getD 10 0).toNat, by omega⟩
  have hnt : noteT g j t = if (1 ≤ k ∧ k ≤ 20) ∧ jT g j ((t.drop 12).take k) = t then (t.drop 12).take k else [] := by
   unfold noteT
   rw [hk, Int.toNat_natCast]
   by_cases h1 : 1 ≤ k ∧ k ≤ 20
   ·by_cases h2 : jT g j ((t.drop 12).take k) = t
    ·rw [if_pos ⟨⟨by omega, by omega⟩, h2⟩, if_pos ⟨h1, h2⟩]
    ·rw [if_neg (fun h => h2 h.2), if_neg (fun h => h2 h.2)]
   ·rw [if_neg (fun h => h1 ⟨by omega, by omega⟩), if_neg (fun h => h1 h.1)]
  have HM := Lh hk.symm
  by_cases h1 : 1 ≤ k ∧ k ≤ 20
  ·have SC0 := fun wx (A0 : Option Addr) (c0 : Nat) (hr : Arg wx .u8 A0 k c0 ((t.drop 12).take k)) => rsector_any g j hg hj A0 k c0 _ wx hr h1.2
   have hjb := jT_byte g j (b := (t.drop 12).take k) (fun z hz => hby z (List.mem_of_mem_drop (List.mem_of_mem_take hz)))
   have hbl : ((t.drop 12).take k).length = k := by rw [List.length_take, List.length_drop]; omega
   have hse := strs_eq hjb hby
   have q1 : ¬ (k : Int) < 1 := by omega
   have q2 : ¬ (20 : Int) < (k : Int) := by omega
   have hwk : IntKind.i64.wrap (k : Int) = k := wrap_i64_byte ⟨by omega, by omega⟩
   have hwk2 : IntKind.i64.wrap (12 + (k : Int)) = 12 + k := wrap_i64_byte ⟨by omega, by omega⟩
   obtain ⟨s1, hs1⟩ : ∃ s, s = strOfNums t := ⟨_, rfl⟩
   obtain ⟨s3, hs3⟩ : ∃ s, s = strOfNums (jT g j ((t.drop 12).take k)) := ⟨_, rfl⟩
   rw [← hs1, ← hs3] at hse
   have HS1 := Lh hs1
   have HS3 := Lh hs3
   by_cases h2 : jT g j ((t.drop 12).take k) = t
   ·rw [if_pos ⟨h1, h2⟩] at hnt
    rw [hnt, hbl]
    rw [decide_eq_true h2] at hse
    have HBT := Lh (rfl : (t.drop 12).take k = (t.drop 12).take k)
    clear hopt hgood hok hrd hrb hsl hmay hq hs X0 hb0 han hg hj hnt hjb hbl h2 hs1 hs3 h32 hby ht hk hm0 hm1 HBT
    go_enter Tryz.func91, Tryz.ntmps91
    go_wp2_with fail
    rw [← hw0]
    clear hw0
    refine (GT.out _ X.out.dsk).mono ?_
    rintro e w2 ⟨AB, dB, rfl, hown, hb⟩
    rw [H32.out] at hown ⊢
    obtain ⟨gB, rfl, _, q10, _, _⟩ := owns_int_at (j := 10) hown (by decide)
    rw [← HM.out] at q10
    have B := Lh (B.out.trans (hb.mono B.out.size))
    have hc32 : 32 ≤ dB := (Arg.own hown).cap
    have hcm : dB ≤ maxLen := (Arg.own hown).max
    unfold maxLen at hcm
    have z1 : ¬ dB = 12 := by omega
    have z2 : (12 : Int) + (k : Int) ≤ (dB : Int) := by omega
    have z3 : (12 : Int) < (dB : Int) := by omega
    have ho12 := (OwnTxt.of hown).sub (lo := 12) (hi := 12 + k) (by omega) (by omega)
    rw [Nat.zero_add, Nat.add_sub_cancel_left] at ho12
    have B0 := Lh (by assumption : Hid (Below w.heap.size w w0)).out
    have OT := Lh ho12
    have AO := Lh (Arg.own hown)
    have SC := Lh (fun wx (hx : Below w2.heap.size w2 wx) => SC0 wx _ _ (OT.out.arg.below hx))
    have keepX : ∀ wx, Below w2.heap.size w2 wx → (convert 42 9 (.slice (some ⟨gB, 0, none⟩) 32 dB)).run Tryz.prog wx = .ok (.string s1) wx := fun wx hx => by rw [HS1.out]; exact str_arg (AO.out.below hx)
    clear hb hown GT x0 x1 SC0 ho12
    go_upto_region 5 with fail
    have hcur : Below w2.heap.size w2 w2.drew := below_drewN (Below.refl _ _) 1
    have hkX := keepX _ hcur
    have hHeld := hkX
    refine wp_region_to 7 (fun w' => (convert 42 9 (.slice (some ⟨gB, 0, none⟩) 32 dB)).run Tryz.prog w' = .ok (.string s1) w') (by kernel_rfl) ?_
    refine wpAnyG_take (i := 0) (v := ?_) rfl (by kernel_rfl) (by kernel_rfl) (by kernel_rfl) (by kernel_rfl) (by kernel_rfl) rfl (fun _ _ _ h => h) (Or.inl ⟨by rfl, ?_⟩) hHeld ?_
    rotate_left
    ·(intro w' hSw; (try dsimp only at hSw); go_simp; (try with_reducible rfl))
    simp only [Act.put, stA, scZ, scS, List.getElem_toArray, List.getElem_cons_zero]
    refine wpAnyG_take (i := 1) (v := ?_) rfl (by kernel_rfl) (by kernel_rfl) (by kernel_rfl) (by kernel_rfl) (by kernel_rfl) rfl (fun _ _ _ h => h) (Or.inl ⟨by rfl, ?_⟩) hHeld ?_
    rotate_left
    ·(intro w' hSw; (try dsimp only at hSw); go_simp; (try with_reducible rfl))
    simp only [Act.put, stA, scZ, scS, List.getElem_toArray, List.getElem_cons_zero, List.getElem_cons_succ]
    refine wpAnyG_take (i := 2) (v := ?_) rfl (by kernel_rfl) (by kernel_rfl) (by kernel_rfl) (by kernel_rfl) (by kernel_rfl) rfl (fun _ _ _ h => h) (Or.inl ⟨by rfl, ?_⟩) hHeld ?_
    rotate_left
    ·(intro w' hSw; (try dsimp only at hSw); go_simp; (try with_reducible rfl))
    simp only [Act.put, stA, scZ, scS, List.getElem_toArray, List.getElem_cons_zero, List.getElem_cons_succ]
    refine wpAnyG_take (i := 5) (v := ?_) rfl (by kernel_rfl) (by kernel_rfl) (by kernel_rfl) (by kernel_rfl) (by kernel_rfl) rfl (fun _ _ _ h => h) (Or.inl ⟨by rfl, ?_⟩) hHeld ?_
    rotate_left
    ·(intro w' hSw; (try dsimp only at hSw); go_simp; (try with_reducible rfl))
    simp only [Act.put, stA, scZ, scS, List.getElem_toArray, List.getElem_cons_zero, List.getElem_cons_succ]
    refine wpAnyG_take (i := 6) (v := ?_) rfl (by kernel_rfl) (by kernel_rfl) (by kernel_rfl) (by kernel_rfl) (by kernel_rfl) rfl (fun _ _ _ h => h) (Or.inl ⟨by rfl, ?_⟩) hHeld ?_
    rotate_left
    ·(intro w' hSw; (try dsimp only at hSw); go_simp; (try with_reducible rfl))
    simp only [Act.put, stA, scZ, scS, List.getElem_toArray, List.getElem_cons_zero, List.getElem_cons_succ]
    refine wpAnyG_one (i := 3) (by kernel_rfl) rfl (fun K hK => ?_)
    go_simp
    go_at_call 102
    refine (SC.out _ hcur).mono ?_
    rintro e w3 ⟨A3, c3, rfl, hown3, hb3⟩
    have hcur := hcur.trans (hb3.mono hcur.size)
    have k3 := str_arg (Arg.own hown3)
    rw [← HS3.out] at k3
    refine hK.out _ _ (fun _ => keepX _ hcur) (fun hHeld => ?_)
    have hHeld := hHeld (by decide)
    clear hK K
    try simp only [Act.put, stA, scZ, scS]
    refine wpAnyG_one (i := 4) (by kernel_rfl) rfl (fun K hK => ?_)
    go_simp
    refine hK.out _ _ (fun _ => keepX _ hcur) (fun hHeld => ?_)
    have hHeld := hHeld (by decide)
    clear hK K
    try simp only [Act.put, stA, scZ, scS]
    refine wpAnyG_one (i := 7) (by kernel_rfl) rfl (fun K hK => ?_)
    go_simp
    refine hK.out _ _ (fun h => absurd rfl h) (fun _ => ?_)
    clear hK K
    refine wpAnyG_done (by kernel_rfl) ?_ _
    have B := Lh (B.out.trans (hcur.mono B.out.size))
    go_wp2
    go_ret
    exact ⟨some ⟨gB, 12, none⟩, dB - 12, rfl, (OT.out.below hcur).lower B0.out.size, B.out⟩
   ·rw [if_neg (fun h => h2 h.2)] at hnt
    rw [hnt]
    rw [decide_eq_false h2] at hse
    clear hopt hgood hok hrd hrb hsl hmay hq hs X0 hb0 han hg hj hnt hjb hbl h2 hs1 hs3 h32 hby ht hk hm0 hm1
    go_enter Tryz.func91, Tryz.ntmps91
    go_wp2_with fail
    rw [← hw0]
    clear hw0
    refine (GT.out _ X.out.dsk).mono ?_
    rintro e w2 ⟨AB, dB, rfl, hown, hb⟩
    rw [H32.out] at hown ⊢
    obtain ⟨gB, rfl, _, q10, _, _⟩ := owns_int_at (j := 10) hown (by decide)
    rw [← HM.out] at q10
    have B := Lh (B.out.trans (hb.mono B.out.size))
    have hc32 : 32 ≤ dB := (Arg.own hown).cap
    have hcm : dB ≤ maxLen := (Arg.own hown).max
    unfold maxLen at hcm
    have z1 : ¬ dB = 12 := by omega
    have z2 : (12 : Int) + (k : Int) ≤ (dB : Int) := by omega
    have z3 : (12 : Int) < (dB : Int) := by omega
    have ho12 := (OwnTxt.of hown).sub (lo := 12) (hi := 12 + k) (by omega) (by omega)
    rw [Nat.zero_add, Nat.add_sub_cancel_left] at ho12
    have B0 := Lh (by assumption : Hid (Below w.heap.size w w0)).out
    have OT := Lh ho12
    have AO := Lh (Arg.own hown)
    have SC := Lh (fun wx (hx : Below w2.heap.size w2 wx) => SC0 wx _ _ (OT.out.arg.below hx))
    have keepX : ∀ wx, Below w2.heap.size w2 wx → (convert 42 9 (.slice (some ⟨gB, 0, none⟩) 32 dB)).run Tryz.prog wx = .ok (.string s1) wx := fun wx hx => by rw [HS1.out]; exact str_arg (AO.out.below hx)
    clear hb hown GT x0 x1 SC0 ho12
    go_upto_region 5 with fail
    have hcur : Below w2.heap.size w2 w2.drew := below_drewN (Below.refl _ _) 1
    have hkX := keepX _ hcur
    have hHeld := hkX
    refine wp_region_to 7 (fun w' => (convert 42 9 (.slice (some ⟨gB, 0, none⟩) 32 dB)).run Tryz.prog w' = .ok (.string s1) w') (by kernel_rfl) ?_
    refine wpAnyG_take (i := 0) (v := ?_) rfl (by kernel_rfl) (by kernel_rfl) (by kernel_rfl) (by kernel_rfl) (by kernel_rfl) rfl (fun _ _ _ h => h) (Or.inl ⟨by rfl, ?_⟩) hHeld ?_
    rotate_left
    ·(intro w' hSw; (try dsimp only at hSw); go_simp; (try with_reducible rfl))
    simp only [Act.put, stA, scZ, scS, List.getElem_toArray, List.getElem_cons_zero]
    refine wpAnyG_take (i := 1) (v := ?_) rfl (by kernel_rfl) (by kernel_rfl) (by kernel_rfl) (by kernel_rfl) (by kernel_rfl) rfl (fun _ _ _ h => h) (Or.inl ⟨by rfl, ?_⟩) hHeld ?_
    rotate_left
    ·(intro w' hSw; (try dsimp only at hSw); go_simp; (try with_reducible rfl))
    simp only [Act.put, stA, scZ, scS, List.getElem_toArray, List.getElem_cons_zero, List.getElem_cons_succ]
    refine wpAnyG_take (i := 2) (v := ?_) rfl (by kernel_rfl) (by kernel_rfl) (by kernel_rfl) (by kernel_rfl) (by kernel_rfl) rfl (fun _ _ _ h => h) (Or.inl ⟨by rfl, ?_⟩) hHeld ?_
    rotate_left
    ·(intro w' hSw; (try dsimp only at hSw); go_simp; (try with_reducible rfl))
    simp only [Act.put, stA, scZ, scS, List.getElem_toArray, List.getElem_cons_zero, List.getElem_cons_succ]
    refine wpAnyG_take (i := 5) (v := ?_) rfl (by kernel_rfl) (by kernel_rfl) (by kernel_rfl) (by kernel_rfl) (by kernel_rfl) rfl (fun _ _ _ h => h) (Or.inl ⟨by rfl, ?_⟩) hHeld ?_
    rotate_left
    ·(intro w' hSw; (try dsimp only at hSw); go_simp; (try with_reducible rfl))
    simp only [Act.put, stA, scZ, scS, List.getElem_toArray, List.getElem_cons_zero, List.getElem_cons_succ]
    refine wpAnyG_take (i := 6) (v := ?_) rfl (by kernel_rfl) (by kernel_rfl) (by kernel_rfl) (by kernel_rfl) (by kernel_rfl) rfl (fun _ _ _ h => h) (Or.inl ⟨by rfl, ?_⟩) hHeld ?_
    rotate_left
    ·(intro w' hSw; (try dsimp only at hSw); go_simp; (try with_reducible rfl))
    simp only [Act.put, stA, scZ, scS, List.getElem_toArray, List.getElem_cons_zero, List.getElem_cons_succ]
    refine wpAnyG_one (i := 3) (by kernel_rfl) rfl (fun K hK => ?_)
    go_simp
    go_at_call 102
    refine (SC.out _ hcur).mono ?_
    rintro e w3 ⟨A3, c3, rfl, hown3, hb3⟩
    have hcur := hcur.trans (hb3.mono hcur.size)
    have k3 := str_arg (Arg.own hown3)
    rw [← HS3.out] at k3
    refine hK.out _ _ (fun _ => keepX _ hcur) (fun hHeld => ?_)
    have hHeld := hHeld (by decide)
    clear hK K
    try simp only [Act.put, stA, scZ, scS]
    refine wpAnyG_one (i := 4) (by kernel_rfl) rfl (fun K hK => ?_)
    go_simp
    refine hK.out _ _ (fun _ => keepX _ hcur) (fun hHeld => ?_)
    have hHeld := hHeld (by decide)
    clear hK K
    try simp only [Act.put, stA, scZ, scS]
    refine wpAnyG_one (i := 7) (by kernel_rfl) rfl (fun K hK => ?_)
    go_simp
    refine hK.out _ _ (fun h => absurd rfl h) (fun _ => ?_)
    clear hK K
    refine wpAnyG_done (by kernel_rfl) ?_ _
    have B := Lh (B.out.trans (hcur.mono B.out.size))
    go_wp2
    go_ret
    exact ⟨none, 0, rfl, OwnTxt.nil _ _, B.out⟩
  ·rw [if_neg (fun h => h1 h.1)] at hnt
   rw [hnt]
   by_cases q1 : (k : Int) < 1
   ·clear hopt hgood hok hrd hrb hsl hmay hq hs X0 hb0 han hg hj hnt h32 hby ht hk hm0 hm1 h1
    go_enter Tryz.func91, Tryz.ntmps91
    go_wp2_with fail
    rw [← hw0]
    clear hw0
    refine (GT.out _ X.out.dsk).mono ?_
    rintro e w2 ⟨AB, dB, rfl, hown, hb⟩
    rw [H32.out] at hown ⊢
    obtain ⟨gB, rfl, _, q10, _, _⟩ := owns_int_at (j := 10) hown (by decide)
    rw [← HM.out] at q10
    have B := Lh (B.out.trans (hb.mono B.out.size))
    clear hb hown GT x0 x1
    go_wp2
    go_ret
    exact ⟨none, 0, rfl, OwnTxt.nil _ _, B.out⟩
   ·have q2 : (20 : Int) < (k : Int) := by omega
    clear hopt hgood hok hrd hrb hsl hmay hq hs X0 hb0 han hg hj hnt h32 hby ht hk hm0 hm1 h1
    go_enter Tryz.func91, Tryz.ntmps91
    go_wp2_with fail
    rw [← hw0]
    clear hw0
    refine (GT.out _ X.out.dsk).mono ?_
    rintro e w2 ⟨AB, dB, rfl, hown, hb⟩
    rw [H32.out] at hown ⊢
    obtain ⟨gB, rfl, _, q10, _, _⟩ := owns_int_at (j := 10) hown (by decide)
    rw [← HM.out] at q10
    have B := Lh (B.out.trans (hb.mono B.out.size))
    clear hb hown GT x0 x1
    go_wp2
    go_ret
    exact ⟨none, 0, rfl, OwnTxt.nil _ _, B.out⟩
theorem noteO_byte {S : List Sec} {C : List Pnd} (hS : ∀ s ∈ S, ∀ z ∈ s.2, isByte z) (hC : ∀ p ∈ C, ∀ z ∈ p.2, isByte z) (g j x : Int) : ∀ z ∈ noteO g j (optAt S C x), isByte z := by
 unfold optAt
 by_cases h : rdE S C x = 0
 ·rw [if_pos h]
  exact noteT_byte g j (rd_good h hS hC).2
 ·rw [if_neg h]
  intro z hz
  cases hz
theorem rnotes_any (P T A M W Q : Int) (D : Option Addr) (n c : Nat) (D' : Option Addr) (n' c' : Nat) (S : List Sec) (C : List Pnd) (a g : Int) (w : World) (hq : Dsk w D n c D' n' c' S C) (hs : SmallD S C) (hm : mayT P T A M W Q S C) (ha : arJ a) (hg : isG g) :
  Calls Tryz.prog 49 #[cfgV P T A M W Q, diskV D n c D' n' c', .int .i64 a, .int .u64 g] w fun e w' => ∃ A' c', e = .returned (.slice A' (jN (jf S C A a g) A.toNat).length c') ∧ OwnTxs w' w.heap.size A' (jN (jf S C A a g) A.toNat).length c' (jN (jf S C A a g) A.toNat) ∧ Below w.heap.size w w' := by
 obtain ⟨i1, hi1, hj0, hj1, hj2⟩ := info_parts txts_info
 have hml : (1000 : Nat) ≤ maxLen := by decide
 obtain ⟨x, hbel⟩ := TBox.new P T A M W Q hq
 obtain ⟨w0, hw0⟩ : ∃ x : World, x = (w.alloc (.cells #[.int .i64 P, .int .i64 T, .int .i64 A, .int .i64 M, .int .i64 W, .int .i64 Q] 36)).alloc (.cells #[.slice D n c, .slice D' n' c'] 25) := ⟨_, rfl⟩
 rw [← hw0] at x hbel
 have X := Lh x
 have B := Lh hbel
 have hsl := hq.secs.len
 have hA3 : 3 ≤ A ∧ A ≤ 32 := by
  obtain ⟨c1, c2, c3, c4, c5, c6, c7⟩ := hm.1
  omega
 obtain ⟨K, hK⟩ : ∃ K : Nat, A = (K : Int) := ⟨A.toNat, by omega⟩
 have hKn : A.toNat = K := by omega
 rw [hKn]
 obtain ⟨f, hf⟩ : ∃ f, f = jf S C A a g := ⟨_, rfl⟩
 have FB := Lh (fun j => (by rw [hf]; exact noteO_byte hq.secs.byte hq.pnds.byte g j _ : ∀ z ∈ f j, isByte z))
 have AT := Lh (fun (k : Nat) (hk : k < K) => at_area hm ha (n := k) (by omega))
 have IA0 := Lh (fun (k : Nat) (hk : k < K) (wx : World) => rinarea_any P T A M W Q a k wx hm.1 ⟨ha.1, ha.2, by omega, by omega⟩)
 have NT := Lh (fun (k : Nat) (hk : k < K) (p : Nat) (hp : (p : Int) = 2 + a * A + (k : Int)) wx hx => (show Calls Tryz.prog 91 #[diskV D n c D' n' c', .int .i64 (p : Int), .int .u64 g, .int .i64 (k : Int)] wx (fun e w' => ∃ A' c', e = .returned (.slice A' (f k).length c') ∧ OwnTxt w' wx.heap.size A' (f k).length c' (f k) ∧ Below wx.heap.size wx w') from by
  have r := rnote_any D n c D' n' c' S C p g k wx hx hs hm.2.1 (by have := (AT.out k hk).2; omega) hg ⟨by omega, by omega⟩
  rw [hp] at r
  rw [hp, hf]
  exact r))
 rw [← hf]
 obtain ⟨J, hJ⟩ : ∃ J, J = jN f K := ⟨_, rfl⟩
 rw [← hJ]
 have HJ := Lh hJ
 obtain ⟨c0, c1, c2, c3, c4, c5, d0, d1⟩ := X.out.cells
 have hK32 : K ≤ 32 := by omega
 have HK := Lh hK
 clear x hbel hq hs hm ha hg hf hJ hKn hsl hK
 go_enter Tryz.func49, Tryz.ntmps49
 go_wp2
 rw [← hw0]
 clear hw0 c0 c1 c2 c3 c4 c5 d0 d1
 go_loopw [10, 9] (fun i o wr => ∃ (k : Nat) (A9 : Option Addr) (c9 : Nat), k ≤ K ∧ i = .int .i64 k ∧ o = .slice A9 k c9 ∧ OwnTxs wr w0.heap.size A9 k c9 ((List.range k).map f) ∧ (∀ j, j < k → f j ≠ []) ∧ Below w0.heap.size w0 wr) (fun i _ _ => K - (intOf i).toNat)
 case atStart => exact ⟨0, none, 0, Nat.zero_le _, rfl, rfl, OwnTxs.nil _ _, fun j h => absurd h (Nat.not_lt_zero _), Below.refl _ _⟩
 case round =>
  obtain ⟨k, A9, c9, hk, rfl, rfl, ho, hall, hb0⟩ := hrel
  have ALL := Lh hall
  have O := Lh ho
  have BR := Lh hb0
  have XR := Lh (X.out.below hb0)
  have HKL := Lh hk
  clear ho hall hb0 hk
  obtain ⟨c0, c1, c2, c3, c4, c5, d0, d1⟩ := XR.out.cells
  by_cases hkK : k < K
  ·have hkA : (k : Int) < A := by rw [HK.out]; omega
   obtain ⟨p, hp⟩ : ∃ p : Nat, (p : Int) = 2 + a * A + (k : Int) := ⟨(2 + a * A + (k : Int)).toNat, by have := (AT.out k hkK).1; omega⟩
   have IA := Lh (show ∀ wx, Calls Tryz.prog 92 #[cfgV P T A M W Q, .int .i64 a, .int .i64 (k : Int)] wx (fun e w' => e = .returned (.int .i64 (p : Int)) ∧ Below wx.heap.size wx w') from fun wx => by
    have r := IA0.out k hkK wx
    rw [← hp] at r
    exact r)
   by_cases hfk : f k = []
   ·have NK := Lh (show ∀ wx, Dsk wx D n c D' n' c' S C → Calls Tryz.prog 91 #[diskV D n c D' n' c', .int .i64 (p : Int), .int .u64 g, .int .i64 (k : Int)] wx (fun e w' => ∃ A' c', e = .returned (.slice A' 0 c') ∧ Below wx.heap.size wx w') from fun wx hx => (NT.out k hkK p hp wx hx).mono fun e w' h => by
     obtain ⟨A', c', h1, _, h3⟩ := h
     rw [hfk] at h1
     exact ⟨A', c', h1, h3⟩)
    have hJk : J = (List.range k).map f := by
     rw [HJ.out]
     unfold jN
     rw [jM_is HKL.out ALL.out (.inr hfk)]
    have HJK := Lh hJk
    have HLN := Lh (show J.length = k by rw [hJk, List.length_map, List.length_range])
    clear hfk hJk hp NT
    go_upto_region 5 with fail
    clear c0 c1 c2 c3 c4 c5 d0 d1
    have hcur : Below wr.heap.size wr wr.drew := below_drewN (Below.refl _ _) 1
    have keepX : ∀ wx, Below wr.heap.size wr wx → wx.cell? ⟨w.heap.size, 0, none⟩ = some (.int .i64 P) ∧ wx.cell? ⟨w.heap.size, 1, none⟩ = some (.int .i64 T) ∧ wx.cell? ⟨w.heap.size, 2, none⟩ = some (.int .i64 A) ∧ wx.cell? ⟨w.heap.size, 3, none⟩ = some (.int .i64 M) ∧ wx.cell? ⟨w.heap.size, 4, none⟩ = some (.int .i64 W) ∧ wx.cell? ⟨w.heap.size, 5, none⟩ = some (.int .i64 Q) ∧ wx.cell? ⟨w.heap.size + 1, 0, none⟩ = some (.slice D n c) ∧ wx.cell? ⟨w.heap.size + 1, 1, none⟩ = some (.slice D' n' c') := fun wx hx => (XR.out.below hx).cells
    have hkX := keepX _ hcur
    go_region_held3 (fun w' => w'.cell? ⟨w.heap.size, 0, none⟩ = some (.int .i64 P) ∧ w'.cell? ⟨w.heap.size, 1, none⟩ = some (.int .i64 T) ∧ w'.cell? ⟨w.heap.size, 2, none⟩ = some (.int .i64 A) ∧ w'.cell? ⟨w.heap.size, 3, none⟩ = some (.int .i64 M) ∧ w'.cell? ⟨w.heap.size, 4, none⟩ = some (.int .i64 W) ∧ w'.cell? ⟨w.heap.size, 5, none⟩ = some (.int .i64 Q) ∧ w'.cell? ⟨w.heap.size + 1, 0, none⟩ = some (.slice D n c) ∧ w'.cell? ⟨w.heap.size + 1, 1, none⟩ = some (.slice D' n' c'))
     (first | exact hkX | go_keep)
     (first
      | (go_at_call 92; with_reducible refine (IA.out _).mono ?_; rintro e w2 ⟨rfl, hb⟩; have hcur := hcur.trans (hb.mono hcur.size); have hkX := keepX _ hcur)
      | (go_at_call 91; have hM := hcur.size; with_reducible refine (NK.out _ (XR.out.below hcur).dsk.dsk).mono ?_; rintro e w3 ⟨A3, c3, rfl, hb⟩; have hcur := hcur.trans (hb.mono hcur.size); have hkX := keepX _ hcur))
    have O := Lh (O.out.below hcur)
    have BF := Lh (BR.out.trans (hcur.mono BR.out.size))
    clear hcur hkX keepX hM hb
    go_wp2
    go_ret
    refine ⟨A9, c9, by rw [HLN.out]; rfl, ?_, B.out.trans (BF.out.mono B.out.size)⟩
    rw [HLN.out, HJK.out]
    exact O.out.lower B.out.size
   ·have HFK := Lh hfk
    have NK := Lh (NT.out k hkK p hp)
    have HFB := Lh (FB.out k)
    obtain ⟨t, ht⟩ : ∃ t, t = f k := ⟨_, rfl⟩
    rw [← ht] at NK HFB
    have HT := Lh ht
    obtain ⟨m, hm⟩ : ∃ m, m = t.length := ⟨_, rfl⟩
    rw [← hm] at NK
    have hm0 : ((m : Int) == 0) = false := beq_eq_false_iff_ne.2 (by
     intro h
     have h2 : t = [] := List.eq_nil_of_length_eq_zero (by omega)
     rw [ht] at h2
     exact hfk h2)
    have hkl : k + 1 ≤ maxLen := by omega
    clear hfk hp ht hm NT
    go_upto_region 5 with fail
    clear c0 c1 c2 c3 c4 c5 d0 d1
    have hcur : Below wr.heap.size wr wr.drew := below_drewN (Below.refl _ _) 1
    have keepX : ∀ wx, Below wr.heap.size wr wx → wx.cell? ⟨w.heap.size, 0, none⟩ = some (.int .i64 P) ∧ wx.cell? ⟨w.heap.size, 1, none⟩ = some (.int .i64 T) ∧ wx.cell? ⟨w.heap.size, 2, none⟩ = some (.int .i64 A) ∧ wx.cell? ⟨w.heap.size, 3, none⟩ = some (.int .i64 M) ∧ wx.cell? ⟨w.heap.size, 4, none⟩ = some (.int .i64 W) ∧ wx.cell? ⟨w.heap.size, 5, none⟩ = some (.int .i64 Q) ∧ wx.cell? ⟨w.heap.size + 1, 0, none⟩ = some (.slice D n c) ∧ wx.cell? ⟨w.heap.size + 1, 1, none⟩ = some (.slice D' n' c') := fun wx hx => (XR.out.below hx).cells
    have hkX := keepX _ hcur
    go_region_held3 (fun w' => w'.cell? ⟨w.heap.size, 0, none⟩ = some (.int .i64 P) ∧ w'.cell? ⟨w.heap.size, 1, none⟩ = some (.int .i64 T) ∧ w'.cell? ⟨w.heap.size, 2, none⟩ = some (.int .i64 A) ∧ w'.cell? ⟨w.heap.size, 3, none⟩ = some (.int .i64 M) ∧ w'.cell? ⟨w.heap.size, 4, none⟩ = some (.int .i64 W) ∧ w'.cell? ⟨w.heap.size, 5, none⟩ = some (.int .i64 Q) ∧ w'.cell? ⟨w.heap.size + 1, 0, none⟩ = some (.slice D n c) ∧ w'.cell? ⟨w.heap.size + 1, 1, none⟩ = some (.slice D' n' c'))
     (first | exact hkX | go_keep)
     (first
      | (go_at_call 92; with_reducible refine (IA.out _).mono ?_; rintro e w2 ⟨rfl, hb⟩; have hcur := hcur.trans (hb.mono hcur.size); have hkX := keepX _ hcur)
      | (go_at_call 91; have hM := hcur.size; with_reducible refine (NK.out _ (XR.out.below hcur).dsk.dsk).mono ?_; rintro e w3 ⟨A3, c3, rfl, hown, hb⟩; have hcur := hcur.trans (hb.mono hcur.size); have hkX := keepX _ hcur))
    have O := Lh (O.out.below hcur)
    have TX := Lh (hown.lower (Nat.le_trans BR.out.size hM))
    have BR2 := Lh (BR.out.trans (hcur.mono BR.out.size))
    clear hcur hkX keepX hM hb hown
    go_wp2_with (at_builtin; (refine wpList_txs w0 _ rfl (.tmp 30) (.tmp 32) _ rfl i1 _ Tryz.underlying103 hi1 hj0 hj1 hj2 rfl w0.heap.size A9 k c9 ((List.range k).map f) rfl O.out A3 m c3 t HFB.out TX.out rfl hkl (by omega) BR2.out (Nat.le_refl _) ?_); intro A4 c4 w4 hO4 hB4; have O4 := Lh hO4; have B4 := Lh hB4; clear hO4 hB4)
    go_roundw
    case rel =>
     refine ⟨k + 1, A4, c4, by omega, by go_num, rfl, ?_, fun j hj => ?_, ?_⟩
     ·rw [List.range_succ, List.map_append, List.map_singleton, ← HT.out]
      exact O4.out
     ·by_cases e : j = k
      ·rw [e]; exact HFK.out
      ·exact ALL.out j (by omega)
     ·exact B4.out
    case measure => simp [intOf]; omega
  ·obtain rfl : k = K := by have := HKL.out; omega
   have hkA : ¬ (k : Int) < A := by rw [HK.out]; omega
   have hJk : J = (List.range k).map f := by
    rw [HJ.out]
    unfold jN
    rw [jM_is HKL.out ALL.out (.inl rfl)]
   have HJK := Lh hJk
   have HLN := Lh (show J.length = k by rw [hJk, List.length_map, List.length_range])
   clear hJk
   go_wp2
   go_ret
   refine ⟨A9, c9, by rw [HLN.out]; rfl, ?_, B.out.trans (BR.out.mono B.out.size)⟩
   rw [HLN.out, HJK.out]
   exact O.out.lower B.out.size
def ScanOut (w : World) (L : List Txt) (E : Int) (e : Ending) (w' : World) : Prop :=
 ∃ A c, e = .returned (.tuple #[.slice A L.length c, .int .i64 E]) ∧ OwnTxs w' w.heap.size A L.length c L ∧ Below w.heap.size w w'
section
variable {w w' : World} {G : Nat} {P T A M W Q : Int} {D D' : Option Addr} {n c n' c' : Nat} {S : List Sec} {C : List Pnd}
end
section
variable {w w' : World} {G : Nat} {P T A M W Q : Int} {D D' : Option Addr} {n c n' c' : Nat} {S : List Sec} {C : List Pnd}
end
theorem OwnTxt.few {w : World} {base n c c' : Nat} {A : Option Addr} {zs : List Int} (h : OwnTxt w base A n c zs) (h1 : n ≤ c') (h2 : c' ≤ c) : OwnTxt w base A n c' zs := ⟨h.1, h1, Nat.le_trans h2 h.2.2.1, h.2.2.2⟩
def noAt (o : Option Txt) : Prop := ∀ t, o = some t → ¬ rdOk t
theorem readat_no (D : Option Addr) (n c : Nat) (D' : Option Addr) (n' c' : Nat) (S : List Sec) (C : List Pnd) (a : Int) (w : World) (hq : Dsk w D n c D' n' c' S C) (hs : SmallD S C) (hno : noAt (optAt S C a)) :
  Calls Tryz.prog 127 #[diskV D n c D' n' c', .int .i64 a] w fun e w' => (∃ E, e = .returned (faultV E)) ∧ Below w.heap.size w w' := by
 have X0 := Lh (DBox.new hq)
 have hb0 : Below w.heap.size w (w.alloc (.cells #[.slice D n c, .slice D' n' c'] 25)) := (Below.refl _ _).alloc (Nat.le_refl _) _
 have RD := Lh (dsk_does.read D n c D' n' c' S C a _ (hq.below hb0) hs)
 have B0 := Lh hb0
 by_cases h0 : rdE S C a = 0
 ·have ho : optAt S C a = some (rdB S C a) := if_pos h0
  have hgood := rd_good h0 hq.secs.byte hq.pnds.byte
  have hn := Lh (hno _ ho)
  obtain ⟨t, ht⟩ : ∃ t, t = rdB S C a := ⟨_, rfl⟩
  rw [← ht] at RD hgood hn
  rw [h0] at RD
  obtain ⟨hl, hby⟩ := hgood
  have HBY := Lh hby
  have HL := Lh hl
  clear ho h0 hno hq hs hb0 ht hl hby
  go_enter Tryz.func127, Tryz.ntmps127
  go_wp2_with fail
  refine RD.out.mono ?_
  rintro e w1 ⟨A1, c1, rfl, hown, hb1⟩
  rw [HL.out] at hown
  obtain ⟨g1, rfl, _⟩ := owns_int_at (j := 0) hown (by decide)
  have B1 := Lh (B0.out.trans (hb1.mono B0.out.size))
  have RO := Lh (readof_any g1 0 c1 t w1 (Arg.own hown) HBY.out)
  clear hown hb1 RD X0 B0
  rw [HL.out]
  go_wp2_with fail
  refine RO.out.mono ?_
  rintro e w2 ⟨⟨hy, _⟩ | ⟨_, rfl⟩, hb2⟩
  ·exact absurd hy hn.out
  ·have B2 := Lh (B1.out.trans (hb2.mono B1.out.size))
   clear hb2
   go_wp2
   go_ret
   exact ⟨⟨_, rfl⟩, B2.out⟩
 ·have hb' : rdB S C a = [] := if_neg h0
  rw [hb'] at RD
  obtain ⟨E, hE⟩ : ∃ E, E = rdE S C a := ⟨_, rfl⟩
  rw [← hE] at RD h0
  have hne : (E != 0) = true := by rw [bne_iff_ne]; exact h0
  clear hno hq hs hb0 hb' hE h0
  go_enter Tryz.func127, Tryz.ntmps127
  go_wp2_with fail
  refine RD.out.mono ?_
  rintro e w1 ⟨A1, c1, rfl, hown, hb1⟩
  have B1 := Lh (B0.out.trans (hb1.mono B0.out.size))
  clear hown hb1 RD X0 B0
  go_wp2
  go_ret
  exact ⟨⟨_, rfl⟩, B1.out⟩
theorem readat_yes (D : Option Addr) (n c : Nat) (D' : Option Addr) (n' c' : Nat) (S : List Sec) (C : List Pnd) (a : Int) (t : Txt) (w : World) (hq : Dsk w D n c D' n' c' S C) (hs : SmallD S C) (ho : optAt S C a = some t) (hok : rdOk t) :
  Calls Tryz.prog 127 #[diskV D n c D' n' c', .int .i64 a] w fun e w' => (∃ A, e = .returned (noteV (val (t.take 8)) (t.getD 9 0) A (rdM t) (rdM t)) ∧ OwnTxt w' w.heap.size A (rdM t) (rdM t) (rdTx t)) ∧ Below w.heap.size w w' := by
 have X0 := Lh (DBox.new hq)
 have hb0 : Below w.heap.size w (w.alloc (.cells #[.slice D n c, .slice D' n' c'] 25)) := (Below.refl _ _).alloc (Nat.le_refl _) _
 have RD := Lh (dsk_does.read D n c D' n' c' S C a _ (hq.below hb0) hs)
 have B0 := Lh hb0
 have h0 : rdE S C a = 0 := by
  unfold optAt at ho
  split at ho
  ·assumption
  ·cases ho
 have hgood := rd_good h0 hq.secs.byte hq.pnds.byte
 have ht : rdB S C a = t := by
  unfold optAt at ho
  rw [if_pos h0] at ho
  injection ho
 rw [ht] at RD hgood
 rw [h0] at RD
 obtain ⟨hl, hby⟩ := hgood
 have HBY := Lh hby
 have HL := Lh hl
 have HOK := Lh hok
 obtain ⟨gv, hgv⟩ : ∃ x, x = val (t.take 8) := ⟨_, rfl⟩
 obtain ⟨nv, hnv⟩ : ∃ x, x = t.getD 9 0 := ⟨_, rfl⟩
 obtain ⟨m, hm⟩ : ∃ m, m = rdM t := ⟨_, rfl⟩
 have HM := Lh (⟨by have := rdM_le t; omega, by unfold rdTx; rw [← hm]⟩ : m ≤ 20 ∧ rdTx t = (t.drop 12).take m)
 have RO := Lh (fun b o c wx (h : Arg wx .u8 (some ⟨b, o, none⟩) 32 c t) => readof_any b o c t wx h HBY.out)
 rw [← hgv, ← hnv, ← hm] at RO ⊢
 clear ho h0 hq hs hb0 ht hl hby hok hgv hnv hm
 go_enter Tryz.func127, Tryz.ntmps127
 go_wp2_with fail
 refine RD.out.mono ?_
 rintro e w1 ⟨A1, c1, rfl, hown, hb1⟩
 rw [HL.out] at hown
 obtain ⟨g1, rfl, _⟩ := owns_int_at (j := 0) hown (by decide)
 have B1 := Lh (B0.out.trans (hb1.mono B0.out.size))
 have hsz := B0.out.size
 have RO := Lh (RO.out g1 0 c1 w1 (Arg.own hown))
 have OW := Lh (show OwnTxt w1 w.heap.size (some ⟨g1, 0 + 12, none⟩) m m (rdTx t) by
  have h := ((OwnTxt.of hown).lower hsz).sub (lo := 12) (hi := 12 + m) (by omega) (by have := HM.out.1; omega)
  rw [show 12 + m - 12 = m by omega] at h
  rw [HM.out.2]
  exact h.few (Nat.le_refl _) (by have := HM.out.1; have := (Arg.own hown).cap; omega))
 clear hown hb1 RD X0 B0 hsz
 rw [HL.out]
 go_wp2_with fail
 refine RO.out.mono ?_
 rintro e w2 ⟨⟨_, rfl⟩ | ⟨hno, _⟩, hb2⟩
 ·have B2 := Lh (B1.out.trans (hb2.mono B1.out.size))
  have OW2 := Lh (OW.out.below hb2)
  clear hb2 RO OW
  go_wp2
  go_ret
  exact ⟨⟨_, rfl, OW2.out⟩, B2.out⟩
 ·exact absurd HOK.out hno
end Go.Proofs.YtifgcfepbenpjaaGreat
