/- Layer 11: the document's Of and Put, at all arguments. -/
import Derived.Test.YthoflogegopikaaRecOf
namespace Go.Proofs.Ythoflogegopikaa
open Go.RowKit
set_option linter.unusedVariables false

theorem of_any (A : Option Addr) (n c : Nat) (t : Txt) (w : World) (ht : Arg w .u8 A n c t) (hby : ∀ z ∈ t, isByte z) : Calls Try.prog 41 #[.slice A n c] w (OfOut w t) := by
  by_cases h : n = 14
  · subst h
    by_cases k : t.getD 0 0 = 1 ∧ t.getD 13 0 ≤ 3
    · exact of_full A c t w ht hby k
    · exact of_head A c t w ht k
  · exact of_short A n c t w ht h
/-- A table that may be has at most three records. -/
theorem tab_three {t : List Rc} (h : mayTab t) : t.length ≤ 3 := by
  have H := (mayTab_idx t).1 h
  have G : ∀ y : Nat, y < t.length → (y : Int) ≤ (t.getD y zR).p := by
    intro y
    induction y with
    | zero => intro hy; have := (H 0 hy).1.1; omega
    | succ k ih =>
      intro hy
      have h1 := ih (by omega)
      have h2 := (H (k + 1) hy).2 (Nat.succ_pos _)
      rw [Nat.add_sub_cancel] at h2
      omega
  rcases Nat.lt_or_ge 3 t.length with k | k
  · have h1 := G 3 k
    have h2 := (H 3 k).1
    have h3 := h2.1.2.1
    omega
  · exact k
def PutOut (w : World) (x : Option (List Rc)) (e : Ending) (w' : World) : Prop := ∃ A' c', e = .returned (.tuple #[.slice A' (ansL x).length c', .int .i64 (ansE x)]) ∧ OwnRecs w' w.heap.size A' (ansL x).length c' (ansL x) ∧ Below w.heap.size w w'
theorem rput_no (A : Option Addr) (n c : Nat) (t : List Rc) (A' : Option Addr) (n' c' : Nat) (b : Txt) (w : World) (ht : Recs w A n c t) (hn : n ≤ 100000) (hm : ¬ mayTab t) :
    Calls Try.prog 22 #[.slice A n c, .slice A' n' c'] w (PutOut w (putR t b)) := by
  have HO := Lib.hid (show putR t b = none from if_neg hm)
  have M := rmayAll_any A n c t w ht hn
  rw [decide_eq_false hm] at M
  have M := Lib.hid M
  clear ht hm
  go_enter Try.func22, Try.ntmps22
  go_wp2_with fail
  refine M.out.mono ?_
  rintro e w1 ⟨rfl, hb⟩
  have B := Lib.hid hb
  clear hb
  go_wp2
  go_ret2
  rw [HO.out]
  exact ⟨none, 0, rfl, OwnRecs.nil _ _, B.out⟩
set_option maxRecDepth 100000 in
set_option maxHeartbeats 1600000 in
theorem rput_yes (A : Option Addr) (n c : Nat) (t : List Rc) (A' : Option Addr) (n' c' : Nat) (b : Txt) (w : World) (ht : Recs w A n c t) (hm : mayTab t) (hb : Arg w .u8 A' n' c' b) (hby : ∀ z ∈ b, isByte z) :
    Calls Try.prog 22 #[.slice A n c, .slice A' n' c'] w (PutOut w (putR t b)) := by
  have hn : n ≤ 3 := by have := tab_three hm; rw [ht.len] at this; exact this
  have M := rmayAll_any A n c t w ht (by omega)
  rw [decide_eq_true hm] at M
  have M := Lib.hid M
  have TR := Lib.hid ht
  rw [show putR t b = putN t b from if_pos hm]
  have hlen := hb.len
  have OF := Lib.hid (fun wx (hx : Below w.heap.size w wx) => of_any A' n' c' b wx (hb.below hx) hby)
  have RAW := Lib.hid (fun (k : isN b) => raw_is k.1 hby)
  by_cases hg : isGo b
  · have HX := Lib.hid (show putN t b = some (outR t (b.getD 1 0)) from if_pos hg)
    obtain ⟨g0, g1, g2⟩ := hg
    have hn2 : n' = 2 := by omega
    subst hn2
    obtain ⟨bb, o, rfl, hc⟩ := hb.at_ (by decide)
    have HC := Lib.hid (fun wx (hx : Below w.heap.size w wx) => (hb.below hx).at_ (by decide))
    have hy1 := hby (b.getD 1 0) (by rw [List.getD_eq_getElem?_getD, List.getElem?_eq_getElem (show 1 < b.length by omega)]; exact List.getElem_mem _)
    obtain ⟨x1, hx1⟩ : ∃ x, x = b.getD 1 0 := ⟨_, rfl⟩
    rw [← hx1] at g2 hy1 HX
    have hy : 0 ≤ x1 := hy1.1
    have hw1 : IntKind.i64.wrap x1 = x1 := by rw [IntKind.wrap_i64]; omega
    have G0 := Lib.hid g1
    have X1 := Lib.hid hx1
    clear hc hm ht hb hby hlen g0 g1 hx1 hy1 OF RAW
    go_enter Try.func22, Try.ntmps22
    go_wp2_with fail
    refine M.out.mono ?_
    rintro e w1 ⟨rfl, hbm⟩
    have BM := Lib.hid hbm
    obtain ⟨b2, o2, eb, hc2⟩ := HC.out _ hbm
    injection eb with eb; injection eb with eb1 eb2 _; subst eb1; subst eb2
    have t0 := hc2 0 (by decide)
    have t1 := hc2 1 (by decide)
    rw [Nat.add_zero, G0.out] at t0
    rw [← X1.out] at t1
    have WO := Lib.hid (rout_any A n c t x1 w1 (TR.out.below hbm) (by omega))
    clear hc2 hbm
    go_wp2_with fail
    refine WO.out.mono ?_
    rintro e w2 ⟨A2, c2, rfl, hO, hB⟩
    go_wp2
    go_ret2
    rw [HX.out]
    exact ⟨A2, c2, rfl, hO.lower BM.out.size, BM.out.trans (hB.mono BM.out.size)⟩
  · have PN := Lib.hid (fun (k : isN b) => (show putN t b = some (withR t (rawR b)) from (if_neg hg).trans (if_pos k)))
    have PZ := Lib.hid (fun (k : ¬ isN b) => (show putN t b = none from (if_neg hg).trans (if_neg k)))
    by_cases h2 : n' = 2
    · subst h2
      obtain ⟨bb0, o, rfl, hc⟩ := hb.at_ (by decide)
      have HC := Lib.hid (fun wx (hx : Below w.heap.size w wx) => (hb.below hx).at_ (by decide))
      have hy1 := hby (b.getD 1 0) (by rw [List.getD_eq_getElem?_getD, List.getElem?_eq_getElem (show 1 < b.length by omega)]; exact List.getElem_mem _)
      obtain ⟨x0, hx0⟩ : ∃ x, x = b.getD 0 0 := ⟨_, rfl⟩
      obtain ⟨x1, hx1⟩ : ∃ x, x = b.getD 1 0 := ⟨_, rfl⟩
      have hng : ¬ (x0 = 2 ∧ x1 < 3) := fun k => hg ⟨hlen, by rw [← hx0]; exact k.1, by rw [← hx1]; exact k.2⟩
      rw [← hx1] at hy1
      have hy : 0 ≤ x1 := hy1.1
      have hw1 : IntKind.i64.wrap x1 = x1 := by rw [IntKind.wrap_i64]; have := hy1.2; omega
      have X0 := Lib.hid hx0
      have X1 := Lib.hid hx1
      clear hc hm ht hb hby hlen hx1 hy1 hx0 hg
      by_cases hz : x0 = 2
      · subst hz
        have h3 : ¬ x1 < 3 := fun k => hng ⟨rfl, k⟩
        clear hng
        go_enter Try.func22, Try.ntmps22
        go_wp2_with fail
        refine M.out.mono ?_
        rintro e w1 ⟨rfl, hbm⟩
        have BM := Lib.hid hbm
        obtain ⟨b2, o2, eb, hc2⟩ := HC.out _ hbm
        injection eb with eb; injection eb with eb1 eb2 _; subst eb1; subst eb2
        have t0 := hc2 0 (by decide)
        have t1 := hc2 1 (by decide)
        rw [Nat.add_zero, ← X0.out] at t0
        rw [← X1.out] at t1
        clear hc2 hbm
        go_wp2_with fail
        refine (OF.out _ BM.out).mono ?_
        rintro e w2 ⟨⟨hk, rfl⟩ | ⟨hk, s, rfl⟩, hb2⟩
        · have hx := PN.out hk
          have HX := Lib.hid hx
          have HR := Lib.hid (RAW.out hk)
          have B2 := Lib.hid (BM.out.trans (hb2.mono BM.out.size))
          obtain ⟨r, hr⟩ : ∃ r, r = rawR b := ⟨_, rfl⟩
          rw [← hr] at HX HR ⊢
          clear hx hk hb2 hr PN PZ RAW OF
          obtain ⟨p, bb, ee, l, h, f, q, a⟩ := r
          obtain ⟨X0, hbx⟩ := rec_box w2 ⟨p, bb, ee, l, h, f, q, a⟩
          obtain ⟨c0, c1, c2, c3, c4, c5, c6, c7⟩ := X0.rec
          have B3 := Lib.hid (B2.out.trans (hbx.mono B2.out.size))
          have WI := Lib.hid (rwith11_any A n c t ⟨p, bb, ee, l, h, f, q, a⟩ _ (TR.out.below B3.out) HR.out (by omega))
          clear X0 hbx
          go_wp2_with fail
          refine WI.out.mono ?_
          rintro e w4 ⟨A2, c2, rfl, hO, hB⟩
          go_wp2
          go_ret2
          rw [HX.out]
          exact ⟨A2, c2, rfl, hO.lower B3.out.size, B3.out.trans (hB.mono B3.out.size)⟩
        · have HX := Lib.hid (PZ.out hk)
          have B2 := Lib.hid (BM.out.trans (hb2.mono BM.out.size))
          clear hk hb2 PN PZ RAW OF
          obtain ⟨p, bb, ee, l, h, f, q, a⟩ := s
          go_wp2
          go_ret2
          rw [HX.out]
          exact ⟨none, 0, rfl, OwnRecs.nil _ _, by first | exact B2.out | exact B2.out.alloc B2.out.size _⟩
      · have hzb : (x0 == 2) = false := by simpa using hz
        clear hng hz
        go_enter Try.func22, Try.ntmps22
        go_wp2_with fail
        refine M.out.mono ?_
        rintro e w1 ⟨rfl, hbm⟩
        have BM := Lib.hid hbm
        obtain ⟨b2, o2, eb, hc2⟩ := HC.out _ hbm
        injection eb with eb; injection eb with eb1 eb2 _; subst eb1; subst eb2
        have t0 := hc2 0 (by decide)
        rw [Nat.add_zero, ← X0.out] at t0
        clear hc2 hbm
        go_wp2_with fail
        refine (OF.out _ BM.out).mono ?_
        rintro e w2 ⟨⟨hk, rfl⟩ | ⟨hk, s, rfl⟩, hb2⟩
        · have hx := PN.out hk
          have HX := Lib.hid hx
          have HR := Lib.hid (RAW.out hk)
          have B2 := Lib.hid (BM.out.trans (hb2.mono BM.out.size))
          obtain ⟨r, hr⟩ : ∃ r, r = rawR b := ⟨_, rfl⟩
          rw [← hr] at HX HR ⊢
          clear hx hk hb2 hr PN PZ RAW OF
          obtain ⟨p, bb, ee, l, h, f, q, a⟩ := r
          obtain ⟨X0, hbx⟩ := rec_box w2 ⟨p, bb, ee, l, h, f, q, a⟩
          obtain ⟨c0, c1, c2, c3, c4, c5, c6, c7⟩ := X0.rec
          have B3 := Lib.hid (B2.out.trans (hbx.mono B2.out.size))
          have WI := Lib.hid (rwith11_any A n c t ⟨p, bb, ee, l, h, f, q, a⟩ _ (TR.out.below B3.out) HR.out (by omega))
          clear X0 hbx
          go_wp2_with fail
          refine WI.out.mono ?_
          rintro e w4 ⟨A2, c2, rfl, hO, hB⟩
          go_wp2
          go_ret2
          rw [HX.out]
          exact ⟨A2, c2, rfl, hO.lower B3.out.size, B3.out.trans (hB.mono B3.out.size)⟩
        · have HX := Lib.hid (PZ.out hk)
          have B2 := Lib.hid (BM.out.trans (hb2.mono BM.out.size))
          clear hk hb2 PN PZ RAW OF
          obtain ⟨p, bb, ee, l, h, f, q, a⟩ := s
          go_wp2
          go_ret2
          rw [HX.out]
          exact ⟨none, 0, rfl, OwnRecs.nil _ _, by first | exact B2.out | exact B2.out.alloc B2.out.size _⟩
    · have hnb : ((n' : Int) == 2) = false := by simp; omega
      clear hm ht hb hby hlen hg h2
      go_enter Try.func22, Try.ntmps22
      go_wp2_with fail
      refine M.out.mono ?_
      rintro e w1 ⟨rfl, hbm⟩
      have BM := Lib.hid hbm
      clear hbm
      go_wp2_with fail
      refine (OF.out _ BM.out).mono ?_
      rintro e w2 ⟨⟨hk, rfl⟩ | ⟨hk, s, rfl⟩, hb2⟩
      · have hx := PN.out hk
        have HX := Lib.hid hx
        have HR := Lib.hid (RAW.out hk)
        have B2 := Lib.hid (BM.out.trans (hb2.mono BM.out.size))
        obtain ⟨r, hr⟩ : ∃ r, r = rawR b := ⟨_, rfl⟩
        rw [← hr] at HX HR ⊢
        clear hx hk hb2 hr PN PZ RAW OF
        obtain ⟨p, bb, ee, l, h, f, q, a⟩ := r
        obtain ⟨X0, hbx⟩ := rec_box w2 ⟨p, bb, ee, l, h, f, q, a⟩
        obtain ⟨c0, c1, c2, c3, c4, c5, c6, c7⟩ := X0.rec
        have B3 := Lib.hid (B2.out.trans (hbx.mono B2.out.size))
        have WI := Lib.hid (rwith11_any A n c t ⟨p, bb, ee, l, h, f, q, a⟩ _ (TR.out.below B3.out) HR.out (by omega))
        clear X0 hbx
        go_wp2_with fail
        refine WI.out.mono ?_
        rintro e w4 ⟨A2, c2, rfl, hO, hB⟩
        go_wp2
        go_ret2
        rw [HX.out]
        exact ⟨A2, c2, rfl, hO.lower B3.out.size, B3.out.trans (hB.mono B3.out.size)⟩
      · have HX := Lib.hid (PZ.out hk)
        have B2 := Lib.hid (BM.out.trans (hb2.mono BM.out.size))
        clear hk hb2 PN PZ RAW OF
        obtain ⟨p, bb, ee, l, h, f, q, a⟩ := s
        go_wp2
        go_ret2
        rw [HX.out]
        exact ⟨none, 0, rfl, OwnRecs.nil _ _, by first | exact B2.out | exact B2.out.alloc B2.out.size _⟩
theorem rput11_any (A : Option Addr) (n c : Nat) (t : List Rc) (A' : Option Addr) (n' c' : Nat) (b : Txt) (w : World) (ht : Recs w A n c t) (hn : n ≤ 100000) (hb : Arg w .u8 A' n' c' b) (hby : ∀ z ∈ b, isByte z) :
    Calls Try.prog 22 #[.slice A n c, .slice A' n' c'] w (PutOut w (putR t b)) := by
  by_cases hm : mayTab t
  · exact rput_yes A n c t A' n' c' b w ht hm hb hby
  · exact rput_no A n c t A' n' c' b w ht hn hm
end Go.Proofs.Ythoflogegopikaa
