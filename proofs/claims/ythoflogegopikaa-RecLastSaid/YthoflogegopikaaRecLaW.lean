/- Layer 11, RecLast: the walk, given RecDoes. -/
import Derived.Test.YthoflogegopikaaRecA
import Derived.Test.YthoflogegopikaaRecTW
namespace Go.Proofs.Ythoflogegopikaa
open Go.RowKit
set_option linter.unusedVariables false

theorem wf_three {p : Int} (h0 : 0 ≤ p) (h : p < 3) : (Lit.int .i64 p).wf = true := by
  have : p = 0 ∨ p = 1 ∨ p = 2 := by omega
  rcases this with rfl | rfl | rfl <;> decide
theorem fd_may {t : List Rc} (h : mayTab t) (p : Int) : fdO t p = fR t p := if_pos h
theorem put_gone {t : List Rc} (h : mayTab t) {p : Int} (hp : 0 ≤ p ∧ p < 3) : putR t (goneT p) = some (outR t p) := by
  unfold putR putN
  rw [if_pos h, if_pos (show isGo (goneT p) from ⟨rfl, rfl, hp.2⟩)]
  rfl
set_option maxRecDepth 100000 in
set_option maxHeartbeats 6400000 in
theorem reclast_of (dz : RecDoes) (Al : Option Addr) (nl cl : Nat) (l : List Txt) (r : Rc) (goes : Bool) (w : World) (hl : Texts w Al nl cl l) (hr : isR r) :
    Calls Try.prog 8 #[.slice Al nl cl, recV r, .bool goes] w fun e w' => e = .returned (.bool true) ∧ Below w.heap.size w w' := by
  obtain ⟨x, hbx⟩ := rec_box w r
  have hbx : Below w.heap.size w (w.alloc (.cells #[.int .i64 r.p, .int .u32 r.b, .int .u32 r.e, .int .i64 r.l, .int .u8 r.h, .int .i64 r.f, .bool r.q, .bool r.a] 24)) := hbx
  change Blk (w.alloc (.cells #[.int .i64 r.p, .int .u32 r.b, .int .u32 r.e, .int .i64 r.l, .int .u8 r.h, .int .i64 r.f, .bool r.q, .bool r.a] 24)) _ _ _ at x
  have L := Lib.hid (hl.below hbx)
  obtain ⟨w0, hw0⟩ : ∃ v, v = w.alloc (.cells #[.int .i64 r.p, .int .u32 r.b, .int .u32 r.e, .int .i64 r.l, .int .u8 r.h, .int .i64 r.f, .bool r.q, .bool r.a] 24) := ⟨_, rfl⟩
  rw [← hw0] at x hbx L
  have X := Lib.hid x
  have B := Lib.hid hbx
  have HR := Lib.hid hr
  have AL := Lib.hid (fun wx => alive11_any dz wx)
  have GL := Lib.hid (fun wx (h : Texts wx Al nl cl l) => rgreat11_any Al nl cl l wx h)
  unfold GreatOut at GL
  have NT := Lib.hid (fun wx => dz.note r wx hr)
  unfold RowOut at NT
  clear hl hr x hbx
  go_enter Try.func8, Try.ntmps8
  go_wp2_with fail
  rw [← hw0]
  clear hw0
  refine (AL.out _).mono ?_
  rintro e w1 ⟨rfl, hb⟩
  have L := Lib.hid (L.out.below hb)
  have B := Lib.hid (B.out.trans (hb.mono B.out.size))
  have X := Lib.hid (X.out.below hb X.out.lt)
  clear hb
  go_wp2_with fail
  refine (GL.out _ L.out).mono ?_
  rintro e w2 ⟨g, rfl, hg, rfl⟩
  cases g with
  | true =>
    clear hg
    go_wp2
    go_ret
    exact ⟨rfl, B.out⟩
  | false =>
    obtain ⟨hn, hsh⟩ := hg rfl
    have C1 := Lib.hid (fun wx (h : Texts wx Al nl cl l) => dz.table Al nl cl l wx h (by omega) hsh)
    unfold PutOut at C1
    have TB := Lib.hid (fun x (h : tabR l = some x) => tabTo_may (t := []) (by trivial) h)
    have TC := Lib.hid (fun x (h : tabR l = some x) => tabTo_all (t := []) (fun r hr => by cases hr) L.out.byte h)
    clear hg hn hsh AL GL
    cases hx : tabR l with
    | none =>
      rw [hx] at C1
      have C1 := Lib.hid (show ∀ wx, Texts wx Al nl cl l → Calls Try.prog 11 #[.slice Al nl cl] wx (fun e w' => ∃ A' c', e = .returned (.tuple #[.slice A' 0 c', .int .i64 110]) ∧ OwnRecs w' wx.heap.size A' 0 c' [] ∧ Below wx.heap.size wx w') from C1.out)
      clear hx TB TC
      go_wp2_with fail
      refine (C1.out _ L.out).mono ?_
      rintro e w2 ⟨Ax, cx, rfl, hO, hb⟩
      have L := Lib.hid (L.out.below hb)
      have B := Lib.hid (B.out.trans (hb.mono B.out.size))
      have X := Lib.hid (X.out.below hb X.out.lt)
      clear hb hO
      by_cases hm : mayR r
      · skip
        have NT := Lib.hid (show ∀ wx, Calls Try.prog 14 #[recV r] wx (fun e w' => ∃ A c, e = .returned (.tuple #[.slice A 14 c, .int .i64 0]) ∧ w'.ownsRow wx.heap.size 5 1 (.slice A 14 c) 14 (ints .u8 (recT r)) ∧ Below wx.heap.size wx w') from by have h := NT.out; rw [show ntB r = recT r from if_pos hm, show rcE r = 0 from if_pos hm, recT_length] at h; exact h)
        obtain ⟨c0, c1, c2, c3, c4, c5, c6, c7⟩ := X.out.rec
        go_wp2_with fail
        refine (NT.out _).mono ?_
        rintro e w3 ⟨A2, c2', rfl, hO, hb⟩
        have L := Lib.hid (L.out.below hb)
        have B := Lib.hid (B.out.trans (hb.mono B.out.size))
        have X := Lib.hid (X.out.below hb X.out.lt)
        clear hb hO c0 c1 c2 c3 c4 c5 c6 c7
        clear hm
        go_wp2
        go_ret
        exact ⟨rfl, B.out⟩
      · skip
        have NT := Lib.hid (show ∀ wx, Calls Try.prog 14 #[recV r] wx (fun e w' => ∃ A c, e = .returned (.tuple #[.slice A 0 c, .int .i64 110]) ∧ w'.ownsRow wx.heap.size 5 1 (.slice A 0 c) 0 (ints .u8 []) ∧ Below wx.heap.size wx w') from by have h := NT.out; rw [show ntB r = [] from if_neg hm, show rcE r = 110 from if_neg hm] at h; exact h)
        obtain ⟨c0, c1, c2, c3, c4, c5, c6, c7⟩ := X.out.rec
        go_wp2_with fail
        refine (NT.out _).mono ?_
        rintro e w3 ⟨A2, c2', rfl, hO, hb⟩
        have L := Lib.hid (L.out.below hb)
        have B := Lib.hid (B.out.trans (hb.mono B.out.size))
        have X := Lib.hid (X.out.below hb X.out.lt)
        clear hb hO c0 c1 c2 c3 c4 c5 c6 c7
        clear hm
        go_wp2
        go_ret
        exact ⟨rfl, B.out⟩
    | some x =>
      have MX := Lib.hid (TB.out x hx)
      have AX := Lib.hid (TC.out x hx)
      have x3 : x.length ≤ 3 := tab_three MX.out
      rw [hx] at C1
      have C1 := Lib.hid (show ∀ wx, Texts wx Al nl cl l → Calls Try.prog 11 #[.slice Al nl cl] wx (fun e w' => ∃ A' c', e = .returned (.tuple #[.slice A' x.length c', .int .i64 0]) ∧ OwnRecs w' wx.heap.size A' x.length c' x ∧ Below wx.heap.size wx w') from C1.out)
      obtain ⟨nx, hnx⟩ : ∃ k, k = x.length := ⟨_, rfl⟩
      rw [← hnx] at C1 x3
      clear hx TB TC hnx
      go_wp2_with fail
      refine (C1.out _ L.out).mono ?_
      rintro e w2 ⟨Ax, cx, rfl, hO, hb⟩
      have L := Lib.hid (L.out.below hb)
      have B := Lib.hid (B.out.trans (hb.mono B.out.size))
      have X := Lib.hid (X.out.below hb X.out.lt)
      have OX := Lib.hid (hO)
      clear hb hO C1
      by_cases hm : ¬ mayR r
      · skip
        have NT := Lib.hid (show ∀ wx, Calls Try.prog 14 #[recV r] wx (fun e w' => ∃ A c, e = .returned (.tuple #[.slice A 0 c, .int .i64 110]) ∧ w'.ownsRow wx.heap.size 5 1 (.slice A 0 c) 0 (ints .u8 []) ∧ Below wx.heap.size wx w') from by have h := NT.out; rw [show ntB r = [] from if_neg hm, show rcE r = 110 from if_neg hm] at h; exact h)
        obtain ⟨c0, c1, c2, c3, c4, c5, c6, c7⟩ := X.out.rec
        go_wp2_with fail
        refine (NT.out _).mono ?_
        rintro e w3 ⟨A2, c2', rfl, hO, hb⟩
        have L := Lib.hid (L.out.below hb)
        have B := Lib.hid (B.out.trans (hb.mono B.out.size))
        have X := Lib.hid (X.out.below hb X.out.lt)
        have OX := Lib.hid (OX.out.below hb)
        clear hb hO c0 c1 c2 c3 c4 c5 c6 c7
        clear hm
        go_wp2
        go_ret
        exact ⟨rfl, B.out⟩
      have hm := Decidable.not_not.1 hm
      have NT := Lib.hid (show ∀ wx, Calls Try.prog 14 #[recV r] wx (fun e w' => ∃ A c, e = .returned (.tuple #[.slice A 14 c, .int .i64 0]) ∧ w'.ownsRow wx.heap.size 5 1 (.slice A 14 c) 14 (ints .u8 (recT r)) ∧ Below wx.heap.size wx w') from by have h := NT.out; rw [show ntB r = recT r from if_pos hm, show rcE r = 0 from if_pos hm, recT_length] at h; exact h)
      obtain ⟨c0, c1, c2, c3, c4, c5, c6, c7⟩ := X.out.rec
      go_wp2_with fail
      refine (NT.out _).mono ?_
      rintro e w3 ⟨A2, k2, rfl, hO, hb⟩
      have L := Lib.hid (L.out.below hb)
      have B := Lib.hid (B.out.trans (hb.mono B.out.size))
      have X := Lib.hid (X.out.below hb X.out.lt)
      have OX := Lib.hid (OX.out.below hb)
      have ON := Lib.hid (hO)
      clear hb hO c0 c1 c2 c3 c4 c5 c6 c7 NT
      have HP := Lib.hid (show 0 ≤ r.p ∧ r.p < 3 from ⟨hm.1.1, hm.1.2.1⟩)
      have HM := Lib.hid hm
      have FX := Lib.hid (fun (p : Int) wx (hp : (Lit.int .i64 p).wf = true) (h : Recs wx Ax nx cx x) => dz.find Ax nx cx x p wx h (by omega) hp)
      unfold FindOut at FX
      have ER := fun a => eq_rec a a
      have ER : ∀ (a : Rc) (w : World), (Op.equalIn 10000 24 (recV a) (recV a)).run Try.prog w = .ok true w := fun a w => by have h := eq_rec a a w; rw [decide_eq_true rfl] at h; exact h
      clear hm
      cases goes with
      | true =>
        have GP := Lib.hid (show ∀ wx, Calls Try.prog 10 #[.int .i64 r.p] wx (fun e w' => ∃ A c, e = .returned (.tuple #[.slice A 2 c, .int .i64 0]) ∧ w'.ownsRow wx.heap.size 5 1 (.slice A 2 c) 2 (ints .u8 (goneT r.p)) ∧ Below wx.heap.size wx w') from fun wx => by
          have h := dz.gone r.p wx
          unfold RowOut at h
          have hE : goE r.p = 0 := if_pos HP.out
          rw [hE, show goB r.p = goneT r.p from if_pos hE] at h
          exact h)
        obtain ⟨y, hy⟩ : ∃ y, y = outR x r.p := ⟨_, rfl⟩
        have MY := Lib.hid (show mayTab y from by rw [hy]; exact out_may MX.out r.p)
        have FY := Lib.hid (show ∀ p, fR y p = if p = r.p then none else fR x p from fun p => by rw [hy]; exact out_find x r.p p)
        obtain ⟨c0, c1, c2, c3, c4, c5, c6, c7⟩ := X.out.rec
        go_wp2_with fail
        refine (GP.out _).mono ?_
        rintro e w4 ⟨A3, k3, rfl, hO, hb⟩
        have L := Lib.hid (L.out.below hb)
        have B := Lib.hid (B.out.trans (hb.mono B.out.size))
        have X := Lib.hid (X.out.below hb X.out.lt)
        have OX := Lib.hid (OX.out.below hb)
        have ON := Lib.hid (owns_below ON.out hb)
        have OB := Lib.hid (hO)
        clear hb hO c0 c1 c2 c3 c4 c5 c6 c7 GP
        have y3 : y.length ≤ 3 := tab_three MY.out
        have PP := Lib.hid (show ∀ wx, Recs wx Ax nx cx x → Arg wx .u8 A3 2 k3 (goneT r.p) → Calls Try.prog 21 #[.slice Ax nx cx, .slice A3 2 k3] wx (fun e w' => ∃ A' c', e = .returned (.tuple #[.slice A' y.length c', .int .i64 0]) ∧ OwnRecs w' wx.heap.size A' y.length c' y ∧ Below wx.heap.size wx w') from fun wx h h' => by
          have g := dz.put Ax nx cx x A3 2 k3 (goneT r.p) wx h (by omega) h' (fun z hz => by have h := HP.out; simp only [goneT, List.mem_cons, List.not_mem_nil, or_false] at hz; unfold isByte; rcases hz with rfl | rfl <;> omega) (by omega)
          unfold PutOut at g
          rw [show putR x (goneT r.p) = some y from by rw [put_gone MX.out HP.out, ← hy]] at g
          exact g)
        obtain ⟨ny, hny⟩ : ∃ k, k = y.length := ⟨_, rfl⟩
        rw [← hny] at PP y3
        have FYC := Lib.hid (fun (p : Int) (A : Option Addr) (c : Nat) wx (hp : (Lit.int .i64 p).wf = true) (h : Recs wx A ny c y) => dz.find A ny c y p wx h (by omega) hp)
        unfold FindOut at FYC
        clear hy hny
        go_wp2_with fail
        refine (PP.out _ (Recs.of_own OX.out) (Arg.own OB.out)).mono ?_
        rintro e w5 ⟨Ay, cy, rfl, hO, hb⟩
        have L := Lib.hid (L.out.below hb)
        have B := Lib.hid (B.out.trans (hb.mono B.out.size))
        have X := Lib.hid (X.out.below hb X.out.lt)
        have OX := Lib.hid (OX.out.below hb)
        have ON := Lib.hid (owns_below ON.out hb)
        have OB := Lib.hid (owns_below OB.out hb)
        have OY := Lib.hid (hO)
        clear hb hO PP
        obtain ⟨c0, c1, c2, c3, c4, c5, c6, c7⟩ := X.out.rec
        obtain ⟨zz, hzz⟩ : ∃ z, z = zR := ⟨_, rfl⟩
        have FN := Lib.hid (show ∀ wx, Recs wx Ay ny cy y → Calls Try.prog 25 #[.slice Ay ny cy, .int .i64 r.p] wx (fun e w' => e = .returned (.tuple #[recV zz, .bool false]) ∧ Below wx.heap.size wx w') from fun wx h => by
          have g := FYC.out r.p Ay cy wx (wf_three HP.out.1 HP.out.2) h
          have hf : fdO y r.p = none := by rw [fd_may MY.out, FY.out, if_pos rfl]
          unfold fdR fdB at g
          rw [hf] at g
          rw [hzz]
          exact g)
        clear hzz
        go_wp2_with fail
        refine (FN.out _ (Recs.of_own OY.out)).mono ?_
        rintro e w6 ⟨rfl, hb⟩
        have L := Lib.hid (L.out.below hb)
        have B := Lib.hid (B.out.trans (hb.mono B.out.size))
        have X := Lib.hid (X.out.below hb X.out.lt)
        have OX := Lib.hid (OX.out.below hb)
        have ON := Lib.hid (owns_below ON.out hb)
        have OB := Lib.hid (owns_below OB.out hb)
        have OY := Lib.hid (OY.out.below hb)
        clear hb FN c0 c1 c2 c3 c4 c5 c6 c7
        obtain ⟨xn, hb⟩ := rec_box w6 zz
        have hb : Below w6.heap.size w6 (w6.alloc (.cells #[.int .i64 zz.p, .int .u32 zz.b, .int .u32 zz.e, .int .i64 zz.l, .int .u8 zz.h, .int .i64 zz.f, .bool zz.q, .bool zz.a] 24)) := hb
        change Blk (w6.alloc (.cells #[.int .i64 zz.p, .int .u32 zz.b, .int .u32 zz.e, .int .i64 zz.l, .int .u8 zz.h, .int .i64 zz.f, .bool zz.q, .bool zz.a] 24)) _ _ _ at xn
        obtain ⟨vN, hvN⟩ : ∃ v, v = w6.alloc (.cells #[.int .i64 zz.p, .int .u32 zz.b, .int .u32 zz.e, .int .i64 zz.l, .int .u8 zz.h, .int .i64 zz.f, .bool zz.q, .bool zz.a] 24) := ⟨_, rfl⟩
        rw [← hvN] at xn hb
        have L := Lib.hid (L.out.below hb)
        have B := Lib.hid (B.out.trans (hb.mono B.out.size))
        have X := Lib.hid (X.out.below hb X.out.lt)
        have OX := Lib.hid (OX.out.below hb)
        have ON := Lib.hid (owns_below ON.out hb)
        have OB := Lib.hid (owns_below OB.out hb)
        have OY := Lib.hid (OY.out.below hb)
        have XN := Lib.hid xn
        obtain ⟨gN, hgN⟩ : ∃ g, g = w6.heap.size := ⟨_, rfl⟩
        rw [← hgN] at XN
        clear xn hb
        obtain ⟨c0, c1, c2, c3, c4, c5, c6, c7⟩ := X.out.rec
        go_upto_region 15 with fail
        rw [← hvN, ← hgN]
        clear hvN hgN
        go_wp2
        clear c0 c1 c2 c3 c4 c5 c6 c7 XN
        have HB := Lib.hid (Below.refl vN.heap.size vN)
        go_loopw [18] (fun i wr => ∃ k : Nat, k ≤ 3 ∧ i = .int .i64 k ∧ Below vN.heap.size vN wr) (fun i _ => 3 - (intOf i).toNat)
        case atStart => exact ⟨0, Nat.zero_le _, rfl, HB.out⟩
        case round =>
          clear HB
          obtain ⟨k, hk, rfl, hbl⟩ := hrel
          have OX := Lib.hid (OX.out.below hbl)
          have OY := Lib.hid (OY.out.below hbl)
          have X := Lib.hid (X.out.below hbl X.out.lt)
          have BK := Lib.hid hbl
          have B := Lib.hid (B.out.trans (hbl.mono B.out.size))
          clear hbl
          by_cases hk3 : k < 3
          · have hki : (k : Int) < 3 := by omega
            have hwf := wf_three (p := (k : Int)) (by omega) (by omega)
            have F1 := Lib.hid (FX.out (k : Int) wr hwf (Recs.of_own OX.out))
            have F2 := Lib.hid (fun wx (h : Recs wx Ay ny cy y) => FYC.out (k : Int) Ay cy wx hwf h)
            obtain ⟨a, ha⟩ : ∃ a, a = fdR x (k : Int) := ⟨_, rfl⟩
            obtain ⟨q, hq⟩ : ∃ a, a = fdB x (k : Int) := ⟨_, rfl⟩
            obtain ⟨a2, ha2⟩ : ∃ a, a = fdR y (k : Int) := ⟨_, rfl⟩
            obtain ⟨q2, hq2⟩ : ∃ a, a = fdB y (k : Int) := ⟨_, rfl⟩
            rw [← ha, ← hq] at F1
            rw [← ha2, ← hq2] at F2
            have EQ := Lib.hid (show (k : Int) ≠ r.p → a2 = a ∧ q2 = q from fun h => by
              have hf : fdO y (k : Int) = fdO x (k : Int) := by rw [fd_may MY.out, FY.out, if_neg h, fd_may MX.out]
              rw [ha, ha2, hq, hq2]
              unfold fdR fdB
              rw [hf]
              exact ⟨rfl, rfl⟩)
            clear ha hq ha2 hq2 hwf
            go_wp2_with fail
            refine (F1.out).mono ?_
            rintro e w7 ⟨rfl, hb⟩
            have OX := Lib.hid (OX.out.below hb)
            have OY := Lib.hid (OY.out.below hb)
            have X := Lib.hid (X.out.below hb X.out.lt)
            have BK := Lib.hid (BK.out.trans (hb.mono BK.out.size))
            have B := Lib.hid (B.out.trans (hb.mono B.out.size))
            clear hb F1
            obtain ⟨x1, hb⟩ := rec_box w7 a
            obtain ⟨vgA, hvgA⟩ : ∃ v, v = w7.alloc (.cells #[.int .i64 a.p, .int .u32 a.b, .int .u32 a.e, .int .i64 a.l, .int .u8 a.h, .int .i64 a.f, .bool a.q, .bool a.a] 24) := ⟨_, rfl⟩
            rw [← hvgA] at x1 hb
            have OX := Lib.hid (OX.out.below hb)
            have OY := Lib.hid (OY.out.below hb)
            have X := Lib.hid (X.out.below hb X.out.lt)
            have BK := Lib.hid (BK.out.trans (hb.mono BK.out.size))
            have B := Lib.hid (B.out.trans (hb.mono B.out.size))
            have XA := Lib.hid x1
            obtain ⟨gA, hgA⟩ : ∃ g, g = w7.heap.size := ⟨_, rfl⟩
            rw [← hgA] at XA
            clear x1 hb
            go_wp2_with fail
            rw [← hvgA, ← hgA]
            clear hvgA hgA
            refine (F2.out _ (Recs.of_own OY.out)).mono ?_
            rintro e w8 ⟨rfl, hb⟩
            have OX := Lib.hid (OX.out.below hb)
            have OY := Lib.hid (OY.out.below hb)
            have X := Lib.hid (X.out.below hb X.out.lt)
            have BK := Lib.hid (BK.out.trans (hb.mono BK.out.size))
            have B := Lib.hid (B.out.trans (hb.mono B.out.size))
            have XA := Lib.hid (XA.out.below hb XA.out.lt)
            clear hb F2
            by_cases hkp : (k : Int) = r.p
            · skip
              have hne : ((k : Int) != r.p) = false := by simpa using hkp
              obtain ⟨x1, hb⟩ := rec_box w8 a2
              obtain ⟨vgB, hvgB⟩ : ∃ v, v = w8.alloc (.cells #[.int .i64 a2.p, .int .u32 a2.b, .int .u32 a2.e, .int .i64 a2.l, .int .u8 a2.h, .int .i64 a2.f, .bool a2.q, .bool a2.a] 24) := ⟨_, rfl⟩
              rw [← hvgB] at x1 hb
              have OX := Lib.hid (OX.out.below hb)
              have OY := Lib.hid (OY.out.below hb)
              have X := Lib.hid (X.out.below hb X.out.lt)
              have BK := Lib.hid (BK.out.trans (hb.mono BK.out.size))
              have B := Lib.hid (B.out.trans (hb.mono B.out.size))
              have XA := Lib.hid (XA.out.below hb XA.out.lt)
              have XB := Lib.hid x1
              obtain ⟨gB, hgB⟩ : ∃ g, g = w8.heap.size := ⟨_, rfl⟩
              rw [← hgB] at XB
              clear x1 hb
              obtain ⟨c0, c1, c2, c3, c4, c5, c6, c7⟩ := X.out.rec
              clear hkp EQ
              go_upto_region 22 with fail
              rw [← hvgB, ← hgB]
              clear hvgB hgB
              go_wp2
              go_roundw
              case rel => exact ⟨k + 1, by omega, by go_num, BK.out⟩
              case measure => simp [intOf]; omega
            · skip
              obtain ⟨ea, eq⟩ := EQ.out hkp
              subst ea
              subst eq
              have hqq : (q2 != q2) = false := by simp
              have ERA := fun w => ER a2 w
              have hne : ((k : Int) != r.p) = true := by simpa using hkp
              obtain ⟨x1, hb⟩ := rec_box w8 a2
              obtain ⟨vgB, hvgB⟩ : ∃ v, v = w8.alloc (.cells #[.int .i64 a2.p, .int .u32 a2.b, .int .u32 a2.e, .int .i64 a2.l, .int .u8 a2.h, .int .i64 a2.f, .bool a2.q, .bool a2.a] 24) := ⟨_, rfl⟩
              rw [← hvgB] at x1 hb
              have OX := Lib.hid (OX.out.below hb)
              have OY := Lib.hid (OY.out.below hb)
              have X := Lib.hid (X.out.below hb X.out.lt)
              have BK := Lib.hid (BK.out.trans (hb.mono BK.out.size))
              have B := Lib.hid (B.out.trans (hb.mono B.out.size))
              have XA := Lib.hid (XA.out.below hb XA.out.lt)
              have XB := Lib.hid x1
              obtain ⟨gB, hgB⟩ : ∃ g, g = w8.heap.size := ⟨_, rfl⟩
              rw [← hgB] at XB
              clear x1 hb
              obtain ⟨c0, c1, c2, c3, c4, c5, c6, c7⟩ := X.out.rec
              obtain ⟨d0, d1, d2, d3, d4, d5, d6, d7⟩ := XA.out.rec
              obtain ⟨e0, e1, e2, e3, e4, e5, e6, e7⟩ := XB.out.rec
              clear hkp EQ
              go_upto_region 22 with fail
              rw [← hvgB, ← hgB]
              clear hvgB hgB
              go_wp2
              go_roundw
              case rel => exact ⟨k + 1, by omega, by go_num, BK.out⟩
              case measure => simp [intOf]; omega
          · obtain rfl : k = 3 := by omega
            go_wp2
            go_ret
            exact ⟨rfl, B.out⟩
      | false =>
        obtain ⟨y, hy⟩ : ∃ y, y = withR x r := ⟨_, rfl⟩
        have MY := Lib.hid (show mayTab y from by rw [hy]; exact with_may MX.out HM.out)
        have FY := Lib.hid (show ∀ p, fR y p = if p = r.p then some r else fR x p from fun p => by rw [hy]; exact with_find MX.out HM.out p)
        have y3 : y.length ≤ 3 := tab_three MY.out
        have PP := Lib.hid (show ∀ wx, Recs wx Ax nx cx x → Arg wx .u8 A2 14 k2 (recT r) → Calls Try.prog 21 #[.slice Ax nx cx, .slice A2 14 k2] wx (fun e w' => ∃ A' c', e = .returned (.tuple #[.slice A' y.length c', .int .i64 0]) ∧ OwnRecs w' wx.heap.size A' y.length c' y ∧ Below wx.heap.size wx w') from fun wx h h' => by
          have g := dz.put Ax nx cx x A2 14 k2 (recT r) wx h (by omega) h' (recT_byte r) (by omega)
          unfold PutOut at g
          rw [show putR x (recT r) = some y from by rw [put_rec MX.out HR.out HM.out, ← hy]] at g
          exact g)
        obtain ⟨ny, hny⟩ : ∃ k, k = y.length := ⟨_, rfl⟩
        rw [← hny] at PP y3
        have FYC := Lib.hid (fun (p : Int) (A : Option Addr) (c : Nat) wx (hp : (Lit.int .i64 p).wf = true) (h : Recs wx A ny c y) => dz.find A ny c y p wx h (by omega) hp)
        unfold FindOut at FYC
        clear hy hny
        go_wp2_with fail
        refine (PP.out _ (Recs.of_own OX.out) (Arg.own ON.out)).mono ?_
        rintro e w4 ⟨Ay, cy, rfl, hO, hb⟩
        have L := Lib.hid (L.out.below hb)
        have B := Lib.hid (B.out.trans (hb.mono B.out.size))
        have X := Lib.hid (X.out.below hb X.out.lt)
        have OX := Lib.hid (OX.out.below hb)
        have ON := Lib.hid (owns_below ON.out hb)
        have OY := Lib.hid (hO)
        clear hb hO PP
        obtain ⟨c0, c1, c2, c3, c4, c5, c6, c7⟩ := X.out.rec
        have FN := Lib.hid (show ∀ wx, Recs wx Ay ny cy y → Calls Try.prog 25 #[.slice Ay ny cy, .int .i64 r.p] wx (fun e w' => e = .returned (.tuple #[recV r, .bool true]) ∧ Below wx.heap.size wx w') from fun wx h => by
          have g := FYC.out r.p Ay cy wx (wf_three HP.out.1 HP.out.2) h
          have hf : fdO y r.p = some r := by rw [fd_may MY.out, FY.out, if_pos rfl]
          unfold fdR fdB at g
          rw [hf] at g
          exact g)
        go_wp2_with fail
        refine (FN.out _ (Recs.of_own OY.out)).mono ?_
        rintro e w5 ⟨rfl, hb⟩
        have L := Lib.hid (L.out.below hb)
        have B := Lib.hid (B.out.trans (hb.mono B.out.size))
        have X := Lib.hid (X.out.below hb X.out.lt)
        have OX := Lib.hid (OX.out.below hb)
        have ON := Lib.hid (owns_below ON.out hb)
        have OY := Lib.hid (OY.out.below hb)
        clear hb FN c0 c1 c2 c3 c4 c5 c6 c7
        obtain ⟨xn, hb⟩ := rec_box w5 r
        have hb : Below w5.heap.size w5 (w5.alloc (.cells #[.int .i64 r.p, .int .u32 r.b, .int .u32 r.e, .int .i64 r.l, .int .u8 r.h, .int .i64 r.f, .bool r.q, .bool r.a] 24)) := hb
        change Blk (w5.alloc (.cells #[.int .i64 r.p, .int .u32 r.b, .int .u32 r.e, .int .i64 r.l, .int .u8 r.h, .int .i64 r.f, .bool r.q, .bool r.a] 24)) _ _ _ at xn
        obtain ⟨vN, hvN⟩ : ∃ v, v = w5.alloc (.cells #[.int .i64 r.p, .int .u32 r.b, .int .u32 r.e, .int .i64 r.l, .int .u8 r.h, .int .i64 r.f, .bool r.q, .bool r.a] 24) := ⟨_, rfl⟩
        rw [← hvN] at xn hb
        have L := Lib.hid (L.out.below hb)
        have B := Lib.hid (B.out.trans (hb.mono B.out.size))
        have X := Lib.hid (X.out.below hb X.out.lt)
        have OX := Lib.hid (OX.out.below hb)
        have ON := Lib.hid (owns_below ON.out hb)
        have OY := Lib.hid (OY.out.below hb)
        have XN := Lib.hid xn
        obtain ⟨gN, hgN⟩ : ∃ g, g = w5.heap.size := ⟨_, rfl⟩
        rw [← hgN] at XN
        clear xn hb
        obtain ⟨c0, c1, c2, c3, c4, c5, c6, c7⟩ := X.out.rec
        obtain ⟨d0, d1, d2, d3, d4, d5, d6, d7⟩ := XN.out.rec
        have ERR := fun w => ER r w
        go_upto_region 15 with fail
        rw [← hvN, ← hgN]
        clear hvN hgN
        go_wp2
        clear c0 c1 c2 c3 c4 c5 c6 c7 d0 d1 d2 d3 d4 d5 d6 d7 ERR XN
        have HB := Lib.hid (Below.refl vN.heap.size vN)
        go_loopw [18] (fun i wr => ∃ k : Nat, k ≤ 3 ∧ i = .int .i64 k ∧ Below vN.heap.size vN wr) (fun i _ => 3 - (intOf i).toNat)
        case atStart => exact ⟨0, Nat.zero_le _, rfl, HB.out⟩
        case round =>
          clear HB
          obtain ⟨k, hk, rfl, hbl⟩ := hrel
          have OX := Lib.hid (OX.out.below hbl)
          have OY := Lib.hid (OY.out.below hbl)
          have X := Lib.hid (X.out.below hbl X.out.lt)
          have BK := Lib.hid hbl
          have B := Lib.hid (B.out.trans (hbl.mono B.out.size))
          clear hbl
          by_cases hk3 : k < 3
          · have hki : (k : Int) < 3 := by omega
            have hwf := wf_three (p := (k : Int)) (by omega) (by omega)
            have F1 := Lib.hid (FX.out (k : Int) wr hwf (Recs.of_own OX.out))
            have F2 := Lib.hid (fun wx (h : Recs wx Ay ny cy y) => FYC.out (k : Int) Ay cy wx hwf h)
            obtain ⟨a, ha⟩ : ∃ a, a = fdR x (k : Int) := ⟨_, rfl⟩
            obtain ⟨q, hq⟩ : ∃ a, a = fdB x (k : Int) := ⟨_, rfl⟩
            obtain ⟨a2, ha2⟩ : ∃ a, a = fdR y (k : Int) := ⟨_, rfl⟩
            obtain ⟨q2, hq2⟩ : ∃ a, a = fdB y (k : Int) := ⟨_, rfl⟩
            rw [← ha, ← hq] at F1
            rw [← ha2, ← hq2] at F2
            have EQ := Lib.hid (show (k : Int) ≠ r.p → a2 = a ∧ q2 = q from fun h => by
              have hf : fdO y (k : Int) = fdO x (k : Int) := by rw [fd_may MY.out, FY.out, if_neg h, fd_may MX.out]
              rw [ha, ha2, hq, hq2]
              unfold fdR fdB
              rw [hf]
              exact ⟨rfl, rfl⟩)
            clear ha hq ha2 hq2 hwf
            go_wp2_with fail
            refine (F1.out).mono ?_
            rintro e w6 ⟨rfl, hb⟩
            have OX := Lib.hid (OX.out.below hb)
            have OY := Lib.hid (OY.out.below hb)
            have X := Lib.hid (X.out.below hb X.out.lt)
            have BK := Lib.hid (BK.out.trans (hb.mono BK.out.size))
            have B := Lib.hid (B.out.trans (hb.mono B.out.size))
            clear hb F1
            obtain ⟨x1, hb⟩ := rec_box w6 a
            obtain ⟨vgA, hvgA⟩ : ∃ v, v = w6.alloc (.cells #[.int .i64 a.p, .int .u32 a.b, .int .u32 a.e, .int .i64 a.l, .int .u8 a.h, .int .i64 a.f, .bool a.q, .bool a.a] 24) := ⟨_, rfl⟩
            rw [← hvgA] at x1 hb
            have OX := Lib.hid (OX.out.below hb)
            have OY := Lib.hid (OY.out.below hb)
            have X := Lib.hid (X.out.below hb X.out.lt)
            have BK := Lib.hid (BK.out.trans (hb.mono BK.out.size))
            have B := Lib.hid (B.out.trans (hb.mono B.out.size))
            have XA := Lib.hid x1
            obtain ⟨gA, hgA⟩ : ∃ g, g = w6.heap.size := ⟨_, rfl⟩
            rw [← hgA] at XA
            clear x1 hb
            go_wp2_with fail
            rw [← hvgA, ← hgA]
            clear hvgA hgA
            refine (F2.out _ (Recs.of_own OY.out)).mono ?_
            rintro e w7 ⟨rfl, hb⟩
            have OX := Lib.hid (OX.out.below hb)
            have OY := Lib.hid (OY.out.below hb)
            have X := Lib.hid (X.out.below hb X.out.lt)
            have BK := Lib.hid (BK.out.trans (hb.mono BK.out.size))
            have B := Lib.hid (B.out.trans (hb.mono B.out.size))
            have XA := Lib.hid (XA.out.below hb XA.out.lt)
            clear hb F2
            by_cases hkp : (k : Int) = r.p
            · skip
              have hne : ((k : Int) != r.p) = false := by simpa using hkp
              obtain ⟨x1, hb⟩ := rec_box w7 a2
              obtain ⟨vgB, hvgB⟩ : ∃ v, v = w7.alloc (.cells #[.int .i64 a2.p, .int .u32 a2.b, .int .u32 a2.e, .int .i64 a2.l, .int .u8 a2.h, .int .i64 a2.f, .bool a2.q, .bool a2.a] 24) := ⟨_, rfl⟩
              rw [← hvgB] at x1 hb
              have OX := Lib.hid (OX.out.below hb)
              have OY := Lib.hid (OY.out.below hb)
              have X := Lib.hid (X.out.below hb X.out.lt)
              have BK := Lib.hid (BK.out.trans (hb.mono BK.out.size))
              have B := Lib.hid (B.out.trans (hb.mono B.out.size))
              have XA := Lib.hid (XA.out.below hb XA.out.lt)
              have XB := Lib.hid x1
              obtain ⟨gB, hgB⟩ : ∃ g, g = w7.heap.size := ⟨_, rfl⟩
              rw [← hgB] at XB
              clear x1 hb
              obtain ⟨c0, c1, c2, c3, c4, c5, c6, c7⟩ := X.out.rec
              clear hkp EQ
              go_upto_region 22 with fail
              rw [← hvgB, ← hgB]
              clear hvgB hgB
              go_wp2
              go_roundw
              case rel => exact ⟨k + 1, by omega, by go_num, BK.out⟩
              case measure => simp [intOf]; omega
            · skip
              obtain ⟨ea, eq⟩ := EQ.out hkp
              subst ea
              subst eq
              have hqq : (q2 != q2) = false := by simp
              have ERA := fun w => ER a2 w
              have hne : ((k : Int) != r.p) = true := by simpa using hkp
              obtain ⟨x1, hb⟩ := rec_box w7 a2
              obtain ⟨vgB, hvgB⟩ : ∃ v, v = w7.alloc (.cells #[.int .i64 a2.p, .int .u32 a2.b, .int .u32 a2.e, .int .i64 a2.l, .int .u8 a2.h, .int .i64 a2.f, .bool a2.q, .bool a2.a] 24) := ⟨_, rfl⟩
              rw [← hvgB] at x1 hb
              have OX := Lib.hid (OX.out.below hb)
              have OY := Lib.hid (OY.out.below hb)
              have X := Lib.hid (X.out.below hb X.out.lt)
              have BK := Lib.hid (BK.out.trans (hb.mono BK.out.size))
              have B := Lib.hid (B.out.trans (hb.mono B.out.size))
              have XA := Lib.hid (XA.out.below hb XA.out.lt)
              have XB := Lib.hid x1
              obtain ⟨gB, hgB⟩ : ∃ g, g = w7.heap.size := ⟨_, rfl⟩
              rw [← hgB] at XB
              clear x1 hb
              obtain ⟨c0, c1, c2, c3, c4, c5, c6, c7⟩ := X.out.rec
              obtain ⟨d0, d1, d2, d3, d4, d5, d6, d7⟩ := XA.out.rec
              obtain ⟨e0, e1, e2, e3, e4, e5, e6, e7⟩ := XB.out.rec
              clear hkp EQ
              go_upto_region 22 with fail
              rw [← hvgB, ← hgB]
              clear hvgB hgB
              go_wp2
              go_roundw
              case rel => exact ⟨k + 1, by omega, by go_num, BK.out⟩
              case measure => simp [intOf]; omega
          · obtain rfl : k = 3 := by omega
            go_wp2
            go_ret
            exact ⟨rfl, B.out⟩
end Go.Proofs.Ythoflogegopikaa
