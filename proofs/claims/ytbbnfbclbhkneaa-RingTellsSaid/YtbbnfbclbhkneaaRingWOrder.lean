/- Layer 4, RingOrder: the walk: what was pushed first is popped first. -/
import Derived.Test.YtbbnfbclbhkneaaRingWant
import Derived.Test.YtbbnfbclbhkneaaRingA
namespace Go.Proofs.Ytbbnfbclbhkneaa
open Go.RowKit
set_option linter.unusedVariables false

theorem pushI_small2 {q : List Text} {h m : Int} {b : Text} (hs : Small q) (hb : b.length ≤ 200) : Small (pushI q h m b) := by
  unfold pushI
  split
  · exact hs.set _ hb
  · exact ⟨by simp, by simp⟩
theorem popI_small2 {q : List Text} {h m : Int} (hs : Small q) : Small (popI q h m) := by
  unfold popI
  split
  · exact hs.set _ (by simp)
  · exact ⟨by simp, by simp⟩
/-- The queue in its box, and the texts that are awaited. -/
structure Held (w0 w : World) (B0 bs : Nat) (n : Nat) (A : Option Addr) (c : Nat) (h m : Int) (q : List Text) (A' : Option Addr) (l c' : Nat) (L : List Text) : Prop where
  box : QBox w B0 A n c h m q
  small : Small q
  may : mayB q h m = true
  want : Want w0 w bs A' l c' L
  bel : Below w0.heap.size w0 w
  siz : bs ≤ w.heap.size

set_option maxRecDepth 100000 in
set_option maxHeartbeats 6400000 in
theorem order_of (P : RingDoes) (a0 : Option Addr) (len0 cap0 : Nat) (h0 m0 : Int) (z0 : List (List Int)) (a1 : Option Addr) (len1 cap1 : Nat) (z1 : List (List Int)) (w : World) (w0a : Texts w a0 len0 cap0 z0) (w1 : Texts w a1 len1 cap1 z1) :
    Calls Try.prog 6 #[queueV a0 len0 cap0 h0 m0, .slice a1 len1 cap1] w fun e w' => e = .returned (.bool true) ∧ Below w.heap.size w w' := by
  have PP := Lib.hid P
  have hml : (1000 : Nat) ≤ maxLen := by decide
  have MORE := Lib.hid w1
  have hbel : Below w.heap.size w (w.alloc (.cells #[.slice a0 len0 cap0, .int .i64 h0, .int .i64 m0] 24)) := (Below.refl _ _).alloc (Nat.le_refl _) _
  have XQ := Lib.hid (QBox.new h0 m0 w0a)
  have B := Lib.hid hbel
  have N := Lib.hid (alive_of P (w.alloc (.cells #[.slice a0 len0 cap0, .int .i64 h0, .int .i64 m0] 24)))
  clear P w0a w1 hbel
  go_enter Try.func6, Try.ntmps6
  go_wp2_with fail
  refine N.out.mono ?_
  rintro e w2 ⟨rfl, hb⟩
  have B := Lib.hid (B.out.trans (hb.mono B.out.size))
  have XQ := Lib.hid (XQ.out.below hb)
  clear N hb
  obtain ⟨c0, c1, c2⟩ := XQ.out.cells
  have G := great_any a0 len0 cap0 h0 m0 z0 w2 XQ.out.txt
  cases hg : greatB z0 with
  | true =>
    rw [hg] at G
    have N := Lib.hid G
    clear G hg
    go_wp2_with fail
    refine N.out.mono ?_
    rintro e w3 ⟨rfl, hb⟩
    have B := Lib.hid (B.out.trans (hb.mono B.out.size))
    have XQ := Lib.hid (XQ.out.below hb)
    clear N hb
    clear c0 c1 c2
    go_wp2
    go_ret
    exact ⟨rfl, B.out⟩
  | false =>
    rw [hg] at G
    have N := Lib.hid G
    have SZ := Lib.hid (small_of hg)
    clear G hg
    go_wp2_with fail
    refine N.out.mono ?_
    rintro e w3 ⟨rfl, hb⟩
    have B := Lib.hid (B.out.trans (hb.mono B.out.size))
    have XQ := Lib.hid (XQ.out.below hb)
    clear N hb
    clear c0 c1 c2
    have G := great_any a1 len1 cap1 0 0 z1 w3 (MORE.out.below B.out)
    cases hg : greatB z1 with
    | true =>
      rw [hg] at G
      have N := Lib.hid G
      clear G hg
      go_wp2_with fail
      refine N.out.mono ?_
      rintro e w4 ⟨rfl, hb⟩
      have B := Lib.hid (B.out.trans (hb.mono B.out.size))
      have XQ := Lib.hid (XQ.out.below hb)
      clear N hb
      go_wp2
      go_ret
      exact ⟨rfl, B.out⟩
    | false =>
      rw [hg] at G
      have N := Lib.hid G
      have SM := Lib.hid (small_of hg)
      clear G hg
      go_wp2_with fail
      refine N.out.mono ?_
      rintro e w4 ⟨rfl, hb⟩
      have B := Lib.hid (B.out.trans (hb.mono B.out.size))
      have XQ := Lib.hid (XQ.out.below hb)
      clear N hb
      obtain ⟨c0, c1, c2⟩ := XQ.out.cells
      have N := PP.out.list a0 len0 cap0 h0 m0 z0 w4 XQ.out.txt SZ.out
      cases hm : mayB z0 h0 m0 with
      | false =>
        have hE : chkQ z0 h0 m0 = 8 := by unfold chkQ; rw [hm]; rfl
        have hL : listT z0 h0 m0 = [] := by unfold listT; rw [hm]; rfl
        have CK := PP.out.check a0 len0 cap0 h0 m0 z0
        rw [hE] at N CK
        rw [hL] at N
        have CK := Lib.hid CK
        have N := Lib.hid N
        clear hE hL hm
        go_wp2_with fail
        refine N.out.mono ?_
        rintro e w5 ⟨AL, cL, rfl, hown, hb⟩
        have B := Lib.hid (B.out.trans (hb.mono B.out.size))
        have XQ := Lib.hid (XQ.out.below hb)
        clear N 
        clear c0 c1 c2 hown hb
        obtain ⟨c0, c1, c2⟩ := XQ.out.cells
        have N := Lib.hid (CK.out w5 XQ.out.txt SZ.out)
        go_wp2_with fail
        refine N.out.mono ?_
        rintro e w6 ⟨rfl, hb⟩
        have B := Lib.hid (B.out.trans (hb.mono B.out.size))
        have XQ := Lib.hid (XQ.out.below hb)
        clear N hb
        go_wp2
        go_ret
        exact ⟨rfl, B.out⟩
      | true =>
        have hE : chkQ z0 h0 m0 = 0 := by unfold chkQ; rw [hm]; rfl
        rw [hE] at N
        obtain ⟨L0, hL0⟩ : ∃ x, x = listT z0 h0 m0 := ⟨_, rfl⟩
        rw [← hL0] at N
        have HL0 := Lib.hid hL0
        have HM := Lib.hid hm
        have hlt := Lib.hid XQ.out.lt
        have N := Lib.hid N
        clear hE hL0 hm
        go_wp2_with fail
        refine N.out.mono ?_
        rintro e w5 ⟨AL, cL, rfl, hown, hb⟩
        have B := Lib.hid (B.out.trans (hb.mono B.out.size))
        have XQ := Lib.hid (XQ.out.below hb)
        clear N 
        have WA := Lib.hid (Want.of_own w hown)
        obtain ⟨bs, hbs⟩ : ∃ x, x = w4.heap.size := ⟨_, rfl⟩
        rw [← hbs] at WA hlt
        have hs5 : bs ≤ w5.heap.size := by rw [hbs]; exact hb.size
        have HS5 := Lib.hid hs5
        clear hbs hs5 hown hb c0 c1 c2
        obtain ⟨c0, c1, c2⟩ := XQ.out.cells
        have u1 := XQ.out.lt
        have START := Lib.hid (show Held w w5 w.heap.size bs len0 a0 cap0 h0 m0 z0 AL L0.length cL (listT z0 h0 m0) from ⟨XQ.out, SZ.out, HM.out, by rw [← HL0.out]; exact WA.out, B.out, HS5.out⟩)
        have hll : L0.length = (listT z0 h0 m0).length := by rw [HL0.out]
        have HLL := Lib.hid hll
        clear hll
        have h100 : len1 ≤ 100 := by have e1 := SM.out.many; have e2 := MORE.out.len; omega
        go_wp2
        go_loopw [6, 9] (fun v i wr => ∃ k : Nat, k ≤ len1 ∧ i = .int .i64 k ∧ ∃ (A : Option Addr) (c : Nat) (h m : Int) (q : List Text) (A' : Option Addr) (l c' : Nat), v = .slice A' l c' ∧ l = (listT q h m).length ∧ Held w wr w.heap.size bs len0 A c h m q A' l c' (listT q h m)) (fun _ i _ => len1 - (intOf i).toNat)
        case atStart => exact ⟨0, Nat.zero_le _, rfl, a0, cap0, h0, m0, z0, AL, _, cL, rfl, HLL.out, START.out⟩
        case round =>
          obtain ⟨k, hk, rfl, A, c, h, m, q, A', l, c', rfl, hl, hh⟩ := hrel
          have HL := Lib.hid hl
          have HH := Lib.hid hh
          have ll1 := hh.want.cap
          have ll2 : l ≤ len0 := by have e1 := listT_length hh.may; have e2 := (mayB_iff q h m).1 hh.may; have e3 := hh.box.txt.len; omega
          have ll3 : len0 ≤ 64 := by have e2 := (mayB_iff q h m).1 hh.may; have e3 := hh.box.txt.len; omega
          clear hl hh c0 c1 c2 u1
          by_cases hkn : k < len1
          · obtain ⟨b, o, Ai, ni, ci, rfl, hlt1, hc0, ha0⟩ := MORE.out.at_ k hkn
            have hts := SM.out.at_ k
            have hby := MORE.out.byte_at k
            obtain ⟨t, ht⟩ : ∃ t, t = z1.getD k [] := ⟨_, rfl⟩
            rw [← ht] at hts hby ha0
            have hni : ni ≤ 200 := by rw [← ha0.len]; exact hts
            have PU := fun wx (hx : Below wr.heap.size wr wx) => PP.out.push A len0 c h m q Ai ni ci t wx (HH.out.box.txt.below hx) HH.out.small (ha0.below (HH.out.bel.trans (hx.mono HH.out.bel.size))) hby hts
            have HTS := Lib.hid hts
            have HA0 := Lib.hid ha0
            have HBY := Lib.hid hby
            have PU := Lib.hid PU
            have keepX : ∀ wx, Below wr.heap.size wr wx → wx.cell? ⟨w.heap.size, 0, none⟩ = some (.slice A len0 c) ∧ wx.cell? ⟨w.heap.size, 1, none⟩ = some (.int .i64 h) ∧ wx.cell? ⟨w.heap.size, 2, none⟩ = some (.int .i64 m) ∧ wx.cell? ⟨b, o + k, none⟩ = some (.slice Ai ni ci) := fun wx hx => ⟨(HH.out.box.below hx).cells.1, (HH.out.box.below hx).cells.2.1, (HH.out.box.below hx).cells.2.2, ((HH.out.bel.trans (hx.mono HH.out.bel.size)).cell (p := ⟨b, o + k, none⟩) hlt1).trans hc0⟩
            have KX := Lib.hid keepX
            clear ht hts hby ha0
            by_cases hf : len0 = l
            · subst hf
              have hE := push_full HH.out.may (by rw [← HL.out]; exact HH.out.box.txt.len.symm)
              rw [hE] at PU
              have PU := PU.out
              obtain ⟨I1, hI⟩ : ∃ x, x = pushI q h m t := ⟨_, rfl⟩
              obtain ⟨H1, hH⟩ : ∃ x, x = pushH q h m := ⟨_, rfl⟩
              obtain ⟨M1, hM⟩ : ∃ x, x = pushM q h m := ⟨_, rfl⟩
              rw [← hI, ← hH, ← hM] at PU
              have PU := Lib.hid PU
              clear hE hI hH hM
              go_wp2_with fail
              have hcur : Below wr.heap.size wr wr.drew := below_drewN (Below.refl _ _) 1
              have hkX := keepX _ hcur
              go_region_held3 (fun w' => w'.cell? ⟨w.heap.size, 0, none⟩ = some (.slice A len0 c) ∧ w'.cell? ⟨w.heap.size, 1, none⟩ = some (.int .i64 h) ∧ w'.cell? ⟨w.heap.size, 2, none⟩ = some (.int .i64 m) ∧ w'.cell? ⟨b, o + k, none⟩ = some (.slice Ai ni ci))
                (first | exact hkX | exact KX.out _ (hcur.alloc hcur.size _) | exact KX.out _ (below_three hcur (Nat.le_refl _) _ _ _) | go_keep)
                (first
                  | (go_at_call 13; refine (PU.out _ hcur).mono ?_; rintro e wN ⟨AX, cX, rfl, hown, hbN⟩; have hcur := hcur.trans (hbN.mono hcur.size); have hkX := KX.out _ hcur)
                  | (go_at_call 13; refine (PU.out _ (hcur.alloc hcur.size _)).mono ?_; rintro e wN ⟨AX, cX, rfl, hown, hbN⟩; have hxx : Blk wN wr.heap.size 24 [.slice none 0 0, .int .i64 0, .int .i64 0] := (Blk.new wr.drew 24 [.slice none 0 0, .int .i64 0, .int .i64 0]).below hbN (Blk.new wr.drew 24 [.slice none 0 0, .int .i64 0, .int .i64 0]).lt; have hz0 := hxx.cell 0; have hz1 := hxx.cell 1; have hz2 := hxx.cell 2; have hf0 := hxx.free 0; have hf1 := hxx.free 1; have hf2 := hxx.free 2; have hxx := Lib.hid hxx; have hcur := (hcur.alloc hcur.size _).trans (hbN.mono (hcur.alloc hcur.size _).size); have hkX := KX.out _ hcur))
              · skip
                have XX := QBox.new H1 M1 (Texts.of_own hown)
                have OX := hown.below (show Below wN.heap.size wN (wN.alloc (.cells #[.slice AX I1.length cX, .int .i64 H1, .int .i64 M1] 24)) from (Below.refl _ _).alloc (Nat.le_refl _) _)
                have HC := hcur.alloc hcur.size (.cells #[.slice AX I1.length cX, .int .i64 H1, .int .i64 M1] 24)
                have OX : OwnTexts (wN.alloc (.cells #[.slice AX I1.length cX, .int .i64 H1, .int .i64 M1] 24)) wr.heap.size AX I1.length cX I1 := OX
                obtain ⟨BX, hB⟩ : ∃ x, x = wN.heap.size := ⟨_, rfl⟩
                rw [← hB] at XX ⊢
                obtain ⟨wX, hW⟩ : ∃ x : World, x = wN.alloc (.cells #[.slice AX I1.length cX, .int .i64 H1, .int .i64 M1] 24) := ⟨_, rfl⟩
                rw [← hW] at XX OX HC ⊢
                clear hB hW hown hbN hcur hkX
                have XX := Lib.hid XX
                have OX := Lib.hid OX
                have HC := Lib.hid HC
                go_wp2
                go_roundw
                case rel => exact ⟨k + 1, by omega, by go_num, A, c, h, m, q, A', _, c', rfl, HL.out, ⟨HH.out.box.below HC.out, HH.out.small, HH.out.may, HH.out.want.below HC.out, HH.out.bel.trans (HC.out.mono HH.out.bel.size), Nat.le_trans HH.out.siz HC.out.size⟩⟩
                case measure => simp [intOf]; omega
              · skip
                have OX := hown.three hxx.out q_types.1 q_types.2 (.slice AX I1.length cX) (.int .i64 H1) (.int .i64 M1)
                have XX : QBox (((wN.setCell ⟨wr.heap.size, 0, none⟩ (.slice AX I1.length cX)).setCell ⟨wr.heap.size, 1, none⟩ (.int .i64 H1)).setCell ⟨wr.heap.size, 2, none⟩ (.int .i64 M1)) wr.heap.size AX I1.length cX H1 M1 I1 := ⟨hxx.out.three _ _ _, Texts.of_own OX⟩
                have OX := OX.lower (show wr.heap.size ≤ _ by rw [World.size_alloc]; exact Nat.le_succ _)
                have HC : Below wr.heap.size wr (((wN.setCell ⟨wr.heap.size, 0, none⟩ (.slice AX I1.length cX)).setCell ⟨wr.heap.size, 1, none⟩ (.int .i64 H1)).setCell ⟨wr.heap.size, 2, none⟩ (.int .i64 M1)) := below_three hcur (Nat.le_refl _) _ _ _
                obtain ⟨BX, hB⟩ : ∃ x, x = wr.heap.size := ⟨_, rfl⟩
                obtain ⟨wX, hW⟩ : ∃ x : World, x = (((wN.setCell ⟨wr.heap.size, 0, none⟩ (.slice AX I1.length cX)).setCell ⟨wr.heap.size, 1, none⟩ (.int .i64 H1)).setCell ⟨wr.heap.size, 2, none⟩ (.int .i64 M1)) := ⟨_, rfl⟩
                rw [← hW] at XX OX HC ⊢
                rw [← hB] at XX ⊢
                clear hB hW hown hbN hcur hkX hz0 hz1 hz2 hf0 hf1 hf2 hxx
                have XX := Lib.hid XX
                have OX := Lib.hid OX
                have HC := Lib.hid HC
                go_wp2
                go_roundw
                case rel => exact ⟨k + 1, by omega, by go_num, A, c, h, m, q, A', _, c', rfl, HL.out, ⟨HH.out.box.below HC.out, HH.out.small, HH.out.may, HH.out.want.below HC.out, HH.out.bel.trans (HC.out.mono HH.out.bel.size), Nat.le_trans HH.out.siz HC.out.size⟩⟩
                case measure => simp [intOf]; omega
            · obtain ⟨hE, hnI, hmI, hLI⟩ := push_fits (b := t) HH.out.may (by rw [← HL.out, HH.out.box.txt.len]; omega)
              have hsI := pushI_small2 (h := h) (m := m) HH.out.small HTS.out
              rw [hE] at PU
              have PU := PU.out
              obtain ⟨I1, hI⟩ : ∃ x, x = pushI q h m t := ⟨_, rfl⟩
              obtain ⟨H1, hH⟩ : ∃ x, x = pushH q h m := ⟨_, rfl⟩
              obtain ⟨M1, hM⟩ : ∃ x, x = pushM q h m := ⟨_, rfl⟩
              rw [← hI] at PU hnI hmI hLI hsI
              rw [← hH] at PU hmI hLI
              rw [← hM] at PU hmI hLI
              have PU := Lib.hid PU
              have HNI := Lib.hid (hnI.trans HH.out.box.txt.len)
              have HMI := Lib.hid hmI
              have HLI := Lib.hid hLI
              have HSI := Lib.hid hsI
              have hlr : ¬ (len0 : Int) ≤ (l : Int) := by omega
              clear hE hI hH hM hnI hmI hLI hsI
              go_wp2_with fail
              have hcur : Below wr.heap.size wr wr.drew := below_drewN (Below.refl _ _) 1
              have hkX := keepX _ hcur
              go_region_held3 (fun w' => w'.cell? ⟨w.heap.size, 0, none⟩ = some (.slice A len0 c) ∧ w'.cell? ⟨w.heap.size, 1, none⟩ = some (.int .i64 h) ∧ w'.cell? ⟨w.heap.size, 2, none⟩ = some (.int .i64 m) ∧ w'.cell? ⟨b, o + k, none⟩ = some (.slice Ai ni ci))
                (first | exact hkX | exact KX.out _ (hcur.alloc hcur.size _) | exact KX.out _ (below_three hcur (Nat.le_refl _) _ _ _) | go_keep)
                (first
                  | (go_at_call 13; refine (PU.out _ hcur).mono ?_; rintro e wN ⟨AX, cX, rfl, hown, hbN⟩; have hcur := hcur.trans (hbN.mono hcur.size); have hkX := KX.out _ hcur)
                  | (go_at_call 13; refine (PU.out _ (hcur.alloc hcur.size _)).mono ?_; rintro e wN ⟨AX, cX, rfl, hown, hbN⟩; have hxx : Blk wN wr.heap.size 24 [.slice none 0 0, .int .i64 0, .int .i64 0] := (Blk.new wr.drew 24 [.slice none 0 0, .int .i64 0, .int .i64 0]).below hbN (Blk.new wr.drew 24 [.slice none 0 0, .int .i64 0, .int .i64 0]).lt; have hz0 := hxx.cell 0; have hz1 := hxx.cell 1; have hz2 := hxx.cell 2; have hf0 := hxx.free 0; have hf1 := hxx.free 1; have hf2 := hxx.free 2; have hxx := Lib.hid hxx; have hcur := (hcur.alloc hcur.size _).trans (hbN.mono (hcur.alloc hcur.size _).size); have hkX := KX.out _ hcur))
              · skip
                have XX := QBox.new H1 M1 (Texts.of_own hown)
                have OX := hown.below (show Below wN.heap.size wN (wN.alloc (.cells #[.slice AX I1.length cX, .int .i64 H1, .int .i64 M1] 24)) from (Below.refl _ _).alloc (Nat.le_refl _) _)
                have HC := hcur.alloc hcur.size (.cells #[.slice AX I1.length cX, .int .i64 H1, .int .i64 M1] 24)
                have OX : OwnTexts (wN.alloc (.cells #[.slice AX I1.length cX, .int .i64 H1, .int .i64 M1] 24)) wr.heap.size AX I1.length cX I1 := OX
                obtain ⟨BX, hB⟩ : ∃ x, x = wN.heap.size := ⟨_, rfl⟩
                rw [← hB] at XX ⊢
                obtain ⟨wX, hW⟩ : ∃ x : World, x = wN.alloc (.cells #[.slice AX I1.length cX, .int .i64 H1, .int .i64 M1] 24) := ⟨_, rfl⟩
                rw [← hW] at XX OX HC ⊢
                clear hB hW hown hbN hcur hkX
                have XX := Lib.hid XX
                have OX := Lib.hid OX
                have HC := Lib.hid HC
                obtain ⟨x0, x1, x2⟩ := XX.out.cells
                have HX : Held w wX w.heap.size bs len0 A c h m q A' l c' (listT q h m) := ⟨HH.out.box.below HC.out, HH.out.small, HH.out.may, HH.out.want.below HC.out, HH.out.bel.trans (HC.out.mono HH.out.bel.size), Nat.le_trans HH.out.siz HC.out.size⟩
                obtain ⟨y0, y1, y2⟩ := HX.box.cells
                have f0 := HX.box.blk.free 0
                have f1 := HX.box.blk.free 1
                have f2 := HX.box.blk.free 2
                have HX := Lib.hid HX
                go_upto_region 16 with fail
                have hB0 : w.heap.size < bs := hlt.out
                have hB1 : w.heap.size < wr.heap.size := Nat.lt_of_lt_of_le hB0 HH.out.siz
                have OY := ((OX.out.away hB1 0 (.slice AX I1.length cX)).away hB1 1 (.int .i64 H1)).away hB1 2 (.int .i64 M1)
                have XY : Blk (((wX.setCell ⟨w.heap.size, 0, none⟩ (.slice AX I1.length cX)).setCell ⟨w.heap.size, 1, none⟩ (.int .i64 H1)).setCell ⟨w.heap.size, 2, none⟩ (.int .i64 M1)) w.heap.size 24 [.slice AX I1.length cX, .int .i64 H1, .int .i64 M1] := HX.out.box.blk.three _ _ _
                have WY := ((HX.out.want.away hB0 0 (.slice AX I1.length cX)).away hB0 1 (.int .i64 H1)).away hB0 2 (.int .i64 M1)
                have KY : Below w.heap.size wX (((wX.setCell ⟨w.heap.size, 0, none⟩ (.slice AX I1.length cX)).setCell ⟨w.heap.size, 1, none⟩ (.int .i64 H1)).setCell ⟨w.heap.size, 2, none⟩ (.int .i64 M1)) := below_three (Below.refl _ _) (Nat.le_refl _) _ _ _
                obtain ⟨wY, hW⟩ : ∃ x : World, x = (((wX.setCell ⟨w.heap.size, 0, none⟩ (.slice AX I1.length cX)).setCell ⟨w.heap.size, 1, none⟩ (.int .i64 H1)).setCell ⟨w.heap.size, 2, none⟩ (.int .i64 M1)) := ⟨_, rfl⟩
                rw [← hW] at OY XY WY KY ⊢
                have BY := HX.out.bel.trans KY
                have SY := Nat.le_trans HX.out.siz KY.size
                have d0 := (BY.cell (p := ⟨b, o + k, none⟩) hlt1).trans hc0
                have LW := fun g e => Nat.lt_of_lt_of_le (HH.out.want.lt g e) (Nat.le_refl _)
                have OY := Lib.hid OY
                have XY := Lib.hid XY
                have WY := Lib.hid WY
                have BY := Lib.hid BY
                have SY := Lib.hid SY
                have LW := Lib.hid LW
                have HB0 := Lib.hid hB0
                obtain ⟨i1, hi1, hy0, hy1, hy2⟩ := info_parts texts_info
                clear x0 x1 x2 y0 y1 y2 f0 f1 f2 hW hB0 hB1 KY
                go_wp2_with (at_builtin; refine wpList_want_text w wY rfl (.tmp 87) (.tmp 92) _ rfl i1 _ Try.underlying22 hi1 hy0 hy1 hy2 rfl bs A' l c' (listT q h m) rfl WY.out Ai ni ci t HBY.out HA0.out rfl (by omega) (by omega) SY.out ?_; intro A2 c2 wZ hwant hbelw hgrow; have WZ := Lib.hid hwant; have BZ := Lib.hid hbelw; have GZ := Lib.hid hgrow; clear hwant hbelw hgrow)
                go_roundw
                case rel =>
                  have OZ := ((OY.out.below (show Below wY.heap.size wY _ from (Below.refl _ _).alloc (Nat.le_refl _) _)).kept GZ.out (fun g e => LW.out g e))
                  have XZ : QBox wZ w.heap.size AX len0 cX H1 M1 I1 := ⟨by rw [← HNI.out]; exact XY.out.below BZ.out HB0.out, by rw [← HNI.out]; exact Texts.of_own OZ⟩
                  exact ⟨k + 1, by omega, by go_num, AX, cX, H1, M1, I1, A2, _, c2, rfl, by rw [HLI.out, List.length_append, ← HL.out]; rfl, ⟨XZ, HSI.out, HMI.out, by rw [HLI.out]; exact WZ.out, BY.out.trans (BZ.out.mono (Nat.le_of_lt HB0.out)), Nat.le_trans SY.out BZ.out.size⟩⟩
                case measure => simp [intOf]; omega
              · skip
                have OX := hown.three hxx.out q_types.1 q_types.2 (.slice AX I1.length cX) (.int .i64 H1) (.int .i64 M1)
                have XX : QBox (((wN.setCell ⟨wr.heap.size, 0, none⟩ (.slice AX I1.length cX)).setCell ⟨wr.heap.size, 1, none⟩ (.int .i64 H1)).setCell ⟨wr.heap.size, 2, none⟩ (.int .i64 M1)) wr.heap.size AX I1.length cX H1 M1 I1 := ⟨hxx.out.three _ _ _, Texts.of_own OX⟩
                have OX := OX.lower (show wr.heap.size ≤ _ by rw [World.size_alloc]; exact Nat.le_succ _)
                have HC : Below wr.heap.size wr (((wN.setCell ⟨wr.heap.size, 0, none⟩ (.slice AX I1.length cX)).setCell ⟨wr.heap.size, 1, none⟩ (.int .i64 H1)).setCell ⟨wr.heap.size, 2, none⟩ (.int .i64 M1)) := below_three hcur (Nat.le_refl _) _ _ _
                obtain ⟨BX, hB⟩ : ∃ x, x = wr.heap.size := ⟨_, rfl⟩
                obtain ⟨wX, hW⟩ : ∃ x : World, x = (((wN.setCell ⟨wr.heap.size, 0, none⟩ (.slice AX I1.length cX)).setCell ⟨wr.heap.size, 1, none⟩ (.int .i64 H1)).setCell ⟨wr.heap.size, 2, none⟩ (.int .i64 M1)) := ⟨_, rfl⟩
                rw [← hW] at XX OX HC ⊢
                rw [← hB] at XX ⊢
                clear hB hW hown hbN hcur hkX hz0 hz1 hz2 hf0 hf1 hf2 hxx
                have XX := Lib.hid XX
                have OX := Lib.hid OX
                have HC := Lib.hid HC
                obtain ⟨x0, x1, x2⟩ := XX.out.cells
                have HX : Held w wX w.heap.size bs len0 A c h m q A' l c' (listT q h m) := ⟨HH.out.box.below HC.out, HH.out.small, HH.out.may, HH.out.want.below HC.out, HH.out.bel.trans (HC.out.mono HH.out.bel.size), Nat.le_trans HH.out.siz HC.out.size⟩
                obtain ⟨y0, y1, y2⟩ := HX.box.cells
                have f0 := HX.box.blk.free 0
                have f1 := HX.box.blk.free 1
                have f2 := HX.box.blk.free 2
                have HX := Lib.hid HX
                go_upto_region 16 with fail
                have hB0 : w.heap.size < bs := hlt.out
                have hB1 : w.heap.size < wr.heap.size := Nat.lt_of_lt_of_le hB0 HH.out.siz
                have OY := ((OX.out.away hB1 0 (.slice AX I1.length cX)).away hB1 1 (.int .i64 H1)).away hB1 2 (.int .i64 M1)
                have XY : Blk (((wX.setCell ⟨w.heap.size, 0, none⟩ (.slice AX I1.length cX)).setCell ⟨w.heap.size, 1, none⟩ (.int .i64 H1)).setCell ⟨w.heap.size, 2, none⟩ (.int .i64 M1)) w.heap.size 24 [.slice AX I1.length cX, .int .i64 H1, .int .i64 M1] := HX.out.box.blk.three _ _ _
                have WY := ((HX.out.want.away hB0 0 (.slice AX I1.length cX)).away hB0 1 (.int .i64 H1)).away hB0 2 (.int .i64 M1)
                have KY : Below w.heap.size wX (((wX.setCell ⟨w.heap.size, 0, none⟩ (.slice AX I1.length cX)).setCell ⟨w.heap.size, 1, none⟩ (.int .i64 H1)).setCell ⟨w.heap.size, 2, none⟩ (.int .i64 M1)) := below_three (Below.refl _ _) (Nat.le_refl _) _ _ _
                obtain ⟨wY, hW⟩ : ∃ x : World, x = (((wX.setCell ⟨w.heap.size, 0, none⟩ (.slice AX I1.length cX)).setCell ⟨w.heap.size, 1, none⟩ (.int .i64 H1)).setCell ⟨w.heap.size, 2, none⟩ (.int .i64 M1)) := ⟨_, rfl⟩
                rw [← hW] at OY XY WY KY ⊢
                have BY := HX.out.bel.trans KY
                have SY := Nat.le_trans HX.out.siz KY.size
                have d0 := (BY.cell (p := ⟨b, o + k, none⟩) hlt1).trans hc0
                have LW := fun g e => Nat.lt_of_lt_of_le (HH.out.want.lt g e) (Nat.le_refl _)
                have OY := Lib.hid OY
                have XY := Lib.hid XY
                have WY := Lib.hid WY
                have BY := Lib.hid BY
                have SY := Lib.hid SY
                have LW := Lib.hid LW
                have HB0 := Lib.hid hB0
                obtain ⟨i1, hi1, hy0, hy1, hy2⟩ := info_parts texts_info
                clear x0 x1 x2 y0 y1 y2 f0 f1 f2 hW hB0 hB1 KY
                go_wp2_with (at_builtin; refine wpList_want_text w wY rfl (.tmp 87) (.tmp 92) _ rfl i1 _ Try.underlying22 hi1 hy0 hy1 hy2 rfl bs A' l c' (listT q h m) rfl WY.out Ai ni ci t HBY.out HA0.out rfl (by omega) (by omega) SY.out ?_; intro A2 c2 wZ hwant hbelw hgrow; have WZ := Lib.hid hwant; have BZ := Lib.hid hbelw; have GZ := Lib.hid hgrow; clear hwant hbelw hgrow)
                go_roundw
                case rel =>
                  have OZ := ((OY.out.below (show Below wY.heap.size wY _ from (Below.refl _ _).alloc (Nat.le_refl _) _)).kept GZ.out (fun g e => LW.out g e))
                  have XZ : QBox wZ w.heap.size AX len0 cX H1 M1 I1 := ⟨by rw [← HNI.out]; exact XY.out.below BZ.out HB0.out, by rw [← HNI.out]; exact Texts.of_own OZ⟩
                  exact ⟨k + 1, by omega, by go_num, AX, cX, H1, M1, I1, A2, _, c2, rfl, by rw [HLI.out, List.length_append, ← HL.out]; rfl, ⟨XZ, HSI.out, HMI.out, by rw [HLI.out]; exact WZ.out, BY.out.trans (BZ.out.mono (Nat.le_of_lt HB0.out)), Nat.le_trans SY.out BZ.out.size⟩⟩
                case measure => simp [intOf]; omega
          · obtain rfl : k = len1 := by omega
            obtain ⟨T, hT⟩ : ∃ x, x = listT q h m := ⟨_, rfl⟩
            have hh2 := HH.out
            have hl2 := HL.out
            have hs0 : listT q h m = T.drop 0 := by rw [hT, List.drop_zero]
            rw [← hT] at hh2 hl2
            have HL := Lib.hid hl2
            have START := Lib.hid hh2
            have HS0 := Lib.hid hs0
            clear hT hs0 hh2 hl2
            go_wp2
            go_loopw [12] (fun i wx => ∃ j : Nat, j ≤ l ∧ i = .int .i64 j ∧ ∃ (A2 : Option Addr) (c2 : Nat) (h2 m2 : Int) (q2 : List Text), listT q2 h2 m2 = T.drop j ∧ Held w wx w.heap.size bs len0 A2 c2 h2 m2 q2 A' l c' T) (fun i _ => l - (intOf i).toNat)
            case atStart => exact ⟨0, Nat.zero_le _, rfl, A, c, h, m, q, HS0.out, START.out⟩
            case round =>
              obtain ⟨j, hj, rfl, A2, c2, h2, m2, q2, hdr, hh⟩ := hrel
              by_cases hjl : j < l
              · have hjT : j < T.length := by rw [← HL.out]; exact hjl
                obtain ⟨t, ht⟩ : ∃ t, t = T.getD j [] := ⟨_, rfl⟩
                have hcons : listT q2 h2 m2 = t :: T.drop (j + 1) := by rw [hdr, List.drop_eq_getElem_cons hjT, ht, List.getD_eq_getElem?_getD, List.getElem?_eq_getElem hjT, Option.getD_some]
                obtain ⟨hE, hB, hnI, hmI, hLI⟩ := pop_some hh.may hcons
                have hsI := popI_small2 (h := h2) (m := m2) hh.small
                have PO := PP.out.pop A2 len0 c2 h2 m2 q2 wr hh.box.txt hh.small
                have CK := chkQ_may.1 hmI
                rw [hE, hB] at PO
                obtain ⟨I2, hI⟩ : ∃ x, x = popI q2 h2 m2 := ⟨_, rfl⟩
                obtain ⟨H2, hH⟩ : ∃ x, x = popH q2 h2 m2 := ⟨_, rfl⟩
                obtain ⟨M2, hM⟩ : ∃ x, x = popM q2 h2 m2 := ⟨_, rfl⟩
                rw [← hI] at PO hnI hmI hLI hsI CK
                rw [← hH] at PO hmI hLI CK
                rw [← hM] at PO hmI hLI CK
                have PC := fun (AX : Option Addr) (cX : Nat) wy (ht : Texts wy AX I2.length cX I2) => PP.out.check AX I2.length cX H2 M2 I2 wy ht hsI
                rw [CK] at PC
                have PC := Lib.hid PC
                have PO := Lib.hid PO
                have HNI := Lib.hid (hnI.trans hh.box.txt.len)
                have HMI := Lib.hid hmI
                have HLI := Lib.hid hLI
                have HSI := Lib.hid hsI
                have HH := Lib.hid hh
                have HT := Lib.hid ht
                have hjl2 : (j : Int) < (l : Int) := by omega
                obtain ⟨y0, y1, y2⟩ := hh.box.cells
                clear hE hB hI hH hM hnI hmI hLI hsI CK hcons hdr hh ht hjT
                go_wp2_with fail
                refine PO.out.mono ?_
                rintro e wN ⟨AX, cX, AC, cC, rfl, hown, hrow, hbN⟩
                go_upto_region 21 with fail
                have k1 : Below wN.heap.size wN (wN.alloc (.cells #[.slice AX I2.length cX, .int .i64 H2, .int .i64 M2] 24)) := (Below.refl _ _).alloc (Nat.le_refl _) _
                have XX := QBox.new H2 M2 (Texts.of_own hown)
                have OX := hown.below k1
                have RX := owns_below hrow k1
                have HC := hbN.alloc hbN.size (.cells #[.slice AX I2.length cX, .int .i64 H2, .int .i64 M2] 24)
                obtain ⟨BX, hB⟩ : ∃ x, x = wN.heap.size := ⟨_, rfl⟩
                rw [← hB] at XX ⊢
                obtain ⟨wX, hW⟩ : ∃ x : World, x = wN.alloc (.cells #[.slice AX I2.length cX, .int .i64 H2, .int .i64 M2] 24) := ⟨_, rfl⟩
                rw [← hW] at XX OX RX HC ⊢
                have HX : Held w wX w.heap.size bs len0 A2 c2 h2 m2 q2 A' l c' T := ⟨HH.out.box.below HC, HH.out.small, HH.out.may, HH.out.want.below HC, HH.out.bel.trans (HC.mono HH.out.bel.size), Nat.le_trans HH.out.siz HC.size⟩
                obtain ⟨g, Ai, ni, ci, rfl, hgl, hgc, hga, hgz⟩ := HX.want.at_ HX.bel hjl
                rw [← HT.out] at hga hgz
                clear k1 hown hrow hbN hB hW y0 y1 y2
                have OX := Lib.hid OX
                have XX := Lib.hid XX
                have RX := Lib.hid RX
                have HX := Lib.hid HX
                have HC := Lib.hid HC
                have GA := Lib.hid hga
                clear hga hgz
                have hcur : Below wX.heap.size wX wX.drew := below_drewN (Below.refl _ _) 1
                have keepX : ∀ wy, Below wX.heap.size wX wy → wy.cell? ⟨BX, 0, none⟩ = some (.slice AX I2.length cX) ∧ wy.cell? ⟨BX, 1, none⟩ = some (.int .i64 H2) ∧ wy.cell? ⟨BX, 2, none⟩ = some (.int .i64 M2) ∧ wy.cell? ⟨g, j, none⟩ = some (.slice Ai ni ci) ∧ (convert 28 9 (.slice AC t.length cC)).run Try.prog wy = .ok (.string (strOfNums t)) wy ∧ (convert 28 9 (.slice Ai ni ci)).run Try.prog wy = .ok (.string (strOfNums t)) wy := fun wy hy => ⟨(XX.out.below hy).cells.1, (XX.out.below hy).cells.2.1, (XX.out.below hy).cells.2.2, (hy.cell (p := ⟨g, j, none⟩) hgl).trans hgc, str_arg0 (Arg.own (owns_below RX.out hy)), str_arg0 (GA.out.below hy)⟩
                have hkX := keepX _ hcur
                clear hgc
                go_region_held3 (fun w' => w'.cell? ⟨BX, 0, none⟩ = some (.slice AX I2.length cX) ∧ w'.cell? ⟨BX, 1, none⟩ = some (.int .i64 H2) ∧ w'.cell? ⟨BX, 2, none⟩ = some (.int .i64 M2) ∧ w'.cell? ⟨g, j, none⟩ = some (.slice Ai ni ci) ∧ (convert 28 9 (.slice AC t.length cC)).run Try.prog w' = .ok (.string (strOfNums t)) w' ∧ (convert 28 9 (.slice Ai ni ci)).run Try.prog w' = .ok (.string (strOfNums t)) w')
                  (first | exact hkX | go_keep)
                  (first
                    | (go_at_call 10; refine (PC.out _ _ _ (XX.out.below hcur).txt).mono ?_; rintro e wK ⟨rfl, hbK⟩; have hcur := hcur.trans (hbK.mono hcur.size); have hkX := keepX _ hcur))
                obtain ⟨x0, x1, x2⟩ := (XX.out.below hcur).cells
                have HK : Held w wK w.heap.size bs len0 A2 c2 h2 m2 q2 (some ⟨g, 0, none⟩) l c' T := ⟨HX.out.box.below hcur, HX.out.small, HX.out.may, HX.out.want.below hcur, HX.out.bel.trans (hcur.mono HX.out.bel.size), Nat.le_trans HX.out.siz hcur.size⟩
                have OX := Lib.hid (OX.out.below hcur)
                obtain ⟨y0, y1, y2⟩ := HK.box.cells
                have f0 := HK.box.blk.free 0
                have f1 := HK.box.blk.free 1
                have f2 := HK.box.blk.free 2
                have HK := Lib.hid HK
                clear hcur hkX keepX hbK
                go_wp2
                go_roundw
                case rel =>
                  have hB0 : w.heap.size < bs := hlt.out
                  have hB1 : w.heap.size < wr.heap.size := Nat.lt_of_lt_of_le hB0 HH.out.siz
                  have OY := ((OX.out.away hB1 0 (.slice AX I2.length cX)).away hB1 1 (.int .i64 H2)).away hB1 2 (.int .i64 M2)
                  have XY : Blk (((wK.setCell ⟨w.heap.size, 0, none⟩ (.slice AX I2.length cX)).setCell ⟨w.heap.size, 1, none⟩ (.int .i64 H2)).setCell ⟨w.heap.size, 2, none⟩ (.int .i64 M2)) w.heap.size 24 [.slice AX I2.length cX, .int .i64 H2, .int .i64 M2] := HK.out.box.blk.three _ _ _
                  have KY : Below w.heap.size wK (((wK.setCell ⟨w.heap.size, 0, none⟩ (.slice AX I2.length cX)).setCell ⟨w.heap.size, 1, none⟩ (.int .i64 H2)).setCell ⟨w.heap.size, 2, none⟩ (.int .i64 M2)) := below_three (Below.refl _ _) (Nat.le_refl _) _ _ _
                  refine ⟨j + 1, by omega, by go_num, AX, cX, H2, M2, I2, HLI.out, ⟨⟨by rw [← HNI.out]; exact XY, by rw [← HNI.out]; exact Texts.of_own OY⟩, HSI.out, HMI.out, ((HK.out.want.away hB0 0 (.slice AX I2.length cX)).away hB0 1 (.int .i64 H2)).away hB0 2 (.int .i64 M2), HK.out.bel.trans KY, Nat.le_trans HK.out.siz KY.size⟩⟩
                case measure => simp [intOf]; omega
              · obtain rfl : j = l := by omega
                have hE := pop_none hh.may (by rw [hdr]; exact List.drop_eq_nil_of_le (by rw [← HL.out]; exact Nat.le_refl _))
                have PO := PP.out.pop A2 len0 c2 h2 m2 q2 wr hh.box.txt hh.small
                rw [hE] at PO
                have PO := Lib.hid PO
                obtain ⟨y0, y1, y2⟩ := hh.box.cells
                have BB := Lib.hid hh.bel
                clear hE hdr hh
                go_wp2_with fail
                refine PO.out.mono ?_
                rintro e wN ⟨AX, cX, AC, cC, rfl, hown, hrow, hbN⟩
                have BB := BB.out.trans (hbN.mono BB.out.size)
                have BE := Lib.hid (fun o => BB.alloc BB.size o)
                clear BB hown hrow hbN y0 y1 y2
                go_wp2
                go_ret
                exact ⟨rfl, BE.out _⟩

end Go.Proofs.Ytbbnfbclbhkneaa
