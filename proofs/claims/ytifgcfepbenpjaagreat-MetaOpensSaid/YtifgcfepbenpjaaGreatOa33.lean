/- Texts of layers 1 to 12, joined. -/
import Derived.Test.YtifgcfepbenpjaaGreatOa29
import Derived.Test.YtifgcfepbenpjaaGreatOa31
import Derived.Laws.Tables
import Derived.Deep.CutBlock
import Derived.Deep.CutRange
import Derived.Laws.BitsAllLaws
set_option maxRecDepth 100000
set_option maxHeartbeats 12800000
set_option linter.unusedVariables false
namespace Go.Proofs.YtifgcfepbenpjaaGreat
open Go.RowKit
theorem of_any (A : Option Addr) (n c : Nat) (t : Txt) (w : World) (ht : Arg w .u8 A n c t) (hby : ∀ z ∈ t, isByte z) : Calls Tryz.prog 100 #[.slice A n c] w (OfOut w t) := by
 by_cases h : n = 14
 ·subst h
  by_cases k : t.getD 0 0 = 1 ∧ t.getD 13 0 ≤ 3
  ·exact of_full A c t w ht hby k
  ·exact of_head A c t w ht k
 ·exact of_short A n c t w ht h
theorem tab_three {t : List Rc} (h : mayTab t) : t.length ≤ 3 := by
 have H := (mayTab_idx t).1 h
 have G : ∀ y : Nat, y < t.length → (y : Int) ≤ (t.getD y zR).p := by
  intro y
  induction y with
  | zero => intro hy; have := (H 0 hy).1.1; omega
  | succ k ih =>
   intro hy
   have h1 := ih (by omega)
   have h2 := (H (k + 1) hy).2 (Nat.succ_pos _)
   rw [Nat.add_sub_cancel] at h2
   omega
 rcases Nat.lt_or_ge 3 t.length with k | k
 ·have h1 := G 3 k
  have h2 := (H 3 k).1
  have h3 := h2.1.2.1
  omega
 ·exact k
def PutOut (w : World) (x : Option (List Rc)) (e : Ending) (w' : World) : Prop := ∃ A' c', e = .returned (.tuple #[.slice A' (ansL x).length c', .int .i64 (ansE x)]) ∧ OwnRecs w' w.heap.size A' (ansL x).length c' (ansL x) ∧ Below w.heap.size w w'
theorem rput_no (A : Option Addr) (n c : Nat) (t : List Rc) (A' : Option Addr) (n' c' : Nat) (b : Txt) (w : World) (ht : Recs w A n c t) (hn : n ≤ 100000) (hm : ¬ mayTab t) :
  Calls Tryz.prog 55 #[.slice A n c, .slice A' n' c'] w (PutOut w (putR t b)) := by
 have HO := Lh (show putR t b = none from if_neg hm)
 have M := rmayAll_any A n c t w ht hn
 rw [decide_eq_false hm] at M
 have M := Lh M
 clear ht hm
 go_enter Tryz.func55, Tryz.ntmps55
 go_wp2_with fail
 refine M.out.mono ?_
 rintro e w1 ⟨rfl, hb⟩
 have B := Lh hb
 clear hb
 go_wp2
 go_ret2
 rw [HO.out]
 exact ⟨none, 0, rfl, OwnRecs.nil _ _, B.out⟩
theorem rput_yes (A : Option Addr) (n c : Nat) (t : List Rc) (A' : Option Addr) (n' c' : Nat) (b : Txt) (w : World) (ht : Recs w A n c t) (hm : mayTab t) (hb : Arg w .u8 A' n' c' b) (hby : ∀ z ∈ b, isByte z) :
  Calls Tryz.prog 55 #[.slice A n c, .slice A' n' c'] w (PutOut w (putR t b)) := by
 have hn : n ≤ 3 := by have := tab_three hm; rw [ht.len] at this; exact this
 have M := rmayAll_any A n c t w ht (by omega)
 rw [decide_eq_true hm] at M
 have M := Lh M
 have TR := Lh ht
 rw [show putR t b = putN t b from if_pos hm]
 have hlen := hb.len
 have OF := Lh (fun wx (hx : Below w.heap.size w wx) => of_any A' n' c' b wx (hb.below hx) hby)
 have RAW := Lh (fun (k : isN b) => raw_is k.1 hby)
 by_cases hg : isGo b
 ·have HX := Lh (show putN t b = some (outR t (b.getD 1 0)) from if_pos hg)
  obtain ⟨g0, g1, g2⟩ := hg
  have hn2 : n' = 2 := by omega
  subst hn2
  obtain ⟨bb, o, rfl, hc⟩ := hb.at_ (by decide)
  have HC := Lh (fun wx (hx : Below w.heap.size w wx) => (hb.below hx).at_ (by decide))
  have hy1 := hby (b.getD 1 0) (by rw [gtD, geE (show 1 < b.length by omega)]; exact List.getElem_mem _)
  obtain ⟨x1, hx1⟩ : ∃ x, x = b.getD 1 0 := ⟨_, rfl⟩
  rw [← hx1] at g2 hy1 HX
  have hy : 0 ≤ x1 := hy1.1
  have hw1 : IntKind.i64.wrap x1 = x1 := by rw [IntKind.wrap_i64]; omega
  have G0 := Lh g1
  have X1 := Lh hx1
  clear hc hm ht hb hby hlen g0 g1 hx1 hy1 OF RAW
  go_enter Tryz.func55, Tryz.ntmps55
  go_wp2_with fail
  refine M.out.mono ?_
  rintro e w1 ⟨rfl, hbm⟩
  have BM := Lh hbm
  obtain ⟨b2, o2, eb, hc2⟩ := HC.out _ hbm
  injection eb with eb; injection eb with eb1 eb2 _; subst eb1; subst eb2
  have t0 := hc2 0 (by decide)
  have t1 := hc2 1 (by decide)
  rw [Nat.add_zero, G0.out] at t0
  rw [← X1.out] at t1
  have WO := Lh (rout_any A n c t x1 w1 (TR.out.below hbm) (by omega))
  clear hc2 hbm
  go_wp2_with fail
  refine WO.out.mono ?_
  rintro e w2 ⟨A2, c2, rfl, hO, hB⟩
  go_wp2
  go_ret2
  rw [HX.out]
  exact ⟨A2, c2, rfl, hO.lower BM.out.size, BM.out.trans (hB.mono BM.out.size)⟩
 ·have PN := Lh (fun (k : isN b) => (show putN t b = some (withR t (rawR b)) from (if_neg hg).trans (if_pos k)))
  have PZ := Lh (fun (k : ¬ isN b) => (show putN t b = none from (if_neg hg).trans (if_neg k)))
  by_cases h2 : n' = 2
  ·subst h2
   obtain ⟨bb0, o, rfl, hc⟩ := hb.at_ (by decide)
   have HC := Lh (fun wx (hx : Below w.heap.size w wx) => (hb.below hx).at_ (by decide))
   have hy1 := hby (b.getD 1 0) (by rw [gtD, geE (show 1 < b.length by omega)]; exact List.getElem_mem _)
   obtain ⟨x0, hx0⟩ : ∃ x, x = b.getD 0 0 := ⟨_, rfl⟩
   obtain ⟨x1, hx1⟩ : ∃ x, x = b.getD 1 0 := ⟨_, rfl⟩
   have hng : ¬ (x0 = 2 ∧ x1 < 3) := fun k => hg ⟨hlen, by rw [← hx0]; exact k.1, by rw [← hx1]; exact k.2⟩
   rw [← hx1] at hy1
   have hy : 0 ≤ x1 := hy1.1
   have hw1 : IntKind.i64.wrap x1 = x1 := by rw [IntKind.wrap_i64]; have := hy1.2; omega
   have X0 := Lh hx0
   have X1 := Lh hx1
   clear hc hm ht hb hby hlen hx1 hy1 hx0 hg
   by_cases hz : x0 = 2
   ·subst hz
    have h3 : ¬ x1 < 3 := fun k => hng ⟨rfl, k⟩
    clear hng
    go_enter Tryz.func55, Tryz.ntmps55
    go_wp2_with fail
    refine M.out.mono ?_
    rintro e w1 ⟨rfl, hbm⟩
    have BM := Lh hbm
    obtain ⟨b2, o2, eb, hc2⟩ := HC.out _ hbm
    injection eb with eb; injection eb with eb1 eb2 _; subst eb1; subst eb2
    have t0 := hc2 0 (by decide)
    have t1 := hc2 1 (by decide)
    rw [Nat.add_zero, ← X0.out] at t0
    rw [← X1.out] at t1
    clear hc2 hbm
    go_wp2_with fail
    refine (OF.out _ BM.out).mono ?_
    rintro e w2 ⟨⟨hk, rfl⟩ | ⟨hk, s, rfl⟩, hb2⟩
    ·have hx := PN.out hk
     have HX := Lh hx
     have HR := Lh (RAW.out hk)
     have B2 := Lh (BM.out.trans (hb2.mono BM.out.size))
     obtain ⟨r, hr⟩ : ∃ r, r = rawR b := ⟨_, rfl⟩
     rw [← hr] at HX HR ⊢
     clear hx hk hb2 hr PN PZ RAW OF
     obtain ⟨p, bb, ee, l, h, f, q, a⟩ := r
     obtain ⟨X0, hbx⟩ := rec_box w2 ⟨p, bb, ee, l, h, f, q, a⟩
     obtain ⟨c0, c1, c2, c3, c4, c5, c6, c7⟩ := X0.rec
     have B3 := Lh (B2.out.trans (hbx.mono B2.out.size))
     have WI := Lh (rwith11_any A n c t ⟨p, bb, ee, l, h, f, q, a⟩ _ (TR.out.below B3.out) HR.out (by omega))
     clear X0 hbx
     go_wp2_with fail
     refine WI.out.mono ?_
     rintro e w4 ⟨A2, c2, rfl, hO, hB⟩
     go_wp2
     go_ret2
     rw [HX.out]
     exact ⟨A2, c2, rfl, hO.lower B3.out.size, B3.out.trans (hB.mono B3.out.size)⟩
    ·have HX := Lh (PZ.out hk)
     have B2 := Lh (BM.out.trans (hb2.mono BM.out.size))
     clear hk hb2 PN PZ RAW OF
     obtain ⟨p, bb, ee, l, h, f, q, a⟩ := s
     go_wp2
     go_ret2
     rw [HX.out]
     exact ⟨none, 0, rfl, OwnRecs.nil _ _, by first | exact B2.out | exact B2.out.alloc B2.out.size _⟩
   ·have hzb : (x0 == 2) = false := by simpa using hz
    clear hng hz
    go_enter Tryz.func55, Tryz.ntmps55
    go_wp2_with fail
    refine M.out.mono ?_
    rintro e w1 ⟨rfl, hbm⟩
    have BM := Lh hbm
    obtain ⟨b2, o2, eb, hc2⟩ := HC.out _ hbm
    injection eb with eb; injection eb with eb1 eb2 _; subst eb1; subst eb2
    have t0 := hc2 0 (by decide)
    rw [Nat.add_zero, ← X0.out] at t0
    clear hc2 hbm
    go_wp2_with fail
    refine (OF.out _ BM.out).mono ?_
    rintro e w2 ⟨⟨hk, rfl⟩ | ⟨hk, s, rfl⟩, hb2⟩
    ·have hx := PN.out hk
     have HX := Lh hx
     have HR := Lh (RAW.out hk)
     have B2 := Lh (BM.out.trans (hb2.mono BM.out.size))
     obtain ⟨r, hr⟩ : ∃ r, r = rawR b := ⟨_, rfl⟩
     rw [← hr] at HX HR ⊢
     clear hx hk hb2 hr PN PZ RAW OF
     obtain ⟨p, bb, ee, l, h, f, q, a⟩ := r
     obtain ⟨X0, hbx⟩ := rec_box w2 ⟨p, bb, ee, l, h, f, q, a⟩
     obtain ⟨c0, c1, c2, c3, c4, c5, c6, c7⟩ := X0.rec
     have B3 := Lh (B2.out.trans (hbx.mono B2.out.size))
     have WI := Lh (rwith11_any A n c t ⟨p, bb, ee, l, h, f, q, a⟩ _ (TR.out.below B3.out) HR.out (by omega))
     clear X0 hbx
     go_wp2_with fail
     refine WI.out.mono ?_
     rintro e w4 ⟨A2, c2, rfl, hO, hB⟩
     go_wp2
     go_ret2
     rw [HX.out]
     exact ⟨A2, c2, rfl, hO.lower B3.out.size, B3.out.trans (hB.mono B3.out.size)⟩
    ·have HX := Lh (PZ.out hk)
     have B2 := Lh (BM.out.trans (hb2.mono BM.out.size))
     clear hk hb2 PN PZ RAW OF
     obtain ⟨p, bb, ee, l, h, f, q, a⟩ := s
     go_wp2
     go_ret2
     rw [HX.out]
     exact ⟨none, 0, rfl, OwnRecs.nil _ _, by first | exact B2.out | exact B2.out.alloc B2.out.size _⟩
  ·have hnb : ((n' : Int) == 2) = false := by simp; omega
   clear hm ht hb hby hlen hg h2
   go_enter Tryz.func55, Tryz.ntmps55
   go_wp2_with fail
   refine M.out.mono ?_
   rintro e w1 ⟨rfl, hbm⟩
   have BM := Lh hbm
   clear hbm
   go_wp2_with fail
   refine (OF.out _ BM.out).mono ?_
   rintro e w2 ⟨⟨hk, rfl⟩ | ⟨hk, s, rfl⟩, hb2⟩
   ·have hx := PN.out hk
    have HX := Lh hx
    have HR := Lh (RAW.out hk)
    have B2 := Lh (BM.out.trans (hb2.mono BM.out.size))
    obtain ⟨r, hr⟩ : ∃ r, r = rawR b := ⟨_, rfl⟩
    rw [← hr] at HX HR ⊢
    clear hx hk hb2 hr PN PZ RAW OF
    obtain ⟨p, bb, ee, l, h, f, q, a⟩ := r
    obtain ⟨X0, hbx⟩ := rec_box w2 ⟨p, bb, ee, l, h, f, q, a⟩
    obtain ⟨c0, c1, c2, c3, c4, c5, c6, c7⟩ := X0.rec
    have B3 := Lh (B2.out.trans (hbx.mono B2.out.size))
    have WI := Lh (rwith11_any A n c t ⟨p, bb, ee, l, h, f, q, a⟩ _ (TR.out.below B3.out) HR.out (by omega))
    clear X0 hbx
    go_wp2_with fail
    refine WI.out.mono ?_
    rintro e w4 ⟨A2, c2, rfl, hO, hB⟩
    go_wp2
    go_ret2
    rw [HX.out]
    exact ⟨A2, c2, rfl, hO.lower B3.out.size, B3.out.trans (hB.mono B3.out.size)⟩
   ·have HX := Lh (PZ.out hk)
    have B2 := Lh (BM.out.trans (hb2.mono BM.out.size))
    clear hk hb2 PN PZ RAW OF
    obtain ⟨p, bb, ee, l, h, f, q, a⟩ := s
    go_wp2
    go_ret2
    rw [HX.out]
    exact ⟨none, 0, rfl, OwnRecs.nil _ _, by first | exact B2.out | exact B2.out.alloc B2.out.size _⟩
theorem rput11_any (A : Option Addr) (n c : Nat) (t : List Rc) (A' : Option Addr) (n' c' : Nat) (b : Txt) (w : World) (ht : Recs w A n c t) (hn : n ≤ 100000) (hb : Arg w .u8 A' n' c' b) (hby : ∀ z ∈ b, isByte z) :
  Calls Tryz.prog 55 #[.slice A n c, .slice A' n' c'] w (PutOut w (putR t b)) := by
 by_cases hm : mayTab t
 ·exact rput_yes A n c t A' n' c' b w ht hm hb hby
 ·exact rput_no A n c t A' n' c' b w ht hn hm
def NotesOut (w : World) (x : List Txt) (E : Int) (e : Ending) (w' : World) : Prop := ∃ A' c', e = .returned (.tuple #[.slice A' x.length c', .int .i64 E]) ∧ OwnTexts w' w.heap.size A' x.length c' x ∧ Below w.heap.size w w'
theorem tab_step (l : List Txt) {k : Nat} (hk : k < l.length) {x : List Rc} (h : tabTo [] (l.take k) = some x) : tabTo [] (l.take (k + 1)) = putR x (l.getD k []) := by
 rw [List.take_succ_eq_append_getElem hk, tabTo_app, h]
 have e : l.getD k [] = l[k] := by simp [List.getD_eq_getElem?_getD, hk]
 rw [e]
 show (putR x l[k]).bind (fun y => tabTo y []) = _
 cases putR x l[k] <;> rfl
theorem tab_none (l : List Txt) (k : Nat) (h : tabTo [] (l.take k) = none) : tabR l = none := by
 unfold tabR
 rw [← List.take_append_drop k l, tabTo_app, h]
 rfl
theorem rtable11_any (A : Option Addr) (n c : Nat) (l : List Txt) (w : World) (hl : Texts w A n c l) :
  Calls Tryz.prog 50 #[.slice A n c] w (PutOut w (tabR l)) := by
 have hcm := Nat.le_trans hl.cap hl.max
 unfold maxLen at hcm
 have hlen := hl.len
 have HL := Lh hl
 have ST := Lh (fun k (hk : k < n) x => tab_step l (k := k) (by rw [hlen]; exact hk) (x := x))
 have NO := Lh (tab_none l)
 have ALL := Lh (show tabTo [] (l.take n) = tabR l by rw [← hlen, List.take_length]; rfl)
 have MAY := Lh (fun k x (h : tabTo [] (l.take k) = some x) => tabTo_may (t := []) (by trivial) h)
 clear hl hlen
 unfold PutOut
 obtain ⟨R, hR⟩ : ∃ R, R = tabR l := ⟨_, rfl⟩
 rw [← hR] at NO ALL ⊢
 clear hR
 go_enter Tryz.func50, Tryz.ntmps50
 go_wp2
 go_loopw [4, 5] (fun v i wr => ∃ k : Nat, k ≤ n ∧ i = .int .i64 k ∧ (∃ A' c' x, v = .slice A' (List.length x) c' ∧ tabTo [] (l.take k) = some x ∧ OwnRecs wr w.heap.size A' (List.length x) c' x) ∧ Below w.heap.size w wr) (fun _ i _ => n - (intOf i).toNat)
 case atStart => exact ⟨0, Nat.zero_le _, rfl, ⟨none, 0, [], rfl, rfl, OwnRecs.nil _ _⟩, Below.refl _ _⟩
 case round =>
  obtain ⟨k, hk, rfl, ⟨A1, c1, x, rfl, hx, hown⟩, hbel⟩ := hrel
  by_cases hkn : k < n
  ·obtain ⟨b, o, Ai, ni, ci, rfl, hlt, hc, ha⟩ := (HL.out.below hbel).at_ k hkn
   have hby := HL.out.byte_at k
   have hst := ST.out k hkn x hx
   have hm3 := tab_three (MAY.out k x hx)
   have PU := rput11_any A1 x.length c1 x Ai ni ci (l.getD k []) wr (Recs.of_own hown) (by omega) ha hby
   have B := Lh hbel
   obtain ⟨m, hm⟩ : ∃ m, m = x.length := ⟨_, rfl⟩
   rw [← hm] at PU ⊢
   rcases hy : putR x (l.getD k []) with _ | z
   ·rw [hy] at PU hst
    have PU := Lh (show Calls Tryz.prog 55 #[.slice A1 m c1, .slice Ai ni ci] wr (fun e w' => ∃ A' c', e = .returned (.tuple #[.slice A' 0 c', .int .i64 110]) ∧ Below wr.heap.size wr w') from PU.mono fun e w' ⟨A', c', h1, _, h3⟩ => ⟨A', c', h1, h3⟩)
    have HNO := Lh (NO.out _ hst)
    clear hy hx hm hown hbel ha hby hst hm3 ST NO ALL MAY HL
    go_wp2_with fail
    refine PU.out.mono ?_
    rintro e w2 ⟨A2, c2, rfl, hb⟩
    have B2 := Lh (B.out.trans (hb.mono B.out.size))
    clear hb
    go_wp2
    go_ret2
    rw [HNO.out]
    exact ⟨none, 0, rfl, OwnRecs.nil _ _, B2.out⟩
   ·rw [hy] at PU hst
    have HST := Lh hst
    obtain ⟨mz, hmz⟩ : ∃ m, m = z.length := ⟨_, rfl⟩
    have PU := Lh (show Calls Tryz.prog 55 #[.slice A1 m c1, .slice Ai ni ci] wr (fun e w' => ∃ A' c', e = .returned (.tuple #[.slice A' mz c', .int .i64 0]) ∧ OwnRecs w' wr.heap.size A' mz c' z ∧ Below wr.heap.size wr w') from PU.mono fun e w' ⟨A', c', h1, h2, h3⟩ => ⟨A', c', by rw [hmz]; exact h1, by rw [hmz]; exact h2, h3⟩)
    have HMZ := Lh hmz
    clear hy hx hm hown hbel ha hby hst hm3 hmz ST NO ALL MAY HL
    go_wp2_with fail
    refine PU.out.mono ?_
    rintro e w2 ⟨A2, c2, rfl, hO, hb⟩
    have O := Lh (hO.lower B.out.size)
    have B2 := Lh (B.out.trans (hb.mono B.out.size))
    clear hO hb
    go_wp2
    go_roundw
    case rel => exact ⟨k + 1, by omega, by go_num, ⟨A2, c2, z, by rw [← HMZ.out], HST.out, by rw [← HMZ.out]; exact O.out⟩, B2.out⟩
    case measure => simp [intOf]; omega
  ·obtain rfl : k = n := by omega
   rw [ALL.out] at hx
   have HX := Lh hx
   have O := Lh hown
   have B := Lh hbel
   clear hown hbel hx
   go_wp2
   go_ret2
   rw [HX.out]
   exact ⟨A1, c1, rfl, O.out, B.out⟩
def ShortT (l : List Txt) (k : Nat) : Prop := ∀ y, y < k → (l.getD y []).length ≤ 100
theorem wpList_store_row {P : Program} {w : World} {ops : Array Oper} {rest : List Oper} {o : Oper} {a : Act} {Q : Exit → Act → World → Prop} (hw : Region.wanted o (yielded ops a.tmps) = true) (ty : TypeId) (x y : Operand) (ho : o.op = .store ty x y)
  (g : Nat) (cells : Array Value) (hx : a.eval x = .pointer (some ⟨g, 0, none⟩)) (hy : a.eval y = .agg cells) (t : TypeId) (old : Array Value) (hg : w.heap[g]? = some (.cells old t (0, 0))) (hi : (P.info? ty).map (·.size) = some cells.size)
  (hold : old.size = cells.size) (h1 : cells.all (·.oneCell') = true) (h : wpList P ops Q rest (a.put o.dst undef) (w.setRow g cells)) : wpList P ops Q (o :: rest) a w := by
 refine wpList_want hw fun K hK => ?_
 exact wp_store_row ty x y ho g cells hx hy t old hg hi hold h1 (hK _ _ h)
theorem pequal11_any (A : Option Addr) (n c : Nat) (x : Txt) (A' : Option Addr) (n' c' : Nat) (y : Txt) (w : World) (hx : Arg w .u8 A n c x) (hy : Arg w .u8 A' n' c' y) (bx : ∀ z ∈ x, isByte z) (by_ : ∀ z ∈ y, isByte z) :
  Calls Tryz.prog 148 #[.slice A n c, .slice A' n' c'] w fun e w' => e = .returned (.bool (decide (x = y))) ∧ w' = w := by
 have hst1 := run_str (P := Tryz.prog) w 42 9 5 Tryz.underlying42 Tryz.underlying5 Tryz.underlying9 (c := c) hx.seq hx.len
 have hst2 := run_str (P := Tryz.prog) w 42 9 5 Tryz.underlying42 Tryz.underlying5 Tryz.underlying9 (c := c') hy.seq hy.len
 have hse := strs_eq bx by_
 obtain ⟨R, hR⟩ : ∃ R, R = decide (x = y) := ⟨_, rfl⟩
 rw [← hR] at hse ⊢
 clear hR hx hy bx by_
 go_enter Tryz.func148, Tryz.ntmps148
 go_wp2
 go_ret
 exact ⟨rfl, rfl⟩
theorem val_one11 {t : Txt} {k : Nat} (hk : k < t.length) : val ((t.drop k).take 1) = t.getD k 0 := by
 rw [gtD, geE hk, List.drop_eq_getElem_cons hk, List.take_succ_cons, List.take_zero]
 show 0 * 256 + t[k] = t[k]
 rw [Int.zero_mul, Int.zero_add]
theorem byte_getD11 {t : Txt} (hb : ∀ z ∈ t, isByte z) (k : Nat) : isByte (t.getD k 0) := by
 rcases Nat.lt_or_ge k t.length with h | h
 ·rw [gtD, geE h]
  exact hb _ (List.getElem_mem h)
 ·rw [gtD, List.getElem?_eq_none h]
  exact ⟨by decide, by decide⟩
theorem nums8_eq {t : Txt} (ht : t.length = 14) : numsTo t sz8R 8 = [t.getD 0 0, t.getD 1 0, val ((t.drop 2).take 4), val ((t.drop 6).take 4), t.getD 10 0, t.getD 11 0, t.getD 12 0, t.getD 13 0] := by
 have h : numsTo t sz8R 8 = ((((((([] ++ [val ((t.drop 0).take 1)]) ++ [val ((t.drop 1).take 1)]) ++ [val ((t.drop 2).take 4)]) ++ [val ((t.drop 6).take 4)]) ++ [val ((t.drop 10).take 1)]) ++ [val ((t.drop 11).take 1)]) ++ [val ((t.drop 12).take 1)]) ++ [val ((t.drop 13).take 1)] := rfl
 rw [h, val_one11 (by omega), val_one11 (by omega), val_one11 (by omega), val_one11 (by omega), val_one11 (by omega), val_one11 (by omega)]
 rfl
theorem nums2_eq {t : Txt} (ht : t.length = 2) : numsTo t [1, 1] 2 = [t.getD 0 0, t.getD 1 0] := by
 have h : numsTo t [1, 1] 2 = ([] ++ [val ((t.drop 0).take 1)]) ++ [val ((t.drop 1).take 1)] := rfl
 rw [h, val_one11 (by omega), val_one11 (by omega)]
 rfl
def bitR (t : Txt) : Rc := ⟨t.getD 1 0, val ((t.drop 2).take 4), val ((t.drop 6).take 4), t.getD 10 0, t.getD 11 0, t.getD 12 0, decide (t.getD 13 0 / 2 % 2 = 1), decide (t.getD 13 0 % 2 = 1)⟩
theorem bit_is {t : Txt} (ht : t.length = 14) (hb : ∀ z ∈ t, isByte z) : isR (bitR t) := raw_is ht hb
theorem bit_raw {t : Txt} (hb : ∀ z ∈ t, isByte z) (h : t.getD 13 0 ≤ 3) : bitR t = rawR t := by
 have := byte_getD11 hb 13
 unfold isByte at this
 unfold bitR rawR
 congr 1
 rw [decide_eq_decide]
 omega
theorem rec_raw {t : Txt} (hb : ∀ z ∈ t, isByte z) (h : isN t) : recT (rawR t) = t := by
 obtain ⟨h1, h2, h3, h4⟩ := h
 have hy := byte_getD11 hb 13
 unfold isByte at hy
 have hf : flagR (rawR t) = t.getD 13 0 := by
  show (if decide (2 ≤ t.getD 13 0) = true then (2 : Int) else 0) + (if decide (t.getD 13 0 % 2 = 1) = true then 1 else 0) = _
  by_cases k1 : 2 ≤ t.getD 13 0 <;> by_cases k2 : t.getD 13 0 % 2 = 1 <;> simp only [k1, k2, decide_true, decide_false, if_true, Bool.false_eq_true, if_false] <;> omega
 have hn : numsR (rawR t) = numsTo t sz8R 8 := by
  rw [nums8_eq h1]
  show [1, t.getD 1 0, _, _, _, _, _, flagR (rawR t)] = _
  rw [hf, h2]
  rfl
 show rowTo (numsR (rawR t)) sz8R 8 = t
 rw [hn]
 exact write_read t sz8R hb (by rw [h1]; decide)
theorem bit_iff {t : Txt} (ht : t.length = 14) (hb : ∀ z ∈ t, isByte z) : ntB (bitR t) = t ↔ isN t := by
 constructor
 ·intro h
  unfold ntB at h
  split at h
  ·rename_i hm
   have k := raw_recT (bit_is ht hb) hm
   rw [h] at k
   exact k.2
  ·rw [← h] at ht
   cases ht
 ·intro h
  rw [bit_raw hb h.2.2.1, show ntB (rawR t) = recT (rawR t) from if_pos h.2.2.2]
  exact rec_raw hb h
theorem go_iff {t : Txt} (ht : t.length = 2) (hb : ∀ z ∈ t, isByte z) : goB (t.getD 1 0) = t ↔ isGo t := by
 have hy := byte_getD11 hb 1
 unfold isByte at hy
 match t, ht with
 | [x, y], _ =>
  have hy : 0 ≤ y ∧ y < 256 := hy
  show goB y = [x, y] ↔ (2 = 2 ∧ x = 2 ∧ y < 3)
  unfold goB goE goneT
  by_cases h : 0 ≤ y ∧ y < 3
  ·rw [if_pos h, if_pos rfl]
   constructor
   ·intro e
    injection e with e
    exact ⟨rfl, e.symm, h.2⟩
   ·rintro ⟨_, rfl, _⟩
    rfl
  ·rw [if_neg h, if_neg (by decide)]
   constructor
   ·intro e
    cases e
   ·rintro ⟨_, _, k⟩
    exact absurd ⟨hy.1, k⟩ h
theorem goB_byte (k : Int) : ∀ z ∈ goB k, isByte z := by
 intro z hz
 unfold goB at hz
 by_cases h : 0 ≤ k ∧ k < 3
 ·rw [show goE k = 0 from if_pos h, if_pos rfl] at hz
  unfold goneT at hz
  simp only [List.mem_cons, List.not_mem_nil, or_false] at hz
  unfold isByte
  rcases hz with rfl | rfl <;> omega
 ·rw [show goE k = 2 from if_neg h, if_neg (by decide)] at hz
  cases hz
theorem ntB_byte (r : Rc) : ∀ z ∈ ntB r, isByte z := by
 intro z hz
 unfold ntB at hz
 split at hz
 ·exact recT_byte r z hz
 ·cases hz
theorem and_two {x : Int} (h0 : 0 ≤ x) (h : x < 256) : (bits .and .u64 x 2 != 0) = decide (x / 2 % 2 = 1) := by
 obtain ⟨n, rfl⟩ : ∃ n : Nat, x = n := ⟨x.toNat, by omega⟩
 have H : ∀ y : Fin 256, (bits .and .u64 ((y : Nat) : Int) 2 != 0) = decide (((y : Nat) : Int) / 2 % 2 = 1) := by decide +kernel
 exact H ⟨n, by omega⟩
theorem and_one {x : Int} (h0 : 0 ≤ x) (h : x < 256) : (bits .and .u64 x 1 != 0) = decide (x % 2 = 1) := by
 obtain ⟨n, rfl⟩ : ∃ n : Nat, x = n := ⟨x.toNat, by omega⟩
 have H : ∀ y : Fin 256, (bits .and .u64 ((y : Nat) : Int) 1 != 0) = decide (((y : Nat) : Int) % 2 = 1) := by decide +kernel
 exact H ⟨n, by omega⟩
theorem eight_at {w : World} {B : Nat} {A : Option Addr} {c : Nat} {x0 x1 x2 x3 x4 x5 x6 x7 : Int} (h : w.ownsRow B 27 1 (.slice A 8 c) 8 (ints .u64 [x0, x1, x2, x3, x4, x5, x6, x7])) :
  ∃ b, A = some ⟨b, 0, none⟩ ∧ w.cell? ⟨b, 0, none⟩ = some (.int .u64 x0) ∧ w.cell? ⟨b, 1, none⟩ = some (.int .u64 x1) ∧ w.cell? ⟨b, 2, none⟩ = some (.int .u64 x2) ∧ w.cell? ⟨b, 3, none⟩ = some (.int .u64 x3) ∧ w.cell? ⟨b, 4, none⟩ = some (.int .u64 x4) ∧ w.cell? ⟨b, 5, none⟩ = some (.int .u64 x5) ∧ w.cell? ⟨b, 6, none⟩ = some (.int .u64 x6) ∧ w.cell? ⟨b, 7, none⟩ = some (.int .u64 x7) := by
 obtain ⟨b, o, rfl, hlt, hc⟩ := (Seq.own h).at_ (by rw [ints_length]; simp)
 have ho : o = 0 := by
  rcases h.2 with ⟨e, h0⟩ | ⟨g, cap, cur, e, _⟩
  ·cases e
  ·injection e with e; injection e with e; injection e
 subst ho
 refine ⟨b, rfl, ?_⟩
 have H := fun j v hv => (Nat.zero_add j) ▸ hc j v hv
 exact ⟨H 0 _ rfl, H 1 _ rfl, H 2 _ rfl, H 3 _ rfl, H 4 _ rfl, H 5 _ rfl, H 6 _ rfl, H 7 _ rfl⟩
theorem two_at {w : World} {B : Nat} {A : Option Addr} {c : Nat} {x0 x1 : Int} (h : w.ownsRow B 27 1 (.slice A 2 c) 2 (ints .u64 [x0, x1])) : ∃ b, A = some ⟨b, 0, none⟩ ∧ w.cell? ⟨b, 0, none⟩ = some (.int .u64 x0) ∧ w.cell? ⟨b, 1, none⟩ = some (.int .u64 x1) := by
 obtain ⟨b, o, rfl, hlt, hc⟩ := (Seq.own h).at_ (by rw [ints_length]; simp)
 have ho : o = 0 := by
  rcases h.2 with ⟨e, h0⟩ | ⟨g, cap, cur, e, _⟩
  ·cases e
  ·injection e with e; injection e with e; injection e
 subst ho
 have H := fun j v hv => (Nat.zero_add j) ▸ hc j v hv
 exact ⟨b, rfl, H 0 _ rfl, H 1 _ rfl⟩
def GoOut (w : World) (t : Txt) (e : Ending) (w' : World) : Prop := ((isGo t ∧ e = .returned (.tuple #[.int .i64 (t.getD 1 0), .bool true])) ∨ (¬ isGo t ∧ e = .returned (.tuple #[.int .i64 0, .bool false]))) ∧ Below w.heap.size w w'
theorem pgonein_any (A : Option Addr) (n c : Nat) (t : Txt) (w : World) (ht : Arg w .u8 A n c t) (hby : ∀ z ∈ t, isByte z) (hn : n ≤ 1000) : Calls Tryz.prog 150 #[.slice A n c] w (GoOut w t) := by
 have hlen := ht.len
 have HA := Lh ht
 unfold GoOut
 by_cases h2 : n = 2
 ·subst h2
  have hnm := nums2_eq hlen
  have hy := byte_getD11 hby 1
  have hiff := go_iff hlen hby
  have EQ := Lh (fun (A' : Option Addr) (n' c' : Nat) wx (h1 : Arg wx .u8 A' n' c' (goB (t.getD 1 0))) (h2 : Arg wx .u8 A 2 c t) => pequal11_any A' n' c' (goB (t.getD 1 0)) A 2 c t wx h1 h2 (goB_byte _) hby)
  have hde : decide (goB (t.getD 1 0) = t) = decide (isGo t) := decide_eq_decide.2 hiff
  rw [hde] at EQ
  have GP := Lh (fun wx => pgone11_any (t.getD 1 0) wx)
  unfold RowOut at GP
  obtain ⟨b1, hb1⟩ : ∃ b, b = goB (t.getD 1 0) := ⟨_, rfl⟩
  obtain ⟨E1, hE1⟩ : ∃ b, b = goE (t.getD 1 0) := ⟨_, rfl⟩
  obtain ⟨x0, hx0⟩ : ∃ x, x = t.getD 0 0 := ⟨_, rfl⟩
  obtain ⟨x1, hx1⟩ : ∃ x, x = t.getD 1 0 := ⟨_, rfl⟩
  rw [← hb1, ← hE1] at GP
  rw [← hb1] at EQ
  rw [← hx0, ← hx1] at hnm
  rw [← hx1] at hy GP ⊢
  have e1 : IntKind.i64.wrap x1 = x1 := by unfold isByte at hy; rw [IntKind.wrap_i64]; omega
  have HNM := Lh hnm
  have HB := Lh hby
  have HL := Lh hlen
  clear hiff hde hb1 hE1 hx0 hx1 hnm hby hlen ht hn hy
  go_enter Tryz.func150, Tryz.ntmps150
  go_wp2_with fail
  refine (psizes2_any _).mono ?_
  rintro e w1 ⟨gS, rfl, hAS, hb⟩
  have B := Lh hb
  have HAS := Lh hAS
  have RT := Lh (HA.out.below hb)
  clear hb hAS
  go_wp2_with fail
  refine (read_ok A (some ⟨gS, 0, none⟩) 2 c 2 2 t [1, 1] _ HAS.out.seq rfl (by decide) RT.out.seq HL.out rfl RT.out.cap RT.out.max HB.out).mono ?_
  intro e w2 hout
  obtain ⟨A2, c2, rfl, hown, hb⟩ := hout.len (zs' := [x0, x1]) (n := 2) HNM.out rfl
  have B := Lh (B.out.trans (hb.mono B.out.size))
  have RT := Lh (RT.out.below hb)
  obtain ⟨g, rfl, q0, q1⟩ := two_at hown
  clear hown hb hout
  go_wp2_with fail
  refine (GP.out _).mono ?_
  rintro e w3 ⟨A3, c3, rfl, hown, hb⟩
  have B := Lh (B.out.trans (hb.mono B.out.size))
  have RT := Lh (RT.out.below hb)
  have R3 := Lh (Arg.own hown)
  clear hown hb q0 q1
  go_wp2_with fail
  refine (EQ.out _ _ _ _ R3.out RT.out).mono ?_
  rintro e w4 ⟨rfl, rfl⟩
  by_cases hg : isGo t
  ·rw [decide_eq_true hg]
   have HG := Lh hg
   clear hg
   go_wp2
   go_ret2
   exact ⟨.inl ⟨HG.out, rfl⟩, B.out⟩
  ·rw [decide_eq_false hg]
   have HG := Lh hg
   clear hg
   go_wp2
   go_ret2
   exact ⟨.inr ⟨HG.out, rfl⟩, B.out⟩
 ·have HN := Lh (show ¬ isGo t from fun k => h2 (hlen.symm.trans k.1))
  clear ht hby hlen
  go_enter Tryz.func150, Tryz.ntmps150
  go_wp2_with fail
  refine (psizes2_any _).mono ?_
  rintro e w1 ⟨gS, rfl, hAS, hb⟩
  have B := Lh hb
  have HAS := Lh hAS
  clear hb hAS
  go_wp2_with fail
  refine (read_short A (some ⟨gS, 0, none⟩) n c 2 2 [1, 1] _ _ HAS.out.seq rfl (by decide) h2 hn).mono ?_
  rintro e w2 ⟨rfl, rfl⟩
  go_wp2
  go_ret2
  exact ⟨.inr ⟨HN.out, rfl⟩, B.out⟩
end Go.Proofs.YtifgcfepbenpjaaGreat
