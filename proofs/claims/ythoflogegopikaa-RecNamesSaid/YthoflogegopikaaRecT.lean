/- Layer 11: the program's put and with: notes put into the map. -/
import Derived.Test.YthoflogegopikaaRecS4
namespace Go.Proofs.Ythoflogegopikaa
open Go.RowKit Go.Maps
set_option linter.unusedVariables false

theorem wf_pair {p : Int} (h0 : 0 ≤ p) (h : p < 3) : (Lit.int .i64 p).wf = true := by
  have : p = 0 ∨ p = 1 ∨ p = 2 := by omega
  rcases this with rfl | rfl | rfl <;> decide
theorem TabAt.mono {w : World} {B n n' : Nat} {t : List Rc} (h : TabAt w B n t) (hn : n ≤ n') : TabAt w B n' t := by
  obtain ⟨D, h, k⟩ := h
  exact ⟨D, h.mono hn, k⟩
theorem go_pair {b : Txt} (hb : ∀ z ∈ b, isByte z) (h : isGo b) : 0 ≤ b.getD 1 0 ∧ b.getD 1 0 < 3 := ⟨(byte_getD11 hb 1).1, h.2.2⟩

set_option maxRecDepth 100000 in
set_option maxHeartbeats 1600000 in
theorem pput_any (B n : Nat) (t : List Rc) (A : Option Addr) (nb cb : Nat) (b : Txt) (w : World) (ht : mayTab t) (h : TabAt w B n t) (hn : n ≤ 100000) (hb : Arg w .u8 A nb cb b) (hby : ∀ z ∈ b, isByte z) (hl : nb ≤ 1000) :
    Calls Try.prog 48 #[.map (some B), .slice A nb cb] w fun e w' => e = .returned (.bool (putN t b).isSome) ∧ TabAt w' B (n + 1) ((putN t b).getD t) ∧ w.grownBy w' (some B) := by
  have RI := Lib.hid (precin_any A nb cb b w hb hby hl)
  have GI := Lib.hid (fun wx (hx : Arg wx .u8 A nb cb b) => pgonein_any A nb cb b wx hx hby hl)
  unfold OfOut at RI
  unfold GoOut at GI
  have HB := Lib.hid hb
  have HT := Lib.hid h
  have BY := Lib.hid hby
  have MT := Lib.hid ht
  have hnm : n < maxLen := by unfold maxLen; omega
  have RAW := Lib.hid (fun (k : isN b) => raw_is k.1 hby)
  clear hb hby ht h hl hn
  go_enter Try.func48, Try.ntmps48
  go_wp2_with fail
  refine RI.out.mono ?_
  rintro e w1 ⟨⟨hN, rfl⟩ | ⟨hN, s, rfl⟩, hb1⟩
  · have HX := Lib.hid (show putN t b = some (withR t (rawR b)) from (if_neg (not_go hN)).trans (if_pos hN))
    have HRI := Lib.hid (RAW.out hN)
    have MR := Lib.hid hN.2.2.2
    have HF := Lib.hid (with_find MT.out hN.2.2.2)
    obtain ⟨r, hr⟩ : ∃ r, r = rawR b := ⟨_, rfl⟩
    rw [← hr] at HX HRI MR HF ⊢
    obtain ⟨x, hbx⟩ := rec_box w1 r
    obtain ⟨c0, c1, c2, c3, c4, c5, c6, c7⟩ := x.rec
    have B2 := Lib.hid (hb1.trans (hbx.mono hb1.size))
    have T2 := Lib.hid ((HT.out.below hb1).below hbx)
    clear hr x hbx hN RAW hb1 RI GI HB BY
    go_wp2_with (first
      | (at_mapUpdate; refine wpList_tab_put _ rfl _ _ _ rfl B n t (withR t r) rfl T2.out hnm r HRI.out (wf_pair MR.out.1.1 MR.out.1.2.1) rfl rfl HF.out ?_; intro w5 hT5 hG5; have T5 := Lib.hid hT5; have G5 := Lib.hid hG5; clear hT5 hG5)
      | go_in)
    go_ret
    rw [HX.out]
    exact ⟨rfl, T5.out, grownBy_trans (below_grown11 B2.out _) G5.out⟩
  · obtain ⟨x, hbx⟩ := rec_box w1 s
    have B2 := Lib.hid (hb1.trans (hbx.mono hb1.size))
    have T2 := Lib.hid ((HT.out.below hb1).below hbx)
    have HB2 := Lib.hid ((HB.out.below hb1).below hbx)
    have HN := Lib.hid hN
    clear x hbx hN RAW hb1 RI
    go_wp2_with fail
    refine (GI.out _ HB2.out).mono ?_
    rintro e w3 ⟨⟨hg, rfl⟩ | ⟨hg, rfl⟩, hb3⟩
    · have HX := Lib.hid (show putN t b = some (outR t (b.getD 1 0)) from if_pos hg)
      have HP := Lib.hid (go_pair BY.out hg)
      have B3 := Lib.hid (B2.out.trans (hb3.mono B2.out.size))
      have T3 := Lib.hid (T2.out.below hb3)
      obtain ⟨q, hq⟩ : ∃ q, q = b.getD 1 0 := ⟨_, rfl⟩
      rw [← hq] at HX HP ⊢
      clear hq hg hb3 GI HB2
      go_wp2_with (first
        | (at_delete; refine wpList_tab_del _ rfl _ _ rfl B n t (outR t q) rfl T3.out q (wf_pair HP.out.1 HP.out.2) rfl (out_find t q) ?_; intro w5 hT5 hG5; have T5 := Lib.hid hT5; have G5 := Lib.hid hG5; clear hT5 hG5)
        | go_in)
      go_ret
      rw [HX.out]
      exact ⟨rfl, T5.out.mono (Nat.le_succ _), grownBy_trans (below_grown11 B3.out _) G5.out⟩
    · have HX := Lib.hid (show putN t b = none from (if_neg hg).trans (if_neg HN.out))
      have B3 := Lib.hid (B2.out.trans (hb3.mono B2.out.size))
      have T3 := Lib.hid (T2.out.below hb3)
      clear hg hb3 GI HB2
      go_wp2
      go_ret
      rw [HX.out]
      exact ⟨rfl, T3.out.mono (Nat.le_succ _), below_grown11 B3.out _⟩

theorem tabTo_step (t : List Rc) (l : List Txt) {k : Nat} (hk : k < l.length) {x : List Rc} (h : tabTo t (l.take k) = some x) : tabTo t (l.take (k + 1)) = putR x (l.getD k []) := by
  rw [List.take_succ_eq_append_getElem hk, tabTo_app, h]
  have e : l.getD k [] = l[k] := by simp [List.getD_eq_getElem?_getD, hk]
  rw [e]
  show (putR x l[k]).bind (fun y => tabTo y []) = _
  cases putR x l[k] <;> rfl
theorem tabTo_none (t : List Rc) (l : List Txt) (k : Nat) (h : tabTo t (l.take k) = none) : tabTo t l = none := by
  rw [← List.take_append_drop k l, tabTo_app, h]
  rfl
/-- What with answers. -/
def WithOut (w : World) (B : Nat) (x : Option (List Rc)) (e : Ending) (w' : World) : Prop := ∃ A' c', e = .returned (.tuple #[.slice A' (ansL x).length c', .int .i64 (ansE x)]) ∧ OwnRecs w' w.heap.size A' (ansL x).length c' (ansL x) ∧ w.grownBy w' (some B)
set_option maxRecDepth 100000 in
set_option maxHeartbeats 1600000 in
theorem pwith_any (B n : Nat) (t : List Rc) (A : Option Addr) (m c : Nat) (l : List Txt) (w : World) (ht : mayTab t) (h : TabAt w B n t) (hn : n ≤ 1000) (hl : Texts w A m c l) (hm : m ≤ 1000) (hs : ShortT l m) :
    Calls Try.prog 32 #[.map (some B), .slice A m c] w (WithOut w B (tabTo t l)) := by
  have hlen := hl.len
  have HL := Lib.hid hl
  have HT := Lib.hid h
  have SH := Lib.hid hs
  have ST := Lib.hid (fun k (hk : k < m) x => tabTo_step t l (k := k) (by rw [hlen]; exact hk) (x := x))
  have NO := Lib.hid (tabTo_none t l)
  have ALL := Lib.hid (show tabTo t (l.take m) = tabTo t l by rw [← hlen, List.take_length])
  have MAY := Lib.hid (fun k x (h : tabTo t (l.take k) = some x) => tabTo_may ht h)
  have T0 := Lib.hid (show tabTo t (l.take 0) = some t from rfl)
  clear hl hlen ht h hs
  unfold WithOut
  obtain ⟨R, hR⟩ : ∃ R, R = tabTo t l := ⟨_, rfl⟩
  rw [← hR] at NO ALL ⊢
  clear hR
  go_enter Try.func32, Try.ntmps32
  go_wp2
  go_loopw [10] (fun i wr => ∃ (k : Nat) (x : List Rc), k ≤ m ∧ i = .int .i64 k ∧ tabTo t (l.take k) = some x ∧ TabAt wr B (n + k) x ∧ w.grownBy wr (some B)) (fun i _ => m - (intOf i).toNat)
  case atStart => exact ⟨0, t, Nat.zero_le _, rfl, T0.out, HT.out, grownBy_refl _ _⟩
  case round =>
    obtain ⟨k, x, hk, rfl, hx, hT, hg⟩ := hrel
    by_cases hkn : k < m
    · have hTX := Texts.turned HT.out hg HL.out
      obtain ⟨b, o, Ai, ni, ci, rfl, hlt, hc, ha⟩ := hTX.at_ k hkn
      have hby := HL.out.byte_at k
      have hst := ST.out k hkn x hx
      have hmx := MAY.out k x hx
      rw [show putR x (l.getD k []) = putN x (l.getD k []) from if_pos hmx] at hst
      have hsh := SH.out k hkn
      rw [ha.len] at hsh
      have PU := pput_any B (n + k) x Ai ni ci (l.getD k []) wr hmx hT (by omega) ha hby (by omega)
      have G := Lib.hid hg
      have HC := Lib.hid hc
      rcases hy : putN x (l.getD k []) with _ | z
      · rw [hy] at PU hst
        have PU := Lib.hid PU
        have HNO := Lib.hid (NO.out _ hst)
        clear hy hx hT hg ha hby hst hmx hsh ST NO ALL MAY HL HT SH T0 hTX
        go_wp2_with fail
        refine PU.out.mono ?_
        rintro e w2 ⟨rfl, _, hg2⟩
        have G2 := Lib.hid (grownBy_trans G.out hg2)
        clear hg2 hc HC
        go_wp2
        go_ret2
        rw [HNO.out]
        exact ⟨none, 0, rfl, OwnRecs.nil _ _, G2.out⟩
      · rw [hy] at PU hst
        have PU := Lib.hid PU
        have HST := Lib.hid hst
        clear hy hx hT hg ha hby hst hmx hsh ST NO ALL MAY HL HT SH T0 hTX
        go_wp2_with fail
        refine PU.out.mono ?_
        rintro e w2 ⟨rfl, hT2, hg2⟩
        have G2 := Lib.hid (grownBy_trans G.out hg2)
        have T2 := Lib.hid (show TabAt w2 B (n + (k + 1)) z from hT2)
        clear hg2 hT2 hc HC
        go_wp2
        go_roundw
        case rel => exact ⟨k + 1, z, by omega, by go_num, HST.out, T2.out, G2.out⟩
        case measure => simp [intOf]; omega
    · obtain rfl : k = m := by omega
      have hmx := MAY.out k x hx
      rw [ALL.out] at hx
      have SO := Lib.hid (psorted_any B (n + k) x wr hmx hT)
      have HX := Lib.hid hx
      have G := Lib.hid hg
      clear hx hg hT hmx
      go_wp2_with fail
      refine SO.out.mono ?_
      rintro e w2 ⟨A2, c2, rfl, hO, hb⟩
      have O := Lib.hid (hO.lower G.out.size)
      have G2 := Lib.hid (grownBy_trans G.out (below_grown11 hb _))
      clear hO hb
      go_wp2
      go_ret2
      rw [HX.out]
      exact ⟨A2, c2, rfl, O.out, G2.out⟩
end Go.Proofs.Ythoflogegopikaa
