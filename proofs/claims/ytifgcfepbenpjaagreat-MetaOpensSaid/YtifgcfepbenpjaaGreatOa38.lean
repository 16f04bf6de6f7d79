/- Texts of layers 1 to 12, joined. -/
import Derived.Test.YtifgcfepbenpjaaGreatOa37
set_option maxRecDepth 100000
set_option maxHeartbeats 12800000
set_option linter.unusedVariables false
namespace Go.Proofs.YtifgcfepbenpjaaGreat
open Go.RowKit Go.Maps
def SortOut (w : World) (base : Nat) (A : Option Addr) (n c : Nat) (L : List Rc) (e : Ending) (w' : World) : Prop := e = .returned (.tuple #[]) ∧ OwnRecs w' base A n c (isoR L n) ∧ Below base w w'
theorem pins_all (A : Option Addr) (n c base : Nat) (L : List Rc) (w : World) (hown : OwnRecs w base A n c L) (hb : base ≤ w.heap.size) (hn : n ≤ 12) :
  Calls Tryz.prog 192 #[.slice A n c, .int .i64 0, .int .i64 (n : Int), (.func (.func 152) #[] #[])] w (SortOut w base A n c L) := by
 unfold SortOut
 rcases Nat.eq_zero_or_pos n with h0 | h1
 ·subst h0
  have HO := Lh (show OwnRecs w base A 0 c (isoR L 0) from hown)
  clear hown
  rw [show ((0 : Nat) : Int) = 0 from rfl]
  go_enter Tryz.func192, Tryz.ntmps192
  go_wp2
  go_loopw [8] (fun i wr => i = .int .i64 1 ∧ wr = w) (fun _ _ => 0)
  case atStart => exact ⟨rfl, rfl⟩
  case round =>
   obtain ⟨rfl, rfl⟩ := hrel
   go_wp2
   first | go_end0 | refine bodyPost_ret (results_none rfl _ _ _) rfl ?_
   exact ⟨rfl, HO.out, Below.refl _ _⟩
 ·obtain ⟨g, rfl, hg⟩ : ∃ g, A = some ⟨g, 0, none⟩ ∧ base ≤ g := by
   rcases hown.1.2 with ⟨_, h0⟩ | ⟨g, cap, cur, e, hg, _⟩
   ·omega
   ·cases e
    exact ⟨g, rfl, hg⟩
  refine (pins_any g n c base L w hown h1 hn).mono ?_
  rintro e w' ⟨rfl, h2, h3⟩
  exact ⟨rfl, h2, (Below.refl _ _).grown h3 hb (fun k hk => by injection hk with hk; omega)⟩
theorem ppdq_any (A : Option Addr) (n c base : Nat) (L : List Rc) (lim : Int) (w : World) (hown : OwnRecs w base A n c L) (hb : base ≤ w.heap.size) (hn : n ≤ 12) :
  Calls Tryz.prog 176 #[.slice A n c, .int .i64 0, .int .i64 (n : Int), .int .i64 lim, (.func (.func 152) #[] #[])] w (SortOut w base A n c L) := by
 have P := Lh (pins_all A n c base L w hown hb hn)
 unfold SortOut at P ⊢
 have e1 : IntKind.i64.wrap (n : Int) = (n : Int) := by rw [IntKind.wrap_i64]; omega
 have e2 : (n : Int) ≤ 12 := by omega
 clear hown hb hn
 go_enter Tryz.func176, Tryz.ntmps176
 go_wp2
 go_loopw [1, 2, 3] (fun a b l wr => a = .int .i64 0 ∧ b = .int .i64 (n : Int) ∧ l = .int .i64 lim ∧ wr = w) (fun _ _ _ _ => 0)
 case atStart => exact ⟨rfl, rfl, rfl, rfl⟩
 case round =>
  obtain ⟨rfl, rfl, rfl, rfl⟩ := hrel
  go_wp2_with fail
  refine P.out.mono ?_
  rintro e w' ⟨rfl, h2, h3⟩
  have H2 := Lh h2
  have H3 := Lh h3
  clear h2 h3
  go_wp2
  first | go_end0 | refine bodyPost_ret (results_none rfl _ _ _) rfl ?_
  exact ⟨rfl, H2.out, H3.out⟩
theorem psortf_any (A : Option Addr) (n c base : Nat) (L : List Rc) (w : World) (hown : OwnRecs w base A n c L) (hb : base ≤ w.heap.size) (hn : n ≤ 3) :
  Calls Tryz.prog 151 #[.slice A n c, (.func (.func 152) #[] #[])] w (SortOut w base A n c L) := by
 have P := Lh (fun lim => ppdq_any A n c base L lim w hown hb (by omega))
 have LN := Lh (plen_any n hn w)
 unfold SortOut at P ⊢
 have e1 : IntKind.u64.wrap (n : Int) = (n : Int) := wrapw64 _ (by omega) (by omega)
 clear hown hb hn
 go_enter Tryz.func151, Tryz.ntmps151
 go_wp2_with fail
 refine LN.out.mono ?_
 rintro e w1 ⟨⟨k, rfl⟩, rfl⟩
 go_wp2_with fail
 refine (P.out _).mono ?_
 rintro e w' ⟨rfl, h2, h3⟩
 have H2 := Lh h2
 have H3 := Lh h3
 clear h2 h3
 go_wp2
 first | go_end0 | refine bodyPost_ret (results_none rfl _ _ _) rfl ?_
 exact ⟨rfl, H2.out, H3.out⟩
end Go.Proofs.YtifgcfepbenpjaaGreat
namespace Go.Proofs.YtifgcfepbenpjaaGreat
open Go.RowKit Go.Maps
theorem ranges_below {w w' : World} {P : Program} {k : TypeId} {R : Value → Option (DataW Unit × List MemPlace)} {b r n base : Nat} {D : DataW Unit} {left : Lit → Bool} {cnt : Nat} (h : w.ranges P k R b r n D left cnt) (hb : Below base w w') (h1 : b < base) (h2 : r < base) : w'.ranges P k R b r n D left cnt := by
 obtain ⟨es, clock, since, seen, c0, hb0, F, hs, hD, hr, rest⟩ := h
 exact ⟨es, clock, since, seen, c0, (hb.block b h1).trans hb0, F, hs, hD, (hb.block r h2).trans hr, rest⟩
theorem OwnRecs.under {w w' : World} {base : Nat} {A : Option Addr} {n c : Nat} {L : List Rc} (h : OwnRecs w base A n c L) {row : Option Nat} (hg : w.grownBy w' row) (hr : ∀ g, row = some g → g < base) : OwnRecs w' base A n c L := ⟨owns_under h.1 hg hr, h.2.1, h.2.2⟩
theorem psorted_any (B n : Nat) (t : List Rc) (w : World) (ht : mayTab t) (h : TabAt w B n t) :
  Calls Tryz.prog 111 #[.map (some B)] w fun e w' => ∃ A' c', e = .returned (.slice A' t.length c') ∧ OwnRecs w' w.heap.size A' t.length c' t ∧ Below w.heap.size w w' := by
 have hBlt := h.lt
 obtain ⟨D, hown, hD⟩ := h
 have HD := Lh hD
 have HM := Lh ht
 clear hD ht
 go_enter Tryz.func111, Tryz.ntmps111
 go_wp2_with (first
  | (at_range; refine wpList_range_own _ rfl _ 143 rfl 3 64 key11 Tryz.underlying143 recElem B n D rfl hown ?_; intro w0 hrg0 hg0 hs0)
  | go_in)
 go_frame
 go_loopw [3] (fun v wr => ∃ (left : Lit → Bool) (cnt : Nat) (M : List Rc) (A' : Option Addr) (c' : Nat), wr.ranges Tryz.prog 3 recElem B w.heap.size n D left cnt ∧ Coll t left M ∧ v = .slice A' M.length c' ∧ OwnRecs wr (w.heap.size + 1) A' M.length c' M ∧ Below w.heap.size w wr ∧ w.heap.size + 1 ≤ wr.heap.size) (fun _ wr => wr.rangeLeft B w.heap.size)
 case atStart => exact ⟨_, _, [], none, 0, hrg0, Coll.start (mayTab_ne HM.out) HD.out, rfl, OwnRecs.nil _ _, (Below.refl _ _).grown hg0 (Nat.le_refl _) (fun j hj => by cases hj), by omega⟩
 case round =>
  clear hown hrg0 hg0 hs0
  obtain ⟨left, cnt, M, A', c', hrg, hC, rfl, hown, hbw, hsz⟩ := hrel
  have hmt := (mayTab_iff t).1 HM.out
  have hM3 : M.length ≤ 3 := three_of hC.2.1 fun r hr => ⟨(hmt.1 r (hC.1 r hr)).1.1, (hmt.1 r (hC.1 r hr)).1.2.1⟩
  have OW := Lh hown
  have BW := Lh hbw
  have CC := Lh hC
  have HSZ := Lh hsz
  clear hown hbw hC hmt hsz
  obtain ⟨m, hm⟩ : ∃ m, m = M.length := ⟨_, rfl⟩
  rw [← hm] at OW hM3 ⊢
  have HMM := Lh hm
  clear hm
  go_wp2_with (first
   | (at_next; refine wpList_next_ranges _ rfl _ rfl 3 key11 recElem (Value.int .i64) recV (fun key kl hk => by obtain ⟨x, hx, _⟩ := keyOf_int_inv Tryz.underlying3 hk; exact ⟨x, hx⟩) (fun v y hv => by obtain ⟨r, hr, _⟩ := recElem_inv hv; exact ⟨r, hr⟩) B w.heap.size n D left cnt rfl hrg ?_ ?_)
   | go_in)
  ·intro hc0 hl0
   have SO := Lh (fun wx (hx : OwnRecs wx (w.heap.size + 1) A' m c' M) (hz : w.heap.size + 1 ≤ wx.heap.size) => psortf_any A' m c' (w.heap.size + 1) M wx hx hz hM3)
   unfold SortOut at SO
   have IT := Lh (iso_tab HM.out CC.out.2.1 (CC.out.done hl0))
   clear hrg hl0 hc0
   go_wp2_with fail
   refine (SO.out _ OW.out HSZ.out).mono ?_
   rintro e w2 ⟨rfl, h2, h3⟩
   have H2 := Lh h2
   have B2 := Lh (BW.out.trans (h3.mono (Nat.le_succ _)))
   clear h2 h3
   go_wp2
   go_ret
   have it := IT.out
   have o2 := H2.out
   rw [← HMM.out] at it
   rw [it] at o2
   have hl : t.length = m := by rw [← it, isoR_length]; exact HMM.out.symm
   rw [hl]
   exact ⟨A', c', rfl, o2.lower (Nat.le_succ _), B2.out⟩
  ·intro x c kl yd yp w2 cnt2 hkey hlk hv hat hrg2 hlt hg2 hs2 hen
   obtain ⟨x', ex, rfl, _⟩ := keyOf_int_inv Tryz.underlying3 hkey
   obtain rfl : x = x' := by injection ex
   obtain ⟨c', ec, hcR, ey⟩ := recElem_inv hv
   have ecc := recV_inj ec
   subst ecc
   have hy : yd = recD c := (Prod.mk.inj ey).1
   have hh := has_true_of_atKey hat
   rw [HD.out.1 x] at hh
   obtain ⟨s, hs⟩ := Option.isSome_iff_exists.1 hh
   have hsc : s = c := recD_inj (by rw [← HD.out.2 x s hs (recD c), hat, hy])
   subst hsc
   obtain ⟨hmem, hpx⟩ := fR_some hs
   subst hpx
   have HRG := Lh hrg
   have LT := Lh hlt
   have HC2 := Lh (CC.out.step (mayTab_ne HM.out) hmem hlk)
   have hsz2 : w.heap.size + 1 ≤ w2.heap.size := by rw [hs2]; exact HSZ.out
   have OW2 := OW.out.under hg2 (fun g hg => by injection hg with hg; omega)
   have BW2 := BW.out.grown hg2 (Nat.le_trans (Nat.le_succ _) HSZ.out) (fun k hk => by injection hk with hk; omega)
   obtain ⟨xb, hbb⟩ := rec_box w2 s
   have hc0 := xb.rec
   have OW3 := Lh (OW2.below hbb)
   have BW3 := Lh (BW2.trans (hbb.mono BW2.size))
   have HRG3 := Lh (hrg2.alloc (.cells #[.int .i64 s.p, .int .u32 s.b, .int .u32 s.e, .int .i64 s.l, .int .u8 s.h, .int .i64 s.f, .bool s.q, .bool s.a] 64))
   have SZ3 := Lh (Nat.le_trans hsz2 hbb.size)
   have HR := Lh hcR
   obtain ⟨c0, c1, c2, c3, c4, c5, c6, c7⟩ := hc0
   clear hkey hlk hv hat hrg2 hlt hg2 hs2 ey ec hy hh hs hmem hrg OW2 BW2 hbb xb hsz2 hcR ex OW BW CC
   go_wp2_with (first
    | (at_builtin; refine wpList_recs (w2.alloc (.cells #[.int .i64 s.p, .int .u32 s.b, .int .u32 s.e, .int .i64 s.l, .int .u8 s.h, .int .i64 s.f, .bool s.q, .bool s.a] 64)) (w2.alloc (.cells #[.int .i64 s.p, .int .u32 s.b, .int .u32 s.e, .int .i64 s.l, .int .u8 s.h, .int .i64 s.f, .bool s.q, .bool s.a] 64)) rfl (.tmp 12) (.tmp 14) rfl (w.heap.size + 1) A' m c' M rfl OW3.out s HR.out (by rw [World.size_alloc]; rfl) (by omega) (Below.refl _ _) SZ3.out ?_; intro A2 c2' w5 hO5 hB5; have O5 := Lh hO5; have B5 := Lh hB5; clear hO5 hB5)
    | go_in)
   go_roundw
   case rel =>
    have hml : (M ++ [s]).length = m + 1 := by rw [List.length_append, ← HMM.out]; rfl
    refine ⟨_, cnt2, M ++ [s], A2, c2', ranges_below HRG3.out B5.out (by omega) (Nat.lt_succ_self _), HC2.out, by rw [hml], by rw [hml]; exact O5.out, BW3.out.trans (B5.out.mono (Nat.le_succ _)), Nat.le_trans SZ3.out B5.out.size⟩
   case measure => rw [(ranges_below HRG3.out B5.out (by omega) (Nat.lt_succ_self _)).left_eq, HRG.out.left_eq]; exact LT.out
end Go.Proofs.YtifgcfepbenpjaaGreat
namespace Go.Proofs.YtifgcfepbenpjaaGreat
open Go.RowKit Go.Maps
theorem wf_pair {p : Int} (h0 : 0 ≤ p) (h : p < 3) : (Lit.int .i64 p).wf = true := by
 have : p = 0 ∨ p = 1 ∨ p = 2 := by omega
 rcases this with rfl | rfl | rfl <;> decide
theorem TabAt.mono {w : World} {B n n' : Nat} {t : List Rc} (h : TabAt w B n t) (hn : n ≤ n') : TabAt w B n' t := by
 obtain ⟨D, h, k⟩ := h
 exact ⟨D, h.mono hn, k⟩
theorem go_pair {b : Txt} (hb : ∀ z ∈ b, isByte z) (h : isGo b) : 0 ≤ b.getD 1 0 ∧ b.getD 1 0 < 3 := ⟨(byte_getD11 hb 1).1, h.2.2⟩
theorem pput_any (B n : Nat) (t : List Rc) (A : Option Addr) (nb cb : Nat) (b : Txt) (w : World) (ht : mayTab t) (h : TabAt w B n t) (hn : n ≤ 100000) (hb : Arg w .u8 A nb cb b) (hby : ∀ z ∈ b, isByte z) (hl : nb ≤ 1000) :
  Calls Tryz.prog 110 #[.map (some B), .slice A nb cb] w fun e w' => e = .returned (.bool (putN t b).isSome) ∧ TabAt w' B (n + 1) ((putN t b).getD t) ∧ w.grownBy w' (some B) := by
 have RI := Lh (precin_any A nb cb b w hb hby hl)
 have GI := Lh (fun wx (hx : Arg wx .u8 A nb cb b) => pgonein_any A nb cb b wx hx hby hl)
 unfold OfOut at RI
 unfold GoOut at GI
 have HB := Lh hb
 have HT := Lh h
 have BY := Lh hby
 have MT := Lh ht
 have hnm : n < maxLen := by unfold maxLen; omega
 have RAW := Lh (fun (k : isN b) => raw_is k.1 hby)
 clear hb hby ht h hl hn
 go_enter Tryz.func110, Tryz.ntmps110
 go_wp2_with fail
 refine RI.out.mono ?_
 rintro e w1 ⟨⟨hN, rfl⟩ | ⟨hN, s, rfl⟩, hb1⟩
 ·have HX := Lh (show putN t b = some (withR t (rawR b)) from (if_neg (not_go hN)).trans (if_pos hN))
  have HRI := Lh (RAW.out hN)
  have MR := Lh hN.2.2.2
  have HF := Lh (with_find MT.out hN.2.2.2)
  obtain ⟨r, hr⟩ : ∃ r, r = rawR b := ⟨_, rfl⟩
  rw [← hr] at HX HRI MR HF ⊢
  obtain ⟨x, hbx⟩ := rec_box w1 r
  obtain ⟨c0, c1, c2, c3, c4, c5, c6, c7⟩ := x.rec
  have B2 := Lh (hb1.trans (hbx.mono hb1.size))
  have T2 := Lh ((HT.out.below hb1).below hbx)
  clear hr x hbx hN RAW hb1 RI GI HB BY
  go_wp2_with (first
   | (at_mapUpdate; refine wpList_tab_put _ rfl _ _ _ rfl B n t (withR t r) rfl T2.out hnm r HRI.out (wf_pair MR.out.1.1 MR.out.1.2.1) rfl rfl HF.out ?_; intro w5 hT5 hG5; have T5 := Lh hT5; have G5 := Lh hG5; clear hT5 hG5)
   | go_in)
  go_ret
  rw [HX.out]
  exact ⟨rfl, T5.out, grownBy_trans (below_grown11 B2.out _) G5.out⟩
 ·obtain ⟨x, hbx⟩ := rec_box w1 s
  have B2 := Lh (hb1.trans (hbx.mono hb1.size))
  have T2 := Lh ((HT.out.below hb1).below hbx)
  have HB2 := Lh ((HB.out.below hb1).below hbx)
  have HN := Lh hN
  clear x hbx hN RAW hb1 RI
  go_wp2_with fail
  refine (GI.out _ HB2.out).mono ?_
  rintro e w3 ⟨⟨hg, rfl⟩ | ⟨hg, rfl⟩, hb3⟩
  ·have HX := Lh (show putN t b = some (outR t (b.getD 1 0)) from if_pos hg)
   have HP := Lh (go_pair BY.out hg)
   have B3 := Lh (B2.out.trans (hb3.mono B2.out.size))
   have T3 := Lh (T2.out.below hb3)
   obtain ⟨q, hq⟩ : ∃ q, q = b.getD 1 0 := ⟨_, rfl⟩
   rw [← hq] at HX HP ⊢
   clear hq hg hb3 GI HB2
   go_wp2_with (first
    | (at_delete; refine wpList_tab_del _ rfl _ _ rfl B n t (outR t q) rfl T3.out q (wf_pair HP.out.1 HP.out.2) rfl (out_find t q) ?_; intro w5 hT5 hG5; have T5 := Lh hT5; have G5 := Lh hG5; clear hT5 hG5)
    | go_in)
   go_ret
   rw [HX.out]
   exact ⟨rfl, T5.out.mono (Nat.le_succ _), grownBy_trans (below_grown11 B3.out _) G5.out⟩
  ·have HX := Lh (show putN t b = none from (if_neg hg).trans (if_neg HN.out))
   have B3 := Lh (B2.out.trans (hb3.mono B2.out.size))
   have T3 := Lh (T2.out.below hb3)
   clear hg hb3 GI HB2
   go_wp2
   go_ret
   rw [HX.out]
   exact ⟨rfl, T3.out.mono (Nat.le_succ _), below_grown11 B3.out _⟩
theorem tabTo_step (t : List Rc) (l : List Txt) {k : Nat} (hk : k < l.length) {x : List Rc} (h : tabTo t (l.take k) = some x) : tabTo t (l.take (k + 1)) = putR x (l.getD k []) := by
 rw [List.take_succ_eq_append_getElem hk, tabTo_app, h]
 have e : l.getD k [] = l[k] := by simp [List.getD_eq_getElem?_getD, hk]
 rw [e]
 show (putR x l[k]).bind (fun y => tabTo y []) = _
 cases putR x l[k] <;> rfl
theorem tabTo_none (t : List Rc) (l : List Txt) (k : Nat) (h : tabTo t (l.take k) = none) : tabTo t l = none := by
 rw [← List.take_append_drop k l, tabTo_app, h]
 rfl
def WithOut (w : World) (B : Nat) (x : Option (List Rc)) (e : Ending) (w' : World) : Prop := ∃ A' c', e = .returned (.tuple #[.slice A' (ansL x).length c', .int .i64 (ansE x)]) ∧ OwnRecs w' w.heap.size A' (ansL x).length c' (ansL x) ∧ w.grownBy w' (some B)
theorem pwith_any (B n : Nat) (t : List Rc) (A : Option Addr) (m c : Nat) (l : List Txt) (w : World) (ht : mayTab t) (h : TabAt w B n t) (hn : n ≤ 1000) (hl : Texts w A m c l) (hm : m ≤ 1000) (hs : ShortT l m) :
  Calls Tryz.prog 68 #[.map (some B), .slice A m c] w (WithOut w B (tabTo t l)) := by
 have hlen := hl.len
 have HL := Lh hl
 have HT := Lh h
 have SH := Lh hs
 have ST := Lh (fun k (hk : k < m) x => tabTo_step t l (k := k) (by rw [hlen]; exact hk) (x := x))
 have NO := Lh (tabTo_none t l)
 have ALL := Lh (show tabTo t (l.take m) = tabTo t l by rw [← hlen, List.take_length])
 have MAY := Lh (fun k x (h : tabTo t (l.take k) = some x) => tabTo_may ht h)
 have T0 := Lh (show tabTo t (l.take 0) = some t from rfl)
 clear hl hlen ht h hs
 unfold WithOut
 obtain ⟨R, hR⟩ : ∃ R, R = tabTo t l := ⟨_, rfl⟩
 rw [← hR] at NO ALL ⊢
 clear hR
 go_enter Tryz.func68, Tryz.ntmps68
 go_wp2
 go_loopw [10] (fun i wr => ∃ (k : Nat) (x : List Rc), k ≤ m ∧ i = .int .i64 k ∧ tabTo t (l.take k) = some x ∧ TabAt wr B (n + k) x ∧ w.grownBy wr (some B)) (fun i _ => m - (intOf i).toNat)
 case atStart => exact ⟨0, t, Nat.zero_le _, rfl, T0.out, HT.out, grownBy_refl _ _⟩
 case round =>
  obtain ⟨k, x, hk, rfl, hx, hT, hg⟩ := hrel
  by_cases hkn : k < m
  ·have hTX := Texts.turned HT.out hg HL.out
   obtain ⟨b, o, Ai, ni, ci, rfl, hlt, hc, ha⟩ := hTX.at_ k hkn
   have hby := HL.out.byte_at k
   have hst := ST.out k hkn x hx
   have hmx := MAY.out k x hx
   rw [show putR x (l.getD k []) = putN x (l.getD k []) from if_pos hmx] at hst
   have hsh := SH.out k hkn
   rw [ha.len] at hsh
   have PU := pput_any B (n + k) x Ai ni ci (l.getD k []) wr hmx hT (by omega) ha hby (by omega)
   have G := Lh hg
   have HC := Lh hc
   rcases hy : putN x (l.getD k []) with _ | z
   ·rw [hy] at PU hst
    have PU := Lh PU
    have HNO := Lh (NO.out _ hst)
    clear hy hx hT hg ha hby hst hmx hsh ST NO ALL MAY HL HT SH T0 hTX
    go_wp2_with fail
    refine PU.out.mono ?_
    rintro e w2 ⟨rfl, _, hg2⟩
    have G2 := Lh (grownBy_trans G.out hg2)
    clear hg2 hc HC
    go_wp2
    go_ret2
    rw [HNO.out]
    exact ⟨none, 0, rfl, OwnRecs.nil _ _, G2.out⟩
   ·rw [hy] at PU hst
    have PU := Lh PU
    have HST := Lh hst
    clear hy hx hT hg ha hby hst hmx hsh ST NO ALL MAY HL HT SH T0 hTX
    go_wp2_with fail
    refine PU.out.mono ?_
    rintro e w2 ⟨rfl, hT2, hg2⟩
    have G2 := Lh (grownBy_trans G.out hg2)
    have T2 := Lh (show TabAt w2 B (n + (k + 1)) z from hT2)
    clear hg2 hT2 hc HC
    go_wp2
    go_roundw
    case rel => exact ⟨k + 1, z, by omega, by go_num, HST.out, T2.out, G2.out⟩
    case measure => simp [intOf]; omega
  ·obtain rfl : k = m := by omega
   have hmx := MAY.out k x hx
   rw [ALL.out] at hx
   have SO := Lh (psorted_any B (n + k) x wr hmx hT)
   have HX := Lh hx
   have G := Lh hg
   clear hx hg hT hmx
   go_wp2_with fail
   refine SO.out.mono ?_
   rintro e w2 ⟨A2, c2, rfl, hO, hb⟩
   have O := Lh (hO.lower G.out.size)
   have G2 := Lh (grownBy_trans G.out (below_grown11 hb _))
   clear hO hb
   go_wp2
   go_ret2
   rw [HX.out]
   exact ⟨A2, c2, rfl, O.out, G2.out⟩
end Go.Proofs.YtifgcfepbenpjaaGreat
