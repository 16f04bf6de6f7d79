/- Layer 11: the program's sorted: the map gone through in whatever order, and sorted. -/
import Derived.Test.YthoflogegopikaaRecS3
namespace Go.Proofs.Ythoflogegopikaa
open Go.RowKit Go.Maps
set_option linter.unusedVariables false

theorem ranges_below {w w' : World} {P : Program} {k : TypeId} {R : Value → Option (DataW Unit × List MemPlace)} {b r n base : Nat} {D : DataW Unit} {left : Lit → Bool} {cnt : Nat} (h : w.ranges P k R b r n D left cnt) (hb : Below base w w') (h1 : b < base) (h2 : r < base) : w'.ranges P k R b r n D left cnt := by
  obtain ⟨es, clock, since, seen, c0, hb0, F, hs, hD, hr, rest⟩ := h
  exact ⟨es, clock, since, seen, c0, (hb.block b h1).trans hb0, F, hs, hD, (hb.block r h2).trans hr, rest⟩
theorem OwnRecs.under {w w' : World} {base : Nat} {A : Option Addr} {n c : Nat} {L : List Rc} (h : OwnRecs w base A n c L) {row : Option Nat} (hg : w.grownBy w' row) (hr : ∀ g, row = some g → g < base) : OwnRecs w' base A n c L := ⟨owns_under h.1 hg hr, h.2.1, h.2.2⟩

set_option maxRecDepth 100000 in
set_option maxHeartbeats 1600000 in
theorem psorted_any (B n : Nat) (t : List Rc) (w : World) (ht : mayTab t) (h : TabAt w B n t) :
    Calls Try.prog 49 #[.map (some B)] w fun e w' => ∃ A' c', e = .returned (.slice A' t.length c') ∧ OwnRecs w' w.heap.size A' t.length c' t ∧ Below w.heap.size w w' := by
  have hBlt := h.lt
  obtain ⟨D, hown, hD⟩ := h
  have HD := Lib.hid hD
  have HM := Lib.hid ht
  clear hD ht
  go_enter Try.func49, Try.ntmps49
  go_wp2_with (first
    | (at_range; refine wpList_range_own _ rfl _ 66 rfl 3 24 key11 Try.underlying66 recElem B n D rfl hown ?_; intro w0 hrg0 hg0 hs0)
    | go_in)
  go_frame
  go_loopw [3] (fun v wr => ∃ (left : Lit → Bool) (cnt : Nat) (M : List Rc) (A' : Option Addr) (c' : Nat), wr.ranges Try.prog 3 recElem B w.heap.size n D left cnt ∧ Coll t left M ∧ v = .slice A' M.length c' ∧ OwnRecs wr (w.heap.size + 1) A' M.length c' M ∧ Below w.heap.size w wr ∧ w.heap.size + 1 ≤ wr.heap.size) (fun _ wr => wr.rangeLeft B w.heap.size)
  case atStart => exact ⟨_, _, [], none, 0, hrg0, Coll.start (mayTab_ne HM.out) HD.out, rfl, OwnRecs.nil _ _, (Below.refl _ _).grown hg0 (Nat.le_refl _) (fun j hj => by cases hj), by omega⟩
  case round =>
    clear hown hrg0 hg0 hs0
    obtain ⟨left, cnt, M, A', c', hrg, hC, rfl, hown, hbw, hsz⟩ := hrel
    have hmt := (mayTab_iff t).1 HM.out
    have hM3 : M.length ≤ 3 := three_of hC.2.1 fun r hr => ⟨(hmt.1 r (hC.1 r hr)).1.1, (hmt.1 r (hC.1 r hr)).1.2.1⟩
    have OW := Lib.hid hown
    have BW := Lib.hid hbw
    have CC := Lib.hid hC
    have HSZ := Lib.hid hsz
    clear hown hbw hC hmt hsz
    obtain ⟨m, hm⟩ : ∃ m, m = M.length := ⟨_, rfl⟩
    rw [← hm] at OW hM3 ⊢
    have HMM := Lib.hid hm
    clear hm
    go_wp2_with (first
      | (at_next; refine wpList_next_ranges _ rfl _ rfl 3 key11 recElem (Value.int .i64) recV (fun key kl hk => by obtain ⟨x, hx, _⟩ := keyOf_int_inv Try.underlying3 hk; exact ⟨x, hx⟩) (fun v y hv => by obtain ⟨r, hr, _⟩ := recElem_inv hv; exact ⟨r, hr⟩) B w.heap.size n D left cnt rfl hrg ?_ ?_)
      | go_in)
    · intro hc0 hl0
      have SO := Lib.hid (fun wx (hx : OwnRecs wx (w.heap.size + 1) A' m c' M) (hz : w.heap.size + 1 ≤ wx.heap.size) => psortf_any A' m c' (w.heap.size + 1) M wx hx hz hM3)
      unfold SortOut at SO
      have IT := Lib.hid (iso_tab HM.out CC.out.2.1 (CC.out.done hl0))
      clear hrg hl0 hc0
      go_wp2_with fail
      refine (SO.out _ OW.out HSZ.out).mono ?_
      rintro e w2 ⟨rfl, h2, h3⟩
      have H2 := Lib.hid h2
      have B2 := Lib.hid (BW.out.trans (h3.mono (Nat.le_succ _)))
      clear h2 h3
      go_wp2
      go_ret
      have it := IT.out
      have o2 := H2.out
      rw [← HMM.out] at it
      rw [it] at o2
      have hl : t.length = m := by rw [← it, isoR_length]; exact HMM.out.symm
      rw [hl]
      exact ⟨A', c', rfl, o2.lower (Nat.le_succ _), B2.out⟩
    · intro x c kl yd yp w2 cnt2 hkey hlk hv hat hrg2 hlt hg2 hs2 hen
      obtain ⟨x', ex, rfl, _⟩ := keyOf_int_inv Try.underlying3 hkey
      obtain rfl : x = x' := by injection ex
      obtain ⟨c', ec, hcR, ey⟩ := recElem_inv hv
      have ecc := recV_inj ec
      subst ecc
      have hy : yd = recD c := (Prod.mk.inj ey).1
      have hh := has_true_of_atKey hat
      rw [HD.out.1 x] at hh
      obtain ⟨s, hs⟩ := Option.isSome_iff_exists.1 hh
      have hsc : s = c := recD_inj (by rw [← HD.out.2 x s hs (recD c), hat, hy])
      subst hsc
      obtain ⟨hmem, hpx⟩ := fR_some hs
      subst hpx
      have HRG := Lib.hid hrg
      have LT := Lib.hid hlt
      have HC2 := Lib.hid (CC.out.step (mayTab_ne HM.out) hmem hlk)
      have hsz2 : w.heap.size + 1 ≤ w2.heap.size := by rw [hs2]; exact HSZ.out
      have OW2 := OW.out.under hg2 (fun g hg => by injection hg with hg; omega)
      have BW2 := BW.out.grown hg2 (Nat.le_trans (Nat.le_succ _) HSZ.out) (fun k hk => by injection hk with hk; omega)
      obtain ⟨xb, hbb⟩ := rec_box w2 s
      have hc0 := xb.rec
      have OW3 := Lib.hid (OW2.below hbb)
      have BW3 := Lib.hid (BW2.trans (hbb.mono BW2.size))
      have HRG3 := Lib.hid (hrg2.alloc (.cells #[.int .i64 s.p, .int .u32 s.b, .int .u32 s.e, .int .i64 s.l, .int .u8 s.h, .int .i64 s.f, .bool s.q, .bool s.a] 24))
      have SZ3 := Lib.hid (Nat.le_trans hsz2 hbb.size)
      have HR := Lib.hid hcR
      obtain ⟨c0, c1, c2, c3, c4, c5, c6, c7⟩ := hc0
      clear hkey hlk hv hat hrg2 hlt hg2 hs2 ey ec hy hh hs hmem hrg OW2 BW2 hbb xb hsz2 hcR ex OW BW CC
      go_wp2_with (first
        | (at_builtin; refine wpList_recs (w2.alloc (.cells #[.int .i64 s.p, .int .u32 s.b, .int .u32 s.e, .int .i64 s.l, .int .u8 s.h, .int .i64 s.f, .bool s.q, .bool s.a] 24)) (w2.alloc (.cells #[.int .i64 s.p, .int .u32 s.b, .int .u32 s.e, .int .i64 s.l, .int .u8 s.h, .int .i64 s.f, .bool s.q, .bool s.a] 24)) rfl (.tmp 12) (.tmp 14) rfl (w.heap.size + 1) A' m c' M rfl OW3.out s HR.out (by rw [World.size_alloc]; rfl) (by omega) (Below.refl _ _) SZ3.out ?_; intro A2 c2' w5 hO5 hB5; have O5 := Lib.hid hO5; have B5 := Lib.hid hB5; clear hO5 hB5)
        | go_in)
      go_roundw
      case rel =>
        have hml : (M ++ [s]).length = m + 1 := by rw [List.length_append, ← HMM.out]; rfl
        refine ⟨_, cnt2, M ++ [s], A2, c2', ranges_below HRG3.out B5.out (by omega) (Nat.lt_succ_self _), HC2.out, by rw [hml], by rw [hml]; exact O5.out, BW3.out.trans (B5.out.mono (Nat.le_succ _)), Nat.le_trans SZ3.out B5.out.size⟩
      case measure => rw [(ranges_below HRG3.out B5.out (by omega) (Nat.lt_succ_self _)).left_eq, HRG.out.left_eq]; exact LT.out
end Go.Proofs.Ythoflogegopikaa
