/- Layer 11: the program's Table, Put, Notes, Find; and so RecDoes. -/
import Derived.Test.YthoflogegopikaaRecT2
namespace Go.Proofs.Ythoflogegopikaa
open Go.RowKit Go.Maps
set_option linter.unusedVariables false

theorem ptable11_any (A : Option Addr) (n c : Nat) (l : List Txt) (w : World) (hl : Texts w A n c l) (hn : n ≤ 1000) (hs : ShortT l n) :
    Calls Try.prog 11 #[.slice A n c] w (PutOut w (tabR l)) := by
  have hmm := @run_makeMap Try.prog
  have hb : Below w.heap.size w (w.alloc (.map #[] 0)) := (Below.refl _ _).alloc (Nat.le_refl _) _
  have W := Lib.hid (pwith_any w.heap.size 0 [] A n c l (w.alloc (.map #[] 0)) (by trivial) (TabAt.made w) (by omega) (hl.below hb) hn hs)
  have B := Lib.hid hb
  unfold PutOut
  unfold WithOut at W
  rw [show tabTo [] l = tabR l from rfl] at W
  clear hl hs hb
  go_enter Try.func11, Try.ntmps11
  go_wp2_with fail
  refine W.out.mono ?_
  rintro e w1 ⟨A1, c1, rfl, hO, hg⟩
  have O := Lib.hid (hO.lower B.out.size)
  have B1 := Lib.hid (B.out.grown hg B.out.size (fun k hk => by injection hk with hk; omega))
  clear hO hg hmm
  go_wp2
  go_ret2
  exact ⟨A1, c1, rfl, O.out, B1.out⟩
theorem tabTo_lit (t : List Rc) (b : Txt) : tabTo t [b] = putR t b := by
  show (putR t b).bind (fun x => tabTo x []) = _
  cases putR t b <;> rfl
theorem pput11_any (A : Option Addr) (n c : Nat) (t : List Rc) (A' : Option Addr) (n' c' : Nat) (b : Txt) (w : World) (ht : Recs w A n c t) (hn : n ≤ 1000) (hb : Arg w .u8 A' n' c' b) (hby : ∀ z ∈ b, isByte z) (hn' : n' ≤ 100) :
    Calls Try.prog 21 #[.slice A n c, .slice A' n' c'] w (PutOut w (putR t b)) := by
  have T := Lib.hid (ptableof_any A n c t w ht hn)
  have HB := Lib.hid hb
  have BY := Lib.hid hby
  have hlen := hb.len
  unfold OfTab at T
  unfold PutOut
  have WI := Lib.hid (fun (B : Nat) w1 (hm : mayTab t) (hT : TabAt w1 B n t) (hx : Arg w1 .u8 A' n' c' b) => pwith_any B n t (some ⟨w1.heap.size, 0, none⟩) 1 1 [b] (w1.alloc (.cells #[.slice A' n' c'] 26)) hm (hT.below ((Below.refl _ _).alloc (Nat.le_refl _) _)) hn (texts_lit1 hx hby) (by decide) (fun y hy => by obtain rfl : y = 0 := (by omega); show b.length ≤ 100; omega))
  unfold WithOut at WI
  rw [tabTo_lit] at WI
  clear ht hb hby hlen
  go_enter Try.func21, Try.ntmps21
  go_wp2_with fail
  refine T.out.mono ?_
  rintro e w1 ⟨⟨hm, B, rfl, hT, hB⟩ | ⟨hm, rfl⟩, hb1⟩
  · have B1 := Lib.hid hb1
    have W := Lib.hid (WI.out B w1 hm hT (HB.out.below hb1))
    have HBB := Lib.hid hB
    clear hm hT hb1 hB WI
    go_wp2_with fail
    refine W.out.mono ?_
    rintro e w2 ⟨A2, c2, rfl, hO, hg⟩
    have hbl : Below w.heap.size w (w1.alloc (.cells #[.slice A' n' c'] 26)) := B1.out.alloc B1.out.size _
    have O := Lib.hid (hO.lower hbl.size)
    have B2 := Lib.hid (hbl.grown hg hbl.size (fun k hk => by injection hk with hk; have := HBB.out; omega))
    clear hO hg hbl
    go_wp2
    go_ret2
    exact ⟨A2, c2, rfl, O.out, B2.out⟩
  · have HX := Lib.hid (show putR t b = none from if_neg hm)
    have B1 := Lib.hid hb1
    clear hm hb1 WI
    go_wp2
    go_ret2
    rw [HX.out]
    exact ⟨none, 0, rfl, OwnRecs.nil _ _, B1.out⟩
set_option maxRecDepth 100000 in
set_option maxHeartbeats 3200000 in
theorem pnotes11_any (A : Option Addr) (n c : Nat) (t : List Rc) (w : World) (ht : Recs w A n c t) (hn : n ≤ 1000) :
    Calls Try.prog 23 #[.slice A n c] w (NotesOut w (rnL t) (rnE t)) := by
  obtain ⟨i1, hi1, hy0, hy1, hy2⟩ := info_parts texts_info
  have hml : (1000 : Nat) ≤ maxLen := by decide
  have T := Lib.hid (ptableof_any A n c t w ht hn)
  have HT := Lib.hid ht
  have hlen := ht.len
  unfold OfTab at T
  unfold NotesOut
  by_cases hm : mayTab t
  · rw [show rnL t = t.map recT from if_pos hm, show rnE t = 0 from if_pos hm, List.length_map, hlen]
    have MAY := Lib.hid (fun k (hk : k < n) => ((mayTab_idx t).1 hm k (by rw [hlen]; exact hk)).1)
    have TF := Lib.hid (show (t.map recT).take n = t.map recT by rw [← hlen, ← List.length_map (f := recT), List.take_length])
    have TS := Lib.hid (fun k (hk : k < n) => show (t.map recT).take (k + 1) = (t.map recT).take k ++ [recT (t.getD k zR)] by
      rw [List.take_succ_eq_append_getElem (by rw [List.length_map, hlen]; exact hk)]
      simp [List.getD_eq_getElem?_getD, show k < t.length by rw [hlen]; exact hk])
    obtain ⟨Z, hZ⟩ : ∃ Z, Z = t.map recT := ⟨_, rfl⟩
    rw [← hZ] at TF TS ⊢
    have HM := Lib.hid hm
    clear ht hm hlen hZ
    go_enter Try.func23, Try.ntmps23
    go_wp2_with fail
    refine T.out.mono ?_
    rintro e w1 ⟨⟨hm, B, rfl, hT, hB⟩ | ⟨hm, rfl⟩, hb1⟩
    · have B1 := Lib.hid hb1
      clear hm hT hB hb1 T
      go_wp2
      go_loopw [6, 21] (fun v i wr => ∃ k : Nat, k ≤ n ∧ i = .int .i64 k ∧ (∃ A' c', v = .slice A' k c' ∧ OwnTexts wr w.heap.size A' k c' (Z.take k)) ∧ Below w.heap.size w wr) (fun _ i _ => n - (intOf i).toNat)
      case atStart => exact ⟨0, Nat.zero_le _, rfl, ⟨none, 0, rfl, OwnTexts.nil _ _⟩, B1.out⟩
      case round =>
        clear B1
        obtain ⟨k, hk, rfl, ⟨A1, c1, rfl, hown⟩, hbel⟩ := hrel
        by_cases hkn : k < n
        · have hki : (k : Int) < (n : Int) := by omega
          have HW := HT.out.below hbel
          obtain ⟨b, o, rfl, hlt, d0, d1, d2, d3, d4, d5, d6, d7⟩ := HW.row hkn
          have his := HW.is_at hkn
          have hmy := MAY.out k hkn
          have hst := TS.out k hkn
          obtain ⟨r, hr⟩ : ∃ r, r = t.getD k zR := ⟨_, rfl⟩
          rw [← hr] at d0 d1 d2 d3 d4 d5 d6 d7 his hmy hst
          obtain ⟨Q, hQ⟩ : ∃ Q, Q = Z.take k := ⟨_, rfl⟩
          rw [← hQ] at hown hst
          have HST := Lib.hid hst
          have NT := Lib.hid (show ∀ wx, Calls Try.prog 14 #[recV r] wx fun e w' => ∃ A c, e = .returned (.tuple #[.slice A 14 c, .int .i64 0]) ∧ w'.ownsRow wx.heap.size 5 1 (.slice A 14 c) 14 (ints .u8 (recT r)) ∧ Below wx.heap.size wx w' from fun wx => by
            have h := pnote11_any r wx his
            unfold RowOut at h
            rw [show ntB r = recT r from if_pos hmy, show rcE r = 0 from if_pos hmy, recT_length] at h
            exact h)
          obtain ⟨x, hbx⟩ := rec_box wr r
          obtain ⟨c0, c1', c2', c3, c4, c5, c6, c7⟩ := x.rec
          have O := Lib.hid (hown.below hbx)
          have B := Lib.hid (hbel.trans (hbx.mono hbel.size))
          clear hr hQ hown hbel his hmy hst HW x hbx
          go_wp2_with fail
          refine (NT.out _).mono ?_
          rintro e w2 ⟨A2, c2, rfl, hown2, hb2⟩
          have O2 := Lib.hid (owns_base hown2 B.out.size)
          have O1 := Lib.hid (O.out.below hb2)
          have B2 := Lib.hid (B.out.trans (hb2.mono B.out.size))
          clear hown2 hb2 d0 d1 d2 d3 d4 d5 d6 d7 c0 c1' c2' c3 c4 c5 c6 c7
          go_wp2_with (at_builtin; (refine wpList_text w w2 rfl (.tmp 30) (.tmp 32) _ rfl i1 _ Try.underlying33 hi1 hy0 hy1 hy2 rfl w.heap.size A1 k c1 Q rfl O1.out A2 14 c2 (recT r) (recT_byte r) O2.out rfl (by omega) (by omega) B2.out (Nat.le_refl _) ?_); intro A3 c3 w3 hown3 hbel3; have O3 := Lib.hid hown3; have B3 := Lib.hid hbel3; clear hown3 hbel3)
          go_roundw
          case rel => exact ⟨k + 1, by omega, by go_num, ⟨A3, c3, rfl, by rw [HST.out]; exact O3.out⟩, B3.out⟩
          case measure => simp [intOf]; omega
        · obtain rfl : k = n := by omega
          rw [TF.out] at hown
          have O := Lib.hid hown
          have B := Lib.hid hbel
          clear hown hbel
          go_wp2
          go_ret2
          exact ⟨A1, c1, rfl, O.out, B.out⟩
    · exact absurd HM.out hm
  · rw [show rnL t = [] from if_neg hm, show rnE t = 110 from if_neg hm]
    have HM := Lib.hid hm
    clear ht hm hlen
    go_enter Try.func23, Try.ntmps23
    go_wp2_with fail
    refine T.out.mono ?_
    rintro e w1 ⟨⟨hm, B, rfl, hT, hB⟩ | ⟨hm, rfl⟩, hb1⟩
    · exact absurd hm HM.out
    · have B1 := Lib.hid hb1
      clear hm hb1
      go_wp2
      go_ret2
      exact ⟨none, 0, rfl, OwnTexts.nil _ _, B1.out⟩
set_option maxRecDepth 100000 in
set_option maxHeartbeats 1600000 in
theorem pfind11_any (A : Option Addr) (n c : Nat) (t : List Rc) (p : Int) (w : World) (ht : Recs w A n c t) (hn : n ≤ 1000) (hp : (Lit.int .i64 p).wf = true) :
    Calls Try.prog 25 #[.slice A n c, .int .i64 p] w (FindOut w t p) := by
  unfold FindOut
  obtain ⟨x, hbel⟩ := rec_box w zR
  have hbel : Below w.heap.size w (w.alloc (.cells #[.int .i64 0, .int .u32 0, .int .u32 0, .int .i64 0, .int .u8 0, .int .i64 0, .bool false, .bool false] 24)) := hbel
  change Blk (w.alloc (.cells #[.int .i64 0, .int .u32 0, .int .u32 0, .int .i64 0, .int .u8 0, .int .i64 0, .bool false, .bool false] 24)) _ _ _ at x
  obtain ⟨v1, hv1⟩ : ∃ x, x = w.alloc (.cells #[.int .i64 0, .int .u32 0, .int .u32 0, .int .i64 0, .int .u8 0, .int .i64 0, .bool false, .bool false] 24) := ⟨_, rfl⟩
  rw [← hv1] at x hbel
  have X := Lib.hid x
  have hlt := x.lt
  have B := Lib.hid hbel
  have T := Lib.hid (ptableof_any A n c t v1 (ht.below hbel) hn)
  unfold OfTab at T
  have LK := Lib.hid (fun wx (M : Option Nat) (t' : List Rc) (h : (∃ B, M = some B ∧ TabAt wx B n t') ∨ (M = none ∧ t' = [])) => run_tab_look wx M n t' h p hp)
  clear x hbel ht hp
  go_enter Try.func25, Try.ntmps25
  go_wp2_with fail
  rw [← hv1]
  clear hv1
  refine T.out.mono ?_
  rintro e w1 ⟨h, hb1⟩
  obtain ⟨M, E, t', rfl, hML, hft⟩ : ∃ (M : Option Nat) (E : Int) (t' : List Rc), e = .returned (.tuple #[.map M, .int .i64 E]) ∧ ((∃ B, M = some B ∧ TabAt w1 B n t') ∨ (M = none ∧ t' = [])) ∧ fdO t p = fR t' p := by
    rcases h with ⟨hm, B, rfl, hT, _⟩ | ⟨hm, rfl⟩
    · exact ⟨some B, 0, t, rfl, .inl ⟨B, rfl, hT⟩, if_pos hm⟩
    · exact ⟨none, 110, [], rfl, .inr ⟨rfl, rfl⟩, if_neg hm⟩
  have hlk := LK.out w1 M t' hML
  rw [← hft] at hlk
  obtain ⟨s, hs⟩ : ∃ s, s = (fdO t p).getD zR := ⟨_, rfl⟩
  obtain ⟨q, hq⟩ : ∃ q, q = (fdO t p).isSome := ⟨_, rfl⟩
  rw [← hs, ← hq] at hlk
  have HS := Lib.hid (show fdR t p = s from hs.symm)
  have HQ := Lib.hid (show fdB t p = q from hq.symm)
  have X1 := X.out.below hb1 hlt
  have B1 := B.out.trans (hb1.mono B.out.size)
  obtain ⟨y, hby⟩ := rec_box w1 s
  have X2 := Lib.hid (X1.below hby X1.lt)
  have B2 := Lib.hid (B1.trans (hby.mono B1.size))
  obtain ⟨w2, hw2⟩ : ∃ x, x = w1.alloc (.cells #[.int .i64 s.p, .int .u32 s.b, .int .u32 s.e, .int .i64 s.l, .int .u8 s.h, .int .i64 s.f, .bool s.q, .bool s.a] 24) := ⟨_, rfl⟩
  have hy := y
  rw [← hw2] at hy X2 B2
  obtain ⟨c0, c1, c2, c3, c4, c5, c6, c7⟩ := hy.rec
  have hz : Blk (w2.setRow w.heap.size (recL s).toArray) w.heap.size 24 (recL s) := setRow_heap w2 w.heap.size _ _ _ _ X2.out
  have BF := Lib.hid (below_setRow B2.out (Nat.le_refl _) (recL s).toArray)
  clear h hML hft hs hq X1 B1 y hby hy hb1 LK T X B
  go_upto_region 3 with fail
  rw [← hw2]
  clear hw2 hlk
  go_wp2_with (refine wpList_store_row (o := ⟨none, .store 24 (.tmp 4) (.tmp 21), _, _, _, _⟩) rfl 24 (.tmp 4) (.tmp 21) rfl w.heap.size (recL s).toArray rfl rfl 24 _ X2.out (by kernel_rfl) rfl (by simp [recL, Value.oneCell']) ?_)
  obtain ⟨w5, hw5⟩ : ∃ x, x = w2.setRow w.heap.size (recL s).toArray := ⟨_, rfl⟩
  rw [← hw5] at hz BF
  rw [← hw5]
  clear hw5
  obtain ⟨z0, z1, z2, z3, z4, z5, z6, z7⟩ := Blk.rec (r := s) hz
  refine bodyPost_ret (v := .tuple #[recV s, .bool q]) ?_ rfl ⟨by rw [HS.out, HQ.out], BF.out⟩
  simp [results, Try.f25, go_sem, z0, z1, z2, z3, z4, z5, z6, z7]
/-- What the program's calls do. -/
theorem rec_does : RecDoes where
  check r w hr := pcheck11_any r w hr
  note r w hr := pnote11_any r w hr
  gone k w := pgone11_any k w
  table A n c l w h1 h2 h3 := ptable11_any A n c l w h1 h2 h3
  put A n c t A' n' c' b w h1 h2 h3 h4 h5 := pput11_any A n c t A' n' c' b w h1 (by omega) h3 h4 h5
  notes A n c t w h1 h2 := pnotes11_any A n c t w h1 (by omega)
  find A n c t p w h1 h2 h3 := pfind11_any A n c t p w h1 (by omega) h3
end Go.Proofs.Ythoflogegopikaa
