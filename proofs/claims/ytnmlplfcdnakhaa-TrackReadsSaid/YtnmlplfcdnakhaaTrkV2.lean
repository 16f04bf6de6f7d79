/- Layer 8: the document's Volume and SameAll; texts of the call's own that are written over. -/
import Derived.Test.YtnmlplfcdnakhaaTrkV
import Derived.Test.YtnmlplfcdnakhaaTrkR2
import Derived.Test.YtnmlplfcdnakhaaDiskSp
namespace Go.Proofs.Ytnmlplfcdnakhaa
open Go.RowKit
set_option linter.unusedVariables false

theorem tvL_succ (P T A : Int) (S : List Sec) (C : List Pnd) (p : Int) (k : Nat) : tvL P T A S C p (k + 1) = tvL P T A S C p k ++ [tkB S C (atT P T A p k)] := by
  unfold tvL; rw [List.range_succ, List.map_append]; rfl
theorem tvL_len (P T A : Int) (S : List Sec) (C : List Pnd) (p : Int) (k : Nat) : (tvL P T A S C p k).length = k := by simp [tvL]

set_option maxRecDepth 100000 in
set_option maxHeartbeats 6400000 in
theorem rvolume_yes (P A M W Q : Int) (N : Nat) (D : Option Addr) (n c : Nat) (D' : Option Addr) (n' c' : Nat) (S : List Sec) (C : List Pnd) (p : Int) (w : World) (hq : Dsk w D n c D' n' c' S C) (hs : SmallD S C) (hm : mayT P N A M W Q S C) (hi : isT P N p 0) :
    Calls Try.prog 68 #[cfgV P N A M W Q, diskV D n c D' n' c', .int .i64 p] w (TxtsOut w (tvB P N A M W Q S C p) (tvE P N A M W Q S C p)) := by
  have hN : N ≤ 16 := by have := hm.1.2.2.2.1; omega
  obtain ⟨x, hbel⟩ := TBox.new P N A M W Q hq
  obtain ⟨w0, hw0⟩ : ∃ x : World, x = (w.alloc (.cells #[.int .i64 P, .int .i64 N, .int .i64 A, .int .i64 M, .int .i64 W, .int .i64 Q] 74)).alloc (.cells #[.slice D n c, .slice D' n' c'] 32) := ⟨_, rfl⟩
  have hsz : w0.heap.size = w.heap.size + 1 + 1 := by rw [hw0]; simp
  rw [← hw0] at x hbel
  have X := Lib.hid x
  have B := Lib.hid hbel
  obtain ⟨c0, c1, c2, c3, c4, c5, d0, d1⟩ := x.cells
  have h0 : taE P N A M W Q S C p 0 = 0 := by unfold taE; rw [if_pos hm, if_pos hi]
  have AK := Lib.hid (fun wx hx => rasked_any P N A M W Q D n c D' n' c' S C p 0 wx hx hs)
  rw [h0] at AK
  have GT := Lib.hid (fun (k : Nat) (hk : k < N) wx hx => rgotT_any P N A M W Q D n c D' n' c' S C p k wx hx hs hm (isT_row hi hk))
  have OR := Lib.hid (fun k : Nat => tkE_or S C (atT P N A p k))
  have VB := Lib.hid (fun k : Nat => tkB_byte (S := S) (C := C) hq.secs.byte hq.pnds.byte (atT P N A p k))
  have FI := Lib.hid (fun (k : Nat) (hk : k < N) (h : tkE S C (atT P N A p k) ≠ 0) => (show tvE P N A M W Q S C p = 20 ∧ tvB P N A M W Q S C p = [] from by
    have e : tvE P N A M W Q S C p = 20 := by
      unfold tvE
      rw [if_pos h0, if_neg (fun hok : tvOk P N A S C p (N : Int).toNat => h (hok k (by simpa using hk)))]
    exact ⟨e, by unfold tvB; rw [e, if_neg (by decide)]⟩))
  have AL := Lib.hid (fun (h : ∀ k : Nat, k < N → tkE S C (atT P N A p k) = 0) => (show tvE P N A M W Q S C p = 0 ∧ tvB P N A M W Q S C p = tvL P N A S C p N from by
    have e : tvE P N A M W Q S C p = 0 := by
      unfold tvE
      rw [if_pos h0, if_pos (show tvOk P N A S C p (N : Int).toNat from fun k hk => h k (by simpa using hk))]
    exact ⟨e, by unfold tvB; rw [if_pos e, Int.toNat_natCast]⟩))
  unfold RGot at GT
  unfold TxtsOut
  obtain ⟨E, hE⟩ : ∃ E, E = tvE P N A M W Q S C p := ⟨_, rfl⟩
  obtain ⟨L, hL⟩ : ∃ E, E = tvB P N A M W Q S C p := ⟨_, rfl⟩
  rw [← hE, ← hL] at FI AL ⊢
  obtain ⟨i1, hi1, hj0, hj1, hj2⟩ := info_parts texts_info
  clear hq hs x hbel hm hi h0 hE hL hsz
  go_enter Try.func68, Try.ntmps68
  go_wp2_with fail
  rw [← hw0]
  clear hw0
  refine (AK.out _ X.out.dsk.dsk).mono ?_
  rintro e w2 ⟨rfl, hb⟩
  have B := Lib.hid (B.out.trans (hb.mono B.out.size))
  have X := Lib.hid (X.out.below hb)
  clear hb c0 c1 c2 c3 c4 c5 d0 d1 AK
  go_wp2
  go_loopw [9, 10] (fun r i wr => ∃ (k : Nat) (A' : Option Addr) (c' : Nat), k ≤ N ∧ i = .int .i64 k ∧ r = .slice A' k c' ∧ (∀ j : Nat, j < k → tkE S C (atT P N A p j) = 0) ∧ OwnTexts wr w2.heap.size A' k c' (tvL P N A S C p k) ∧ Below w2.heap.size w2 wr) (fun _ i _ => N - (intOf i).toNat)
  case atStart => exact ⟨0, none, 0, Nat.zero_le _, rfl, rfl, fun j hj => absurd hj (Nat.not_lt_zero _), OwnTexts.nil _ _, Below.refl _ _⟩
  case round =>
    obtain ⟨k, A1, ca, hk, rfl, rfl, hall, hown, hbel⟩ := hrel
    have XR := Lib.hid (X.out.below hbel)
    obtain ⟨c0, c1, c2, c3, c4, c5, d0, d1⟩ := XR.out.cells
    by_cases hkN : k < N
    · have hki : (k : Int) < (N : Int) := by omega
      have O := Lib.hid hown
      have B2 := Lib.hid hbel
      have HA := Lib.hid hall
      have G := Lib.hid (GT.out k hkN wr XR.out.dsk.dsk)
      have hor := OR.out k
      have hvb := VB.out k
      have hfi := FI.out k hkN
      have hsc := tvL_succ P N A S C p k
      obtain ⟨bk, hbk⟩ : ∃ b, b = tkB S C (atT P N A p k) := ⟨_, rfl⟩
      obtain ⟨ek, hek⟩ : ∃ b, b = tkE S C (atT P N A p k) := ⟨_, rfl⟩
      rw [← hbk, ← hek] at G
      rw [← hbk] at hvb hsc
      rw [← hek] at hfi hor
      obtain ⟨mk, hmk⟩ : ∃ b, b = bk.length := ⟨_, rfl⟩
      rw [← hmk] at G
      have HFI := Lib.hid hfi
      have HVB := Lib.hid hvb
      have HSC := Lib.hid hsc
      have HEK := Lib.hid hek
      clear hfi hvb hsc hek hmk hbk hown hbel hall
      rcases hor with rfl | rfl
      · rw [show decide ((0 : Int) = 0) = true from rfl] at G
        go_wp2_with fail
        refine G.out.mono ?_
        rintro e w5 ⟨AO, cO, rfl, hown, hb⟩
        have hsz2 : w2.heap.size ≤ wr.heap.size := B2.out.size
        have O2 := Lib.hid (O.out.below hb)
        have P2 := Lib.hid (owns_base hown hsz2)
        have B3 := Lib.hid (B2.out.trans (hb.mono hsz2))
        have hkl : k + 1 ≤ maxLen := by unfold maxLen; omega
        clear hown hb hsz2 G c0 c1 c2 c3 c4 c5 d0 d1
        go_wp2_with (at_builtin; (refine wpList_text w2 _ rfl (.tmp 36) (.tmp 38) _ rfl i1 _ Try.underlying96 hi1 hj0 hj1 hj2 rfl w2.heap.size A1 k ca (tvL P N A S C p k) rfl O2.out AO mk cO bk HVB.out P2.out rfl hkl (by omega) B3.out (Nat.le_refl _) ?_); intro A3 c3 w3 hO3 hB3; have O3 := Lib.hid hO3; have B4 := Lib.hid hB3; clear hO3 hB3)
        go_roundw
        case rel => exact ⟨k + 1, A3, c3, by omega, by go_num, rfl, fun j hj => by rcases Nat.lt_succ_iff_lt_or_eq.1 hj with h | rfl; exact HA.out j h; exact HEK.out.symm, by rw [HSC.out]; exact O3.out, B4.out⟩
        case measure => simp [intOf]; omega
      · rw [show decide ((20 : Int) = 0) = false from rfl] at G
        obtain ⟨hE, hL⟩ := HFI.out (by decide)
        subst hE
        subst hL
        go_wp2_with fail
        refine G.out.mono ?_
        rintro e w5 ⟨AO, cO, rfl, hown, hb⟩
        have B3 := Lib.hid (B.out.trans ((B2.out.trans (hb.mono B2.out.size)).mono B.out.size))
        clear hown hb G c0 c1 c2 c3 c4 c5 d0 d1
        go_wp2
        go_ret2
        exact ⟨none, 0, rfl, OwnTexts.nil _ _, B3.out⟩
    · obtain rfl : k = N := by omega
      obtain ⟨hE, hL⟩ := AL.out hall
      subst hE
      have O := Lib.hid (hown.lower B.out.size)
      have B2 := Lib.hid (B.out.trans (hbel.mono B.out.size))
      have HL := Lib.hid hL
      clear hown hbel hall hL
      go_wp2
      go_ret2
      refine ⟨A1, ca, by rw [HL.out, tvL_len]; rfl, ?_, B2.out⟩
      rw [HL.out, tvL_len]
      exact O.out

set_option maxRecDepth 100000 in
set_option maxHeartbeats 6400000 in
theorem rvolume_any (P T A M W Q : Int) (D : Option Addr) (n c : Nat) (D' : Option Addr) (n' c' : Nat) (S : List Sec) (C : List Pnd) (p : Int) (w : World) (hq : Dsk w D n c D' n' c' S C) (hs : SmallD S C) :
    Calls Try.prog 68 #[cfgV P T A M W Q, diskV D n c D' n' c', .int .i64 p] w (TxtsOut w (tvB P T A M W Q S C p) (tvE P T A M W Q S C p)) := by
  by_cases h0 : taE P T A M W Q S C p 0 = 0
  · obtain ⟨hm, hi⟩ := taE_zero h0
    obtain ⟨N, rfl⟩ : ∃ N : Nat, T = N := ⟨T.toNat, by have := hm.1.2.2.1; omega⟩
    exact rvolume_yes P A M W Q N D n c D' n' c' S C p w hq hs hm hi
  have e : tvE P T A M W Q S C p = taE P T A M W Q S C p 0 := by unfold tvE; rw [if_neg h0]
  have e2 : tvB P T A M W Q S C p = [] := by unfold tvB; rw [e, if_neg h0]
  rw [e, e2]
  obtain ⟨x, hbel⟩ := TBox.new P T A M W Q hq
  obtain ⟨w0, hw0⟩ : ∃ x : World, x = (w.alloc (.cells #[.int .i64 P, .int .i64 T, .int .i64 A, .int .i64 M, .int .i64 W, .int .i64 Q] 74)).alloc (.cells #[.slice D n c, .slice D' n' c'] 32) := ⟨_, rfl⟩
  have hsz : w0.heap.size = w.heap.size + 1 + 1 := by rw [hw0]; simp
  rw [← hw0] at x hbel
  have X := Lib.hid x
  have B := Lib.hid hbel
  obtain ⟨c0, c1, c2, c3, c4, c5, d0, d1⟩ := x.cells
  have AK := Lib.hid (fun wx hx => rasked_any P T A M W Q D n c D' n' c' S C p 0 wx hx hs)
  obtain ⟨E, hE⟩ : ∃ E, E = taE P T A M W Q S C p 0 := ⟨_, rfl⟩
  rw [← hE] at AK h0 ⊢
  have h1 : (E != 0) = true := bne_iff_ne.2 h0
  have h2 : (E == 0) = false := beq_eq_false_iff_ne.2 h0
  clear hq hs x hbel hsz e e2 h0 hE
  go_enter Try.func68, Try.ntmps68
  go_wp2_with fail
  rw [← hw0]
  clear hw0
  refine (AK.out _ X.out.dsk.dsk).mono ?_
  rintro e w2 ⟨rfl, hb⟩
  have B := Lib.hid (B.out.trans (hb.mono B.out.size))
  clear hb c0 c1 c2 c3 c4 c5 d0 d1 AK
  go_wp2
  go_ret2
  exact ⟨none, 0, rfl, OwnTexts.nil _ _, B.out⟩

set_option maxHeartbeats 3200000 in
theorem samall_yes (A : Option Addr) (n c : Nat) (A' : Option Addr) (c' : Nat) (L : List Txt) (w : World) (h1 : Texts w A n c L) (h2 : Texts w A' n c' L) (hn : n ≤ 1000) :
    Calls Try.prog 69 #[.slice A n c, .slice A' n c'] w fun e w' => e = .returned (.bool true) ∧ Below w.heap.size w w' := by
  have P1 := Lib.hid h1
  have P2 := Lib.hid h2
  clear h1 h2
  have hnn : ((n : Int) != (n : Int)) = false := by simp
  go_enter Try.func69, Try.ntmps69
  go_wp2
  go_loopw [5] (fun i wr => ∃ j : Nat, j ≤ n ∧ i = .int .i64 j ∧ ∃ q, wr = w.drewN q) (fun i _ => n - (intOf i).toNat)
  case atStart => exact ⟨0, Nat.zero_le _, rfl, 0, rfl⟩
  case round =>
    obtain ⟨j, hj, rfl, q, rfl⟩ := hrel
    by_cases hjk : j < n
    · have hji : (j : Int) < (n : Int) := by omega
      obtain ⟨b1, o1, A1, n1, c1, e1, hlt1, hi1, ha1⟩ := P1.out.at_ j hjk
      obtain ⟨b2, o2, A2, n2, c2, e2, hlt2, hi2, ha2⟩ := P2.out.at_ j hjk
      subst e1
      subst e2
      have hst1 := fun q => str_arg (ha1.below (below_drewN (Below.refl w.heap.size w) q))
      have hst2 := fun q => str_arg (ha2.below (below_drewN (Below.refl w.heap.size w) q))
      obtain ⟨T, hT⟩ : ∃ T, T = L.getD j [] := ⟨_, rfl⟩
      rw [← hT] at hst1 hst2
      have hse2 : ((strOfNums T).toList != (strOfNums T).toList) = false := by simp
      have hse3 : ((strOfNums T).toList == (strOfNums T).toList) = true := by simp
      clear hT ha1 ha2 hlt1 hlt2
      go_wp2
      go_quiet (fail)
      go_wp2
      go_roundw
      case rel => exact ⟨j + 1, by omega, by go_num, _, rfl⟩
      all_goals (try case measure => simp [intOf]; omega)
    · obtain rfl : j = n := by omega
      go_wp2
      go_ret
      exact ⟨rfl, below_drewN (Below.refl _ _) _⟩

/-- Texts of the call's own, each anywhere in a block of bytes of the call's own. -/
def OwnTxs (w : World) (base : Nat) (A : Option Addr) (n c : Nat) (zss : List Txt) : Prop :=
  ∃ vs : List Value, w.ownsRow base 22 1 (.slice A n c) n vs ∧ zss.length = n ∧ (∀ zs ∈ zss, ∀ z ∈ zs, isByte z) ∧
    ∀ i, i < n → ∃ Ai ni ci, vs[i]? = some (.slice Ai ni ci) ∧ OwnTxt w base Ai ni ci (zss.getD i [])
theorem OwnTxs.of {w : World} {base : Nat} {A : Option Addr} {n c : Nat} {zss : List Txt} (h : OwnTexts w base A n c zss) : OwnTxs w base A n c zss := by
  obtain ⟨vs, hown, hl, hby, hin⟩ := h
  refine ⟨vs, hown, hl, hby, fun i hi => ?_⟩
  obtain ⟨Ai, ni, ci, h1, h2⟩ := hin i hi
  exact ⟨Ai, ni, ci, h1, OwnTxt.of h2⟩
theorem OwnTxs.row {w : World} {base : Nat} {A : Option Addr} {n c : Nat} {zss : List Txt} (h : OwnTxs w base A n c zss) {i : Nat} (hi : i < n) :
    ∃ g Ai ni ci, A = some ⟨g, 0, none⟩ ∧ w.cell? ⟨g, i, none⟩ = some (.slice Ai ni ci) ∧ OwnTxt w base Ai ni ci (zss.getD i []) ∧ (zss.getD i []).length = ni ∧ ni ≤ maxLen ∧ ∀ z ∈ zss.getD i [], isByte z := by
  obtain ⟨vs, hown, hl, hby, hin⟩ := h
  obtain ⟨Ai, ni, ci, hv, ho⟩ := hin i hi
  obtain ⟨g, v, e, hbg, hc, hf, hset⟩ := owns_at hown hi
  obtain ⟨b, e', hlt, hcc⟩ := owns_cell hown hv
  rw [e] at e'
  cases e'
  subst e
  refine ⟨g, Ai, ni, ci, rfl, hcc, ho, ho.1, Nat.le_trans ho.2.1 ho.2.2.1, ?_⟩
  rw [List.getD_eq_getElem?_getD, List.getElem?_eq_getElem (by omega)]
  exact hby _ (List.getElem_mem _)
/-- A byte of a block of bytes is written over: the texts stay, as long as they were. -/
theorem OwnTxs.touch {w : World} {base g : Nat} {A : Option Addr} {n c : Nat} {zss : List Txt} (h : OwnTxs w base A n c zss) (hu : U8 w g) (k : Nat) {z : Int} (hz : isByte z) :
    ∃ zss', OwnTxs (w.setCell ⟨g, k, none⟩ (.int .u8 z)) base A n c zss' ∧ ∀ j, (zss'.getD j []).length = (zss.getD j []).length := by
  obtain ⟨vs, hown, hl, hby, hin⟩ := h
  obtain ⟨f, hf⟩ : ∃ f : Nat → Txt → Txt, f = fun j zs => match vs.getD j undef with | .slice Aj _ _ => touchL Aj g k z zs | _ => zs := ⟨_, rfl⟩
  have hfl : ∀ j zs, (f j zs).length = zs.length := fun j zs => by
    rw [hf]
    dsimp only
    split
    · exact touchL_len ..
    · rfl
  have hfb : ∀ j zs, (∀ y ∈ zs, isByte y) → ∀ y ∈ f j zs, isByte y := fun j zs hb => by
    rw [hf]
    dsimp only
    split
    · exact touchL_byte _ g k hz hb
    · exact hb
  have e1 : ∀ j, j < n → ((List.range n).map fun j => f j (zss.getD j [])).getD j [] = f j (zss.getD j []) := fun j hj => by
    simp [List.getD_eq_getElem?_getD, hj]
  refine ⟨(List.range n).map fun j => f j (zss.getD j []), ⟨vs, ?_, by simp, ?_, fun j hj => ?_⟩, fun j => ?_⟩
  · refine owns_keep hown fun g' cs _ hc => Below.heap_setCell w _ _ g' (fun e => ?_)
    subst e
    obtain ⟨cs', hc'⟩ := hu
    rw [hc] at hc'
    simp at hc'
  · intro s hs y hy
    obtain ⟨j, hj, rfl⟩ := List.mem_map.1 hs
    have hjn := List.mem_range.1 hj
    exact hfb j _ (fun y hy => hby (zss.getD j []) (by
      rw [List.getD_eq_getElem?_getD, List.getElem?_eq_getElem (by omega)]
      exact List.getElem_mem _) y hy) y hy
  · obtain ⟨Aj, nj, cj, hvj, hoj⟩ := hin j hj
    have e2 : vs.getD j undef = .slice Aj nj cj := by rw [List.getD_eq_getElem?_getD, hvj]; rfl
    have e3 : f j (zss.getD j []) = touchL Aj g k z (zss.getD j []) := by rw [hf]; dsimp only; rw [e2]
    rw [e1 j hj, e3]
    exact ⟨Aj, nj, cj, hvj, hoj.touch z⟩
  · rcases Nat.lt_or_ge j n with hj | hj
    · rw [e1 j hj]
      exact hfl j _
    · have e4 : ((List.range n).map fun j => f j (zss.getD j [])).getD j [] = [] := by
        simp [List.getD_eq_getElem?_getD, hj]
      have e5 : zss.getD j [] = [] := by simp [List.getD_eq_getElem?_getD, hl, hj]
      rw [e4, e5]

end Go.Proofs.Ytnmlplfcdnakhaa
