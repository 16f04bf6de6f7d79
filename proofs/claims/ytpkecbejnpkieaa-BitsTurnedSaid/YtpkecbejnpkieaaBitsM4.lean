/- Layer 3: the document's own List, Count, Next: what they answer. -/
import Derived.Test.YtpkecbejnpkieaaBitsM3
import Derived.Test.YtpkecbejnpkieaaBitsL
namespace Go.Proofs.Ytpkecbejnpkieaa
open Go.RowKit
set_option linter.unusedVariables false

theorem filt_snoc (f : Nat → Bool) (k : Nat) : (List.range (k + 1)).filter f = (List.range k).filter f ++ (if f k then [k] else []) := by
  rw [List.range_succ, List.filter_append]
  congr 1
  cases h : f k <;> simp [h]
theorem filt_length (f : Nat → Bool) (k : Nat) : ((List.range k).filter f).length ≤ k := by
  have := List.length_filter_le f (List.range k)
  rwa [List.length_range] at this

set_option maxRecDepth 100000 in
set_option maxHeartbeats 1600000 in
theorem rTracks_any (m : Nat) (A : Option Addr) (k c : Nat) (s : List Int) (w : World) (h : Arg w .u8 A k c s) (h1 : 1 ≤ m) (h2 : m ≤ 16) (hs : IsSet m s) :
    Calls Try.prog 44 #[.int .i64 (m : Int), .slice A k c] w (OneRow .i64 3 w (listL m s)) := by
  obtain ⟨i0, hi0, hz0, hz1, hz2⟩ := info_parts int_info
  have hml : (1000 : Nat) ≤ maxLen := by decide
  have hfin : listL (m : Int) s = ((List.range m).filter (hasT s)).map Int.ofNat := by
    unfold listL listN
    rw [if_pos (chk_set h1 h2 hs), Int.toNat_natCast]
  have IN := Lib.hid fun (wr : World) (hB : Below w.heap.size w wr) t (ht : t < m) => in_any A k c s t wr _ (h.below hB).seq h.len hs.byte (by omega) (by rw [← h.len, hs.len]; exact pgs_le ht)
  have FIN := Lib.hid hfin
  obtain ⟨R, hR⟩ : ∃ R, R = listL (m : Int) s := ⟨_, rfl⟩
  rw [← hR] at FIN ⊢
  obtain ⟨f, hf⟩ : ∃ f : Nat → Bool, f = hasT s := ⟨_, rfl⟩
  rw [← hf] at IN FIN
  clear h hs hfin hR hf
  go_enter Try.func44, Try.ntmps44
  go_wp2
  go_loopw [5, 6] (fun v i wr => ∃ j : Nat, j ≤ m ∧ i = .int .i64 j ∧ (∃ A' c', v = .slice A' ((List.range j).filter f).length c' ∧ wr.ownsRow w.heap.size 3 1 (.slice A' ((List.range j).filter f).length c') ((List.range j).filter f).length (nats ((List.range j).filter f))) ∧ Below w.heap.size w wr) (fun _ i _ => m - (intOf i).toNat)
  case atStart => exact ⟨0, Nat.zero_le _, rfl, ⟨none, 0, rfl, World.ownsRow_nil _ _ _ _⟩, Below.refl _ _⟩
  case round =>
    obtain ⟨j, hj, rfl, ⟨A1, c1, rfl, hown⟩, hbel⟩ := hrel
    by_cases hjm : j < m
    · have T := IN.out wr hbel j hjm
      have hsn := filt_snoc f j
      have hln := filt_length f j
      obtain ⟨r, hr⟩ : ∃ r, r = f j := ⟨_, rfl⟩
      rw [← hr] at T hsn
      obtain ⟨L, hL⟩ : ∃ L, L = (List.range j).filter f := ⟨_, rfl⟩
      rw [← hL] at hsn hown hln ⊢
      obtain ⟨n, hn⟩ : ∃ n, n = L.length := ⟨_, rfl⟩
      rw [← hn] at hown hln ⊢
      have T := Lib.hid T
      have SN := Lib.hid hsn
      have HN := Lib.hid hn
      have O := Lib.hid hown
      have B := Lib.hid hbel
      clear hr hsn hown hbel hL hn
      cases r with
      | false =>
        go_wp2_with fail
        refine T.out.mono ?_
        rintro e w2 ⟨rfl, q, rfl⟩
        have hd := below_drewN (Below.refl wr.heap.size wr) q
        have O2 := Lib.hid (owns_below O.out hd)
        have B2 := Lib.hid (B.out.trans (hd.mono B.out.size))
        have e : (List.range (j + 1)).filter f = L := by rw [SN.out]; simp
        have E := Lib.hid e
        clear hd e
        go_wp2
        go_roundw
        case rel => exact ⟨j + 1, by omega, by go_num, ⟨A1, c1, by rw [E.out, ← HN.out], by rw [E.out, ← HN.out]; exact O2.out⟩, B2.out⟩
        case measure => simp [intOf]; omega
      | true =>
        go_wp2_with fail
        refine T.out.mono ?_
        rintro e w2 ⟨rfl, q, rfl⟩
        have hd := below_drewN (Below.refl wr.heap.size wr) q
        have O2 := Lib.hid (owns_below O.out hd)
        have B2 := Lib.hid (B.out.trans (hd.mono B.out.size))
        obtain ⟨w3, hw3⟩ : ∃ w3, w3 = wr.drewN q := ⟨_, rfl⟩
        rw [← hw3] at O2 B2 ⊢
        have e : (List.range (j + 1)).filter f = L ++ [j] := by rw [SN.out]; simp
        have E := Lib.hid e
        have e2 : ((List.range (j + 1)).filter f).length = n + 1 := by rw [e, List.length_append, HN.out]; rfl
        have E2 := Lib.hid e2
        clear hd hw3 T e e2
        go_wp2_with (at_builtin; refine wpList_behind_g w _ rfl (.tmp 15) (.tmp 17) _ rfl w.heap.size 3 i0 _ 8 Try.underlying29 hi0 hz0 hz1 hz2 rfl A1 n c1 (nats L) rfl (O2.out.allocated _) (w3.heap.size + 1) (some ⟨w3.heap.size, 0, none⟩) 1 1 [.int .i64 (j : Int)] rfl rfl (one_seq _ _ _ _ _ rfl (Nat.lt_succ_self _)) (by simp [Value.oneCell']) (by omega) (by omega) (B2.out.alloc B2.out.size _) (Nat.le_refl _) ?_; intro A2 c2 w4 hown4 hbel4; have O4 := Lib.hid hown4; have B4 := Lib.hid hbel4; clear hown4 hbel4)
        go_roundw
        case rel => exact ⟨j + 1, by omega, by go_num, ⟨A2, c2, by rw [E2.out], by rw [E2.out, E.out, nats_app]; exact O4.out⟩, B4.out⟩
        case measure => simp [intOf]; omega
    · obtain rfl : j = m := by omega
      have O := Lib.hid hown
      have B := Lib.hid hbel
      have hl : R.length = ((List.range j).filter f).length := by rw [FIN.out, List.length_map]
      obtain ⟨n, hn⟩ : ∃ n, n = ((List.range j).filter f).length := ⟨_, rfl⟩
      rw [← hn] at O hl ⊢
      have HL := Lib.hid hl
      clear hown hbel hl hn
      go_wp2
      go_ret
      refine ⟨A1, c1, by rw [HL.out]; rfl, ?_, B.out⟩
      rw [HL.out]
      have := O.out
      unfold nats at this
      rw [← FIN.out] at this
      exact this
/-- The document's List. -/
theorem rList_any (n : Int) (A : Option Addr) (k c : Nat) (s : List Int) (w : World) (h : Arg w .u8 A k c s) (hb : ∀ z ∈ s, isByte z) :
    Calls Try.prog 20 #[.int .i64 n, .slice A k c] w (RowOut .i64 3 w (listL n s) (chk n s)) := by
  have C := rcheck_any n A k c s w h hb
  by_cases hc : chk n s = 0
  · obtain ⟨m, rfl, h1, h2, h3⟩ := chk_zero hb hc
    have K := Lib.hid fun q => rTracks_any m A k c s (w.drewN q) (h.below (below_drewN (Below.refl _ _) q)) h1 h2 h3
    rw [hc] at C ⊢
    obtain ⟨R, hR⟩ : ∃ R, R = listL (m : Int) s := ⟨_, rfl⟩
    rw [← hR] at K ⊢
    have C := Lib.hid C
    clear h hb hc h3 hR
    go_enter Try.func20, Try.ntmps20
    go_wp2_with fail
    refine C.out.mono ?_
    rintro e w' ⟨rfl, q, rfl⟩
    have B := Lib.hid (below_drewN (Below.refl w.heap.size w) q)
    go_wp2_with fail
    refine (K.out q).mono ?_
    rintro e w5 ⟨A5, c5, rfl, hown, hbel⟩
    have O5 := Lib.hid hown
    have B5 := Lib.hid (B.out.trans (hbel.mono B.out.size))
    clear hown hbel
    go_wp2
    go_ret2
    exact ⟨A5, c5, rfl, owns_base O5.out B.out.size, B5.out⟩
  · have e : listL n s = [] := by unfold listL listN; rw [if_neg hc]; rfl
    rw [e]
    have hne : (chk n s != 0) = true := by rw [bne_iff_ne]; exact hc
    obtain ⟨E, hE⟩ : ∃ E, E = chk n s := ⟨_, rfl⟩
    rw [← hE] at C hne ⊢
    have C := Lib.hid C
    clear h hb hc hE e
    go_enter Try.func20, Try.ntmps20
    go_wp2_with fail
    refine C.out.mono ?_
    rintro e w' ⟨rfl, q, rfl⟩
    have B := Lib.hid (below_drewN (Below.refl w.heap.size w) q)
    go_wp2
    go_ret2
    exact ⟨none, 0, rfl, World.ownsRow_nil _ _ _ _, B.out⟩
/-- The document's Count. -/
theorem rCount_any (n : Int) (A : Option Addr) (k c : Nat) (s : List Int) (w : World) (h : Arg w .u8 A k c s) (hb : ∀ z ∈ s, isByte z) :
    Calls Try.prog 22 #[.int .i64 n, .slice A k c] w fun e W' => e = .returned (.tuple #[.int .i64 ((listN n s).length : Int), .int .i64 (chk n s)]) ∧ Below w.heap.size w W' := by
  have L := rList_any n A k c s w h hb
  have hl : (listL n s).length = (listN n s).length := by unfold listL; rw [List.length_map]
  obtain ⟨R, hR⟩ : ∃ R, R = listL n s := ⟨_, rfl⟩
  rw [← hR] at L hl
  obtain ⟨N, hN⟩ : ∃ N, N = (listN n s).length := ⟨_, rfl⟩
  rw [← hN] at hl ⊢
  obtain ⟨E, hE⟩ : ∃ E, E = chk n s := ⟨_, rfl⟩
  rw [← hE] at L ⊢
  have L := Lib.hid L
  have HL := Lib.hid hl
  clear h hb hl hN hE hR
  go_enter Try.func22, Try.ntmps22
  go_wp2_with fail
  refine L.out.mono ?_
  rintro e w5 ⟨A5, c5, rfl, hown, hbel⟩
  have B5 := Lib.hid hbel
  clear hown hbel
  rw [HL.out]
  go_wp2
  go_ret2
  exact ⟨rfl, B5.out⟩

set_option maxHeartbeats 1600000 in
theorem rBehind_any (m f : Nat) (A : Option Addr) (k c : Nat) (s : List Int) (w : World) (h : Arg w .u8 A k c s) (h1 : 1 ≤ m) (h2 : m ≤ 16) (hs : IsSet m s) (hf : f < m) :
    Calls Try.prog 47 #[.int .i64 (m : Int), .slice A k c, .int .i64 (f : Int)] w fun e w' => e = .returned (.int .i64 (nextV (m : Int) s (f : Int))) ∧ ∃ q, w' = w.drewN q := by
  have hv : ∃ V : Int, nextV (m : Int) s (f : Int) = V ∧ (trN m s f = [] → V = -1) ∧ ∀ x : Nat, [x] <+: trN m s f → V = x := by
    unfold nextV
    rw [if_pos (trkE_ok h1 h2 hf hs), Int.toNat_natCast, Int.toNat_natCast]
    refine ⟨_, rfl, fun e => by rw [e], fun x hx => ?_⟩
    obtain ⟨r, hr⟩ := hx
    rw [← hr]
    rfl
  obtain ⟨V, hV, hV1, hV2⟩ := hv
  rw [hV]
  have V1 := Lib.hid hV1
  have V2 := Lib.hid hV2
  have IN := Lib.hid fun t q (ht : t < m) => in_any A k c s t (w.drewN q) _ (h.seq.keep (w' := w.drewN q) fun _ _ => rfl) h.len hs.byte (by omega) (by rw [← h.len, hs.len]; exact pgs_le ht)
  have TS := Lib.hid (trTo_succ m s f)
  have TP := Lib.hid (trTo_pre m s f)
  have TN := Lib.hid (show trTo m s f m = trN m s f from rfl)
  have hm0 : ¬ (m : Int) = 0 := by omega
  clear h hs hV hV1 hV2
  go_enter Try.func47, Try.ntmps47
  go_wp2
  go_loopw [7] (fun i wr => ∃ j : Nat, j ≤ m ∧ i = .int .i64 j ∧ trTo m s f j = [] ∧ ∃ q, wr = w.drewN q) (fun i _ => m - (intOf i).toNat)
  case atStart => exact ⟨0, Nat.zero_le _, rfl, rfl, 0, rfl⟩
  case round =>
    obtain ⟨j, hj, rfl, hnil, q, rfl⟩ := hrel
    have NIL := Lib.hid hnil
    clear hnil
    by_cases hjm : j < m
    · have hsucc := TS.out j
      have hpre := TP.out (j + 1) (by omega)
      obtain ⟨t, ht⟩ : ∃ t, t = (f + j) % m := ⟨_, rfl⟩
      rw [← ht] at hsucc
      have htm : t < m := by rw [ht]; exact Nat.mod_lt _ (by omega)
      have T := IN.out t q htm
      have hti : ((f : Int) + (j : Int)) % (m : Int) = (t : Int) := by rw [ht]; simp
      have hti2 : ((f : Int) + (j : Int)).tmod (m : Int) = (t : Int) := by rw [Int.tmod_eq_emod_of_nonneg (by omega)]; exact hti
      obtain ⟨r, hr⟩ : ∃ r, r = hasT s t := ⟨_, rfl⟩
      rw [← hr] at T hsucc
      rw [NIL.out, List.nil_append] at hsucc
      have T := Lib.hid T
      have HS := Lib.hid hsucc
      have HP := Lib.hid hpre
      clear hsucc hpre ht hr
      cases r with
      | true =>
        have HV := Lib.hid (V2.out t (by have := HP.out; rw [HS.out] at this; exact this))
        go_wp2_with fail
        refine T.out.mono ?_
        rintro e w2 ⟨rfl, q2, rfl⟩
        go_wp2
        go_ret
        rw [HV.out]
        exact ⟨rfl, q + q2, by simp⟩
      | false =>
        go_wp2_with fail
        refine T.out.mono ?_
        rintro e w2 ⟨rfl, q2, rfl⟩
        go_wp2
        go_roundw
        case rel => exact ⟨j + 1, by omega, by go_num, by rw [HS.out]; rfl, q + q2, by simp⟩
        case measure => simp [intOf]; omega
    · obtain rfl : j = m := by omega
      have HV := Lib.hid (V1.out (TN.out.symm.trans NIL.out))
      go_wp2
      go_ret
      rw [HV.out]
      exact ⟨rfl, q, rfl⟩
/-- The document's Next. -/
theorem rNext_any (n : Int) (A : Option Addr) (k c : Nat) (s : List Int) (t : Int) (w : World) (h : Arg w .u8 A k c s) (hb : ∀ z ∈ s, isByte z) :
    Calls Try.prog 25 #[.int .i64 n, .slice A k c, .int .i64 t] w fun e W' => e = .returned (.tuple #[.int .i64 (nextV n s t), .int .i64 (trkE n s t)]) ∧ ∃ q, W' = w.drewN q := by
  have C := rHas_any n A k c s t w h hb
  obtain ⟨V, hV⟩ : ∃ V, V = hasV n s t := ⟨_, rfl⟩
  rw [← hV] at C
  clear hV
  by_cases hc : trkE n s t = 0
  · obtain ⟨m, u, rfl, rfl, h1, h2, h3, h4⟩ := trkE_zero hb hc
    have K := Lib.hid fun q => rBehind_any m u A k c s (w.drewN q) (h.below (below_drewN (Below.refl _ _) q)) h1 h2 h4 h3
    rw [hc]
    rw [hc] at C
    obtain ⟨R, hR⟩ : ∃ R : Int, R = nextV (m : Int) s (u : Int) := ⟨_, rfl⟩
    rw [← hR] at K ⊢
    have C := Lib.hid C
    clear h hb hc h3 h4 hR
    go_enter Try.func25, Try.ntmps25
    go_wp2_with fail
    refine C.out.mono ?_
    rintro e w' ⟨rfl, q, rfl⟩
    go_wp2_with fail
    refine (K.out q).mono ?_
    rintro e w5 ⟨rfl, q2, rfl⟩
    go_wp2
    go_ret2
    exact ⟨rfl, q + q2, by simp⟩
  · rw [show nextV n s t = 0 by unfold nextV; rw [if_neg hc]]
    have hne : (trkE n s t != 0) = true := by rw [bne_iff_ne]; exact hc
    obtain ⟨E, hE⟩ : ∃ E, E = trkE n s t := ⟨_, rfl⟩
    rw [← hE] at C hne ⊢
    have C := Lib.hid C
    clear h hb hc hE
    go_enter Try.func25, Try.ntmps25
    go_wp2_with fail
    refine C.out.mono ?_
    rintro e w' ⟨rfl, q, rfl⟩
    go_wp2
    go_ret2
    exact ⟨rfl, q, rfl⟩

end Go.Proofs.Ytpkecbejnpkieaa
