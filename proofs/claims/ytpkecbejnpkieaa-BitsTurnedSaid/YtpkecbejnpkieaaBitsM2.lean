/- Layer 3: the document's own calls that make a set: two put together, of a list, of all, with a track or without. -/
import Derived.Test.YtpkecbejnpkieaaBitsM
namespace Go.Proofs.Ytpkecbejnpkieaa
open Go.RowKit
set_option linter.unusedVariables false

set_option maxRecDepth 100000 in
set_option maxHeartbeats 1600000 in
theorem rUnion_any (m : Nat) (A : Option Addr) (k c : Nat) (a : List Int) (A' : Option Addr) (k' c' : Nat) (b : List Int) (w : World) (h : Arg w .u8 A k c a) (h' : Arg w .u8 A' k' c' b) (h1 : 1 ≤ m) (h2 : m ≤ 16) (ha : IsSet m a) (hb : IsSet m b) :
    Calls Try.prog 51 #[.int .i64 (m : Int), .slice A k c, .slice A' k' c'] w (OneRow .u8 5 w (made m (fun u => hasT a u || hasT b u))) := by
  obtain ⟨i0, hi0, hz0, hz1, hz2⟩ := info_parts bool_info
  have hml : (1000 : Nat) ≤ maxLen := by decide
  have IN := Lib.hid fun (wr : World) (hB : Below w.heap.size w wr) t (ht : t < m) => in_any A k c a t wr _ (h.below hB).seq h.len ha.byte (by omega) (by rw [← h.len, ha.len]; exact pgs_le ht)
  have IN2 := Lib.hid fun (wr : World) (hB : Below w.heap.size w wr) t (ht : t < m) => in_any A' k' c' b t wr _ (h'.below hB).seq h'.len hb.byte (by omega) (by rw [← h'.len, hb.len]; exact pgs_le ht)
  obtain ⟨f, hf⟩ : ∃ f : Nat → Bool, f = (fun u => hasT a u || hasT b u) := ⟨_, rfl⟩
  have hfj : ∀ j, f j = (hasT a j || hasT b j) := fun j => by rw [hf]
  rw [← hf]
  have HFJ := Lib.hid hfj
  clear h h' ha hb hf hfj
  go_enter Try.func51, Try.ntmps51
  go_wp2
  go_loopw [7, 8] (fun v i wr => ∃ j : Nat, j ≤ m ∧ i = .int .i64 j ∧ (∃ A' c', v = .slice A' j c' ∧ wr.ownsRow w.heap.size 4 1 (.slice A' j c') j (bools ((List.range j).map f))) ∧ Below w.heap.size w wr) (fun _ i _ => m - (intOf i).toNat)
  case atStart => exact ⟨0, Nat.zero_le _, rfl, ⟨none, 0, rfl, World.ownsRow_nil _ _ _ _⟩, Below.refl _ _⟩
  case round =>
    obtain ⟨j, hj, rfl, ⟨A1, c1, rfl, hown⟩, hbel⟩ := hrel
    by_cases hjm : j < m
    · have T := IN.out wr hbel j hjm
      have hsn := range_snoc f j
      rw [HFJ.out j] at hsn
      obtain ⟨r1, hr1⟩ : ∃ r, r = hasT a j := ⟨_, rfl⟩
      obtain ⟨r2, hr2⟩ : ∃ r, r = hasT b j := ⟨_, rfl⟩
      have IN2 := Lib.hid fun wx hx => IN2.out wx hx j hjm
      rw [← hr1] at T hsn
      rw [← hr2] at IN2 hsn
      have T := Lib.hid T
      obtain ⟨L, hL⟩ : ∃ L, L = bools ((List.range j).map f) := ⟨_, rfl⟩
      rw [← hL] at hsn hown
      have SN := Lib.hid hsn
      have O := Lib.hid hown
      have B := Lib.hid hbel
      clear hr1 hr2 hsn hown hbel hL
      cases r1 with
      | true =>
        go_wp2_with fail
        refine T.out.mono ?_
        rintro e w2 ⟨rfl, q, rfl⟩
        have hd := below_drewN (Below.refl wr.heap.size wr) q
        have O2 := Lib.hid (owns_below O.out hd)
        have B2 := Lib.hid (B.out.trans (hd.mono B.out.size))
        obtain ⟨w3, hw3⟩ : ∃ x : World, x = wr.drewN q := ⟨_, rfl⟩
        rw [← hw3] at O2 B2 ⊢
        clear hd hw3
        go_wp2_with (at_builtin; refine wpList_behind_g w _ rfl (.tmp 14) (.tmp 23) _ rfl w.heap.size 4 i0 _ 1 Try.underlying69 hi0 hz0 hz1 hz2 rfl A1 j c1 L rfl (O2.out.allocated _) (w3.heap.size + 1) (some ⟨w3.heap.size, 0, none⟩) 1 1 [.bool true] rfl rfl (one_seq _ _ _ _ _ rfl (Nat.lt_succ_self _)) (by simp [Value.oneCell']) (by omega) (by omega) (B2.out.alloc B2.out.size _) (Nat.le_refl _) ?_; intro A2 c2 w4 hown4 hbel4; have O4 := Lib.hid hown4; have B4 := Lib.hid hbel4; clear hown4 hbel4)
        go_roundw
        case rel => exact ⟨j + 1, by omega, by go_num, ⟨A2, c2, rfl, by rw [← SN.out]; exact O4.out⟩, B4.out⟩
        case measure => simp [intOf]; omega
      | false =>
        go_wp2_with fail
        refine T.out.mono ?_
        rintro e w2 ⟨rfl, q, rfl⟩
        have hd := below_drewN (Below.refl wr.heap.size wr) q
        have O2 := Lib.hid (owns_below O.out hd)
        have B2 := Lib.hid (B.out.trans (hd.mono B.out.size))
        obtain ⟨w30, hw3⟩ : ∃ x : World, x = wr.drewN q := ⟨_, rfl⟩
        rw [← hw3] at O2 B2 ⊢
        clear hd hw3
        go_wp2_with fail
        refine (IN2.out w30 B2.out).mono ?_
        rintro e w2 ⟨rfl, q2, rfl⟩
        have hd := below_drewN (Below.refl w30.heap.size w30) q2
        have O2 := Lib.hid (owns_below O2.out hd)
        have B2 := Lib.hid (B2.out.trans (hd.mono B2.out.size))
        obtain ⟨w3, hw3⟩ : ∃ x : World, x = w30.drewN q2 := ⟨_, rfl⟩
        rw [← hw3] at O2 B2 ⊢
        clear hd hw3
        go_wp2_with (at_builtin; refine wpList_behind_g w _ rfl (.tmp 14) (.tmp 23) _ rfl w.heap.size 4 i0 _ 1 Try.underlying69 hi0 hz0 hz1 hz2 rfl A1 j c1 L rfl (O2.out.allocated _) (w3.heap.size + 1) (some ⟨w3.heap.size, 0, none⟩) 1 1 [.bool r2] rfl rfl (one_seq _ _ _ _ _ rfl (Nat.lt_succ_self _)) (by simp [Value.oneCell']) (by omega) (by omega) (B2.out.alloc B2.out.size _) (Nat.le_refl _) ?_; intro A2 c2 w4 hown4 hbel4; have O4 := Lib.hid hown4; have B4 := Lib.hid hbel4; clear hown4 hbel4)
        go_roundw
        case rel => exact ⟨j + 1, by omega, by go_num, ⟨A2, c2, rfl, by rw [← SN.out]; exact O4.out⟩, B4.out⟩
        case measure => simp [intOf]; omega
    · obtain rfl : j = m := by omega
      have O := Lib.hid hown
      have B := Lib.hid hbel
      have e : made j (fun t => ((List.range j).map f).getD t false) = made j f := made_congr fun t ht => range_getD f j t ht
      have K := rMade_any j A1 c1 ((List.range j).map f) wr (Seq.own O.out) (by simp) h1 h2
      rw [e] at K
      have K := Lib.hid K
      clear hown hbel e
      go_wp2_with fail
      refine K.out.mono ?_
      rintro e w5 ⟨A5, c5, rfl, hown, hbel⟩
      have O5 := Lib.hid hown
      have B5 := Lib.hid (B.out.trans (hbel.mono B.out.size))
      clear hown hbel
      go_wp2
      go_ret
      exact ⟨A5, c5, rfl, owns_base O5.out B.out.size, B5.out⟩

set_option maxRecDepth 100000 in
set_option maxHeartbeats 1600000 in
theorem rLess_any (m : Nat) (A : Option Addr) (k c : Nat) (a : List Int) (A' : Option Addr) (k' c' : Nat) (b : List Int) (w : World) (h : Arg w .u8 A k c a) (h' : Arg w .u8 A' k' c' b) (h1 : 1 ≤ m) (h2 : m ≤ 16) (ha : IsSet m a) (hb : IsSet m b) :
    Calls Try.prog 52 #[.int .i64 (m : Int), .slice A k c, .slice A' k' c'] w (OneRow .u8 5 w (made m (fun u => hasT a u && !hasT b u))) := by
  obtain ⟨i0, hi0, hz0, hz1, hz2⟩ := info_parts bool_info
  have hml : (1000 : Nat) ≤ maxLen := by decide
  have IN := Lib.hid fun (wr : World) (hB : Below w.heap.size w wr) t (ht : t < m) => in_any A k c a t wr _ (h.below hB).seq h.len ha.byte (by omega) (by rw [← h.len, ha.len]; exact pgs_le ht)
  have IN2 := Lib.hid fun (wr : World) (hB : Below w.heap.size w wr) t (ht : t < m) => in_any A' k' c' b t wr _ (h'.below hB).seq h'.len hb.byte (by omega) (by rw [← h'.len, hb.len]; exact pgs_le ht)
  obtain ⟨f, hf⟩ : ∃ f : Nat → Bool, f = (fun u => hasT a u && !hasT b u) := ⟨_, rfl⟩
  have hfj : ∀ j, f j = (hasT a j && !hasT b j) := fun j => by rw [hf]
  rw [← hf]
  have HFJ := Lib.hid hfj
  clear h h' ha hb hf hfj
  go_enter Try.func52, Try.ntmps52
  go_wp2
  go_loopw [7, 8] (fun v i wr => ∃ j : Nat, j ≤ m ∧ i = .int .i64 j ∧ (∃ A' c', v = .slice A' j c' ∧ wr.ownsRow w.heap.size 4 1 (.slice A' j c') j (bools ((List.range j).map f))) ∧ Below w.heap.size w wr) (fun _ i _ => m - (intOf i).toNat)
  case atStart => exact ⟨0, Nat.zero_le _, rfl, ⟨none, 0, rfl, World.ownsRow_nil _ _ _ _⟩, Below.refl _ _⟩
  case round =>
    obtain ⟨j, hj, rfl, ⟨A1, c1, rfl, hown⟩, hbel⟩ := hrel
    by_cases hjm : j < m
    · have T := IN.out wr hbel j hjm
      have hsn := range_snoc f j
      rw [HFJ.out j] at hsn
      obtain ⟨r1, hr1⟩ : ∃ r, r = hasT a j := ⟨_, rfl⟩
      obtain ⟨r2, hr2⟩ : ∃ r, r = hasT b j := ⟨_, rfl⟩
      have IN2 := Lib.hid fun wx hx => IN2.out wx hx j hjm
      rw [← hr1] at T hsn
      rw [← hr2] at IN2 hsn
      have T := Lib.hid T
      obtain ⟨L, hL⟩ : ∃ L, L = bools ((List.range j).map f) := ⟨_, rfl⟩
      rw [← hL] at hsn hown
      have SN := Lib.hid hsn
      have O := Lib.hid hown
      have B := Lib.hid hbel
      clear hr1 hr2 hsn hown hbel hL
      cases r1 with
      | false =>
        go_wp2_with fail
        refine T.out.mono ?_
        rintro e w2 ⟨rfl, q, rfl⟩
        have hd := below_drewN (Below.refl wr.heap.size wr) q
        have O2 := Lib.hid (owns_below O.out hd)
        have B2 := Lib.hid (B.out.trans (hd.mono B.out.size))
        obtain ⟨w3, hw3⟩ : ∃ x : World, x = wr.drewN q := ⟨_, rfl⟩
        rw [← hw3] at O2 B2 ⊢
        clear hd hw3
        go_wp2_with (at_builtin; refine wpList_behind_g w _ rfl (.tmp 14) (.tmp 24) _ rfl w.heap.size 4 i0 _ 1 Try.underlying69 hi0 hz0 hz1 hz2 rfl A1 j c1 L rfl (O2.out.allocated _) (w3.heap.size + 1) (some ⟨w3.heap.size, 0, none⟩) 1 1 [.bool false] rfl rfl (one_seq _ _ _ _ _ rfl (Nat.lt_succ_self _)) (by simp [Value.oneCell']) (by omega) (by omega) (B2.out.alloc B2.out.size _) (Nat.le_refl _) ?_; intro A2 c2 w4 hown4 hbel4; have O4 := Lib.hid hown4; have B4 := Lib.hid hbel4; clear hown4 hbel4)
        go_roundw
        case rel => exact ⟨j + 1, by omega, by go_num, ⟨A2, c2, rfl, by rw [← SN.out]; exact O4.out⟩, B4.out⟩
        case measure => simp [intOf]; omega
      | true =>
        go_wp2_with fail
        refine T.out.mono ?_
        rintro e w2 ⟨rfl, q, rfl⟩
        have hd := below_drewN (Below.refl wr.heap.size wr) q
        have O2 := Lib.hid (owns_below O.out hd)
        have B2 := Lib.hid (B.out.trans (hd.mono B.out.size))
        obtain ⟨w30, hw3⟩ : ∃ x : World, x = wr.drewN q := ⟨_, rfl⟩
        rw [← hw3] at O2 B2 ⊢
        clear hd hw3
        go_wp2_with fail
        refine (IN2.out w30 B2.out).mono ?_
        rintro e w2 ⟨rfl, q2, rfl⟩
        have hd := below_drewN (Below.refl w30.heap.size w30) q2
        have O2 := Lib.hid (owns_below O2.out hd)
        have B2 := Lib.hid (B2.out.trans (hd.mono B2.out.size))
        obtain ⟨w3, hw3⟩ : ∃ x : World, x = w30.drewN q2 := ⟨_, rfl⟩
        rw [← hw3] at O2 B2 ⊢
        clear hd hw3
        go_wp2_with (at_builtin; refine wpList_behind_g w _ rfl (.tmp 14) (.tmp 24) _ rfl w.heap.size 4 i0 _ 1 Try.underlying69 hi0 hz0 hz1 hz2 rfl A1 j c1 L rfl (O2.out.allocated _) (w3.heap.size + 1) (some ⟨w3.heap.size, 0, none⟩) 1 1 [.bool (!r2)] rfl rfl (one_seq _ _ _ _ _ rfl (Nat.lt_succ_self _)) (by simp [Value.oneCell']) (by omega) (by omega) (B2.out.alloc B2.out.size _) (Nat.le_refl _) ?_; intro A2 c2 w4 hown4 hbel4; have O4 := Lib.hid hown4; have B4 := Lib.hid hbel4; clear hown4 hbel4)
        go_roundw
        case rel => exact ⟨j + 1, by omega, by go_num, ⟨A2, c2, rfl, by rw [← SN.out]; exact O4.out⟩, B4.out⟩
        case measure => simp [intOf]; omega
    · obtain rfl : j = m := by omega
      have O := Lib.hid hown
      have B := Lib.hid hbel
      have e : made j (fun t => ((List.range j).map f).getD t false) = made j f := made_congr fun t ht => range_getD f j t ht
      have K := rMade_any j A1 c1 ((List.range j).map f) wr (Seq.own O.out) (by simp) h1 h2
      rw [e] at K
      have K := Lib.hid K
      clear hown hbel e
      go_wp2_with fail
      refine K.out.mono ?_
      rintro e w5 ⟨A5, c5, rfl, hown, hbel⟩
      have O5 := Lib.hid hown
      have B5 := Lib.hid (B.out.trans (hbel.mono B.out.size))
      clear hown hbel
      go_wp2
      go_ret
      exact ⟨A5, c5, rfl, owns_base O5.out B.out.size, B5.out⟩

end Go.Proofs.Ytpkecbejnpkieaa
