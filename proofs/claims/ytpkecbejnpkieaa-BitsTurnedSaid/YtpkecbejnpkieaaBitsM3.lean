/- Layer 3: the document's own All, Of, Put, Or, Minus: what they answer. -/
import Derived.Test.YtpkecbejnpkieaaBitsM2
namespace Go.Proofs.Ytpkecbejnpkieaa
open Go.RowKit
set_option linter.unusedVariables false

theorem make_bools (m : Nat) (h2 : m ≤ 16) (w : World) :
    (Instr.makeSlice 69 (.int .i64 (m : Int)) (.int .i64 (m : Int))).run Try.prog w = .ok (.slice (some ⟨w.heap.size, 0, none⟩) m m) (w.alloc (.cells (bools (List.replicate m false)).toArray 4)) := by
  obtain ⟨i0, hi0, hz0, hz1, hz2⟩ := info_parts bool_info
  have hmk := run_make1 (P := Try.prog) 69 4 i0 _ Try.underlying69 hi0 hz0 hz1 rfl m (by rw [hz2]; omega) (by simp only [maxLen]; omega) w
  have hrep : rep m (.bool false) = (bools (List.replicate m false)).toArray := by simp [rep, bools]
  rwa [hrep] at hmk
theorem own_bools (m : Nat) (h2 : m ≤ 16) (w : World) :
    (w.alloc (.cells (bools (List.replicate m false)).toArray 4)).ownsRow w.heap.size 4 1 (.slice (some ⟨w.heap.size, 0, none⟩) m m) m (bools (List.replicate m false)) :=
  (Blk.new w 4 (bools (List.replicate m false))).owns (Nat.le_refl _) (by simp [bools]) (Nat.le_trans h2 (by decide))
theorem rep_getD (m u : Nat) : (List.replicate m false).getD u false = false := by
  rw [List.getD_eq_getElem?_getD, List.getElem?_replicate]; split <;> rfl
theorem set_getD (bs : List Bool) (k u : Nat) (x : Bool) (hk : k < bs.length) : (bs.set k x).getD u false = if u = k then x else bs.getD u false := by
  rw [List.getD_eq_getElem?_getD, List.getElem?_set, List.getD_eq_getElem?_getD]
  by_cases h : k = u
  · subst h; simp [hk]
  · rw [if_neg h, if_neg (fun e => h e.symm)]
/-- One truth of a row of the call's own. -/
theorem owns_bool_at {w : World} {base : Nat} {e : TypeId} {A : Option Addr} {n c j : Nat} {bs : List Bool} (h : w.ownsRow base e 1 (.slice A n c) n (bools bs)) (hj : j < n) :
    ∃ g v, A = some ⟨g, 0, none⟩ ∧ base ≤ g ∧ w.cell? ⟨g, j, none⟩ = some v ∧ w.frozen? ⟨g, j, none⟩ = false ∧ ∀ x, (w.setCell ⟨g, j, none⟩ (.bool x)).ownsRow base e 1 (.slice A n c) n (bools (bs.set j x)) := by
  obtain ⟨g, v, rfl, hb, hc, hf, hset⟩ := owns_at h hj
  refine ⟨g, v, rfl, hb, hc, hf, fun x => ?_⟩
  have := hset (.bool x)
  rwa [show (bools bs).set j (.bool x) = bools (bs.set j x) from by simp [bools, List.map_set]] at this

set_option maxHeartbeats 1600000 in
theorem rFull_any (m : Nat) (w : World) (h1 : 1 ≤ m) (h2 : m ≤ 16) :
    Calls Try.prog 42 #[.int .i64 (m : Int)] w (OneRow .u8 5 w (made m (fun _ => true))) := by
  have hmk := make_bools m h2 w
  have hown := own_bools m h2 w
  have hbel : Below w.heap.size w (w.alloc (.cells (bools (List.replicate m false)).toArray 4)) := (Below.refl _ _).alloc (Nat.le_refl _) _
  obtain ⟨w1, hw1⟩ : ∃ w1, w1 = w.alloc (.cells (bools (List.replicate m false)).toArray 4) := ⟨_, rfl⟩
  rw [← hw1] at hmk hown hbel
  have OWN := Lib.hid hown
  have BEL := Lib.hid hbel
  clear hw1 hown hbel
  go_enter Try.func42, Try.ntmps42
  go_wp2
  go_loopw [4] (fun i wr => ∃ k : Nat, k ≤ m ∧ i = .int .i64 k ∧ (∃ bs : List Bool, bs.length = m ∧ (∀ u, u < m → bs.getD u false = decide (u < k)) ∧ wr.ownsRow w.heap.size 4 1 (.slice (some ⟨w.heap.size, 0, none⟩) m m) m (bools bs)) ∧ Below w.heap.size w wr) (fun i _ => m - (intOf i).toNat)
  case atStart => exact ⟨0, Nat.zero_le _, rfl, ⟨_, List.length_replicate, fun u _ => by rw [rep_getD]; simp, OWN.out⟩, BEL.out⟩
  case round =>
    obtain ⟨k, hk, rfl, ⟨bs, hbl, hbs, hown⟩, hbel⟩ := hrel
    have O := Lib.hid hown
    have B := Lib.hid hbel
    have HBS := Lib.hid hbs
    by_cases hkm : k < m
    · obtain ⟨g, v, hg, hbg, hc, hf, hset⟩ := owns_bool_at hown hkm
      cases hg
      have SET := Lib.hid (hset true)
      clear hown hbel hset hbs
      go_wp2
      go_roundw
      case rel =>
        refine ⟨k + 1, by omega, by go_num, ⟨_, ?_, fun u hu => ?_, SET.out⟩, B.out.setCell (p := ⟨w.heap.size, k, none⟩) (Nat.le_refl _) _⟩
        · rw [List.length_set]; exact hbl
        · rw [set_getD _ _ _ _ (by omega), HBS.out u hu]
          by_cases e : u = k
          · subst e; simp
          · rw [if_neg e, decide_eq_decide]; omega
      case measure => simp [intOf]; omega
    · obtain rfl : k = m := by omega
      have e : made k (fun t => bs.getD t false) = made k (fun _ => true) := made_congr fun t ht => by rw [HBS.out t ht]; simp [ht]
      have K := rMade_any k _ k bs wr (Seq.own O.out) hbl h1 h2
      rw [e] at K
      have K := Lib.hid K
      clear hown hbel hbs e
      go_wp2_with fail
      refine K.out.mono ?_
      rintro e w5 ⟨A5, c5, rfl, hown, hbel⟩
      have O5 := Lib.hid hown
      have B5 := Lib.hid (B.out.trans (hbel.mono B.out.size))
      clear hown hbel
      go_wp2
      go_ret
      exact ⟨A5, c5, rfl, owns_base O5.out B.out.size, B5.out⟩
/-- The document's All. -/
theorem rAll_any (n : Int) (w : World) : Calls Try.prog 16 #[.int .i64 n] w (RowOut .u8 5 w (allB n) (manyE n)) := by
  unfold allB manyE
  by_cases h : 1 ≤ n ∧ n ≤ 16
  · rw [if_pos h, if_pos rfl]
    obtain ⟨m, rfl⟩ : ∃ m : Nat, n = m := ⟨n.toNat, by omega⟩
    rw [Int.toNat_natCast]
    have M := Lib.hid (size_yes m w h.1 h.2)
    have K := Lib.hid (rFull_any m w (by omega) (by omega))
    obtain ⟨R, hR⟩ : ∃ R, R = made m (fun _ => true) := ⟨_, rfl⟩
    rw [← hR] at K ⊢
    clear h hR
    go_enter Try.func16, Try.ntmps16
    go_wp2_with fail
    refine M.out.mono ?_
    rintro e w' ⟨rfl, rfl⟩
    go_wp2_with fail
    refine K.out.mono ?_
    rintro e w5 ⟨A5, c5, rfl, hown, hbel⟩
    have O5 := Lib.hid hown
    have B5 := Lib.hid hbel
    clear hown hbel
    go_wp2
    go_ret2
    exact ⟨A5, c5, rfl, O5.out, B5.out⟩
  · rw [if_neg h, if_neg (by decide)]
    have M := Lib.hid (size_no n w h)
    clear h
    go_enter Try.func16, Try.ntmps16
    go_wp2_with fail
    refine M.out.mono ?_
    rintro e w' ⟨rfl, rfl⟩
    go_wp2
    go_ret2
    exact RowOut.nil _ _ _ _

set_option maxRecDepth 100000 in
set_option maxHeartbeats 3200000 in
theorem rOf_ok (m : Nat) (A : Option Addr) (j c : Nat) (l : List Int) (w : World) (h : Arg w .i64 A j c l) (h1 : 1 ≤ m) (h2 : m ≤ 16) :
    Calls Try.prog 15 #[.int .i64 (m : Int), .slice A j c] w (RowOut .u8 5 w (ofB m l) (ofE m l)) := by
  have M := Lib.hid (size_yes m w (by omega) (by omega))
  have hmk := make_bools m h2 w
  have hown := own_bools m h2 w
  have hbel : Below w.heap.size w (w.alloc (.cells (bools (List.replicate m false)).toArray 4)) := (Below.refl _ _).alloc (Nat.le_refl _) _
  have hyes : (∀ z ∈ l, 0 ≤ z ∧ z < (m : Int)) → ofE m l = 0 ∧ ofB m l = made m (fun t => l.contains (t : Int)) := fun hz => by
    have e : ofE m l = 0 := by unfold ofE; rw [if_pos ⟨by omega, hz⟩]
    refine ⟨e, ?_⟩
    unfold ofB
    rw [if_pos e, Int.toNat_natCast]
  have hnot : ∀ k, k < l.length → ¬ (0 ≤ l.getD k 0 ∧ l.getD k 0 < (m : Int)) → ofE m l = 2 ∧ ofB m l = [] := fun k hk hz => by
    have e : ofE m l = 2 := by
      unfold ofE
      rw [if_neg]
      intro hh
      refine hz (hh.2 _ ?_)
      rw [List.getD_eq_getElem?_getD, List.getElem?_eq_getElem hk]
      simp
    refine ⟨e, ?_⟩
    unfold ofB
    rw [if_neg (by rw [e]; decide)]
  obtain ⟨w1, hw1⟩ : ∃ w1, w1 = w.alloc (.cells (bools (List.replicate m false)).toArray 4) := ⟨_, rfl⟩
  rw [← hw1] at hmk hown hbel
  have YES := Lib.hid hyes
  have NOT := Lib.hid hnot
  have OWN := Lib.hid hown
  have BEL := Lib.hid hbel
  have HA := Lib.hid h
  have hj : l.length = j := h.len
  have hjc : j ≤ maxLen := Nat.le_trans h.cap h.max
  unfold maxLen at hjc
  clear hw1 hyes hnot hown hbel h
  subst hj
  go_enter Try.func15, Try.ntmps15
  go_wp2_with fail
  refine M.out.mono ?_
  rintro e w' ⟨rfl, rfl⟩
  go_wp2
  go_loopw [7] (fun i wr => ∃ k : Nat, k ≤ l.length ∧ i = .int .i64 k ∧ (∀ y, y < k → 0 ≤ l.getD y 0 ∧ l.getD y 0 < (m : Int)) ∧ (∃ bs : List Bool, bs.length = m ∧ (∀ u, u < m → bs.getD u false = (l.take k).contains (u : Int)) ∧ wr.ownsRow w.heap.size 4 1 (.slice (some ⟨w.heap.size, 0, none⟩) m m) m (bools bs)) ∧ Below w.heap.size w wr) (fun i _ => l.length - (intOf i).toNat)
  case atStart => exact ⟨0, Nat.zero_le _, rfl, fun y hy => by omega, ⟨_, List.length_replicate, fun u _ => by rw [rep_getD]; simp, OWN.out⟩, BEL.out⟩
  case round =>
    obtain ⟨k, hk, rfl, hall, ⟨bs, hbl, hbs, hown⟩, hbel⟩ := hrel
    have ALL := Lib.hid hall
    have O := Lib.hid hown
    have B := Lib.hid hbel
    have HBS := Lib.hid hbs
    by_cases hkm : k < l.length
    · obtain ⟨b, o, rfl, hlt, hc⟩ := (HA.out.seq.below hbel).int hkm
      clear hown hbel hall hbs
      have hst : (l.take (k + 1)) = l.take k ++ [l.getD k 0] := by
        rw [List.take_succ_eq_append_getElem hkm]
        simp [List.getD_eq_getElem?_getD, hkm]
      have NOTK := Lib.hid (NOT.out k hkm)
      obtain ⟨z, hz⟩ : ∃ z, z = l.getD k 0 := ⟨_, rfl⟩
      rw [← hz] at hc hst NOTK
      have HST := Lib.hid hst
      have HZ := Lib.hid hz
      clear hst hz
      by_cases hz0 : z < 0
      · have HN := Lib.hid (NOTK.out (by omega))
        clear NOTK
        go_wp2
        go_ret2
        rw [HN.out.1, HN.out.2]
        exact ⟨none, 0, rfl, World.ownsRow_nil _ _ _ _, B.out⟩
      by_cases hzm : (m : Int) ≤ z
      · have HN := Lib.hid (NOTK.out (by omega))
        have hz0' : 0 ≤ z := by omega
        clear NOTK hz0
        go_wp2
        go_ret2
        rw [HN.out.1, HN.out.2]
        exact ⟨none, 0, rfl, World.ownsRow_nil _ _ _ _, B.out⟩
      · obtain ⟨t, rfl⟩ : ∃ t : Nat, z = t := ⟨z.toNat, by omega⟩
        have htm : t < m := by omega
        have hti : (t : Int) < (m : Int) := by omega
        obtain ⟨g, v, hg, hbg, hc2, hf, hset⟩ := owns_bool_at O.out htm
        cases hg
        have SET := Lib.hid (hset true)
        clear hset hz0 hzm NOTK
        go_wp2
        go_roundw
        case rel =>
          refine ⟨k + 1, by omega, by go_num, fun y hy => ?_, ⟨_, ?_, fun u hu => ?_, SET.out⟩, B.out.setCell (p := ⟨w.heap.size, t, none⟩) (Nat.le_refl _) _⟩
          · rcases Nat.lt_or_ge y k with h | h
            · exact ALL.out y h
            · obtain rfl : y = k := by omega
              rw [← HZ.out]
              omega
          · rw [List.length_set]; exact hbl
          · rw [set_getD _ _ _ _ (by omega), HBS.out u hu, HST.out]
            simp only [List.contains_append, List.contains_cons, List.contains_nil, Bool.or_false]
            by_cases e : u = t
            · subst e; simp
            · rw [if_neg e, show ((u : Int) == (t : Int)) = false from beq_eq_false_iff_ne.2 (by omega), Bool.or_false]
        case measure => simp [intOf]; omega
    · obtain rfl : k = l.length := by omega
      have hy := YES.out (fun z hz => by
        obtain ⟨i, hi, rfl⟩ := List.getElem_of_mem hz
        have := ALL.out i hi
        simpa [List.getD_eq_getElem?_getD, hi] using this)
      have e : made m (fun t => bs.getD t false) = ofB m l := by
        rw [hy.2]
        exact made_congr fun t ht => by rw [HBS.out t ht, List.take_length]
      have K := rMade_any m _ m bs wr (Seq.own O.out) hbl h1 h2
      rw [e] at K
      have K := Lib.hid K
      have HY := Lib.hid hy.1
      clear hown hbel hy hall hbs e
      go_wp2_with fail
      refine K.out.mono ?_
      rintro e w5 ⟨A5, c5, rfl, hown, hbel⟩
      have O5 := Lib.hid hown
      have B5 := Lib.hid (B.out.trans (hbel.mono B.out.size))
      clear hown hbel
      go_wp2
      go_ret2
      rw [HY.out]
      exact ⟨A5, c5, rfl, owns_base O5.out B.out.size, B5.out⟩
/-- The document's Of. -/
theorem rOf_any (n : Int) (A : Option Addr) (j c : Nat) (l : List Int) (w : World) (h : Arg w .i64 A j c l) :
    Calls Try.prog 15 #[.int .i64 n, .slice A j c] w (RowOut .u8 5 w (ofB n l) (ofE n l)) := by
  by_cases h1 : 1 ≤ n ∧ n ≤ 16
  · obtain ⟨m, rfl⟩ : ∃ m : Nat, n = m := ⟨n.toNat, by omega⟩
    exact rOf_ok m A j c l w h (by omega) (by omega)
  · have e : ofE n l = 2 := by unfold ofE; rw [if_neg (fun hh => h1 hh.1)]
    have e2 : ofB n l = [] := by unfold ofB; rw [if_neg (by rw [e]; decide)]
    rw [e, e2]
    have M := Lib.hid (size_no n w h1)
    clear h1 h e e2
    go_enter Try.func15, Try.ntmps15
    go_wp2_with fail
    refine M.out.mono ?_
    rintro e w' ⟨rfl, rfl⟩
    go_wp2
    go_ret2
    exact RowOut.nil _ _ _ _

set_option maxHeartbeats 800000 in
theorem rWith_any (m t : Nat) (A : Option Addr) (k c : Nat) (s : List Int) (is : Bool) (w : World) (h : Arg w .u8 A k c s) (h1 : 1 ≤ m) (h2 : m ≤ 16) (hs : IsSet m s) (ht : t < m) :
    Calls Try.prog 48 #[.int .i64 (m : Int), .slice A k c, .int .i64 (t : Int), .bool is] w (OneRow .u8 5 w (made m (fun u => if u = t then is else hasT s u))) := by
  have T := Lib.hid (rTold_any m A k c s w h h1 h2 hs)
  have hti : (t : Int) < (m : Int) := by omega
  have e : made m (fun u => (((List.range m).map (hasT s)).set t is).getD u false) = made m (fun u => if u = t then is else hasT s u) := made_congr fun u hu => by
    rw [set_getD _ _ _ _ (by simp; exact ht), range_getD _ _ _ hu]
  obtain ⟨bs, hbs⟩ : ∃ bs, bs = (List.range m).map (hasT s) := ⟨_, rfl⟩
  have hbl : bs.length = m := by rw [hbs]; simp
  rw [← hbs] at T e
  obtain ⟨R, hR⟩ : ∃ R, R = made m (fun u => if u = t then is else hasT s u) := ⟨_, rfl⟩
  rw [← hR] at e ⊢
  have E := Lib.hid e
  clear h hs e hbs hR
  go_enter Try.func48, Try.ntmps48
  go_wp2_with fail
  refine T.out.mono ?_
  rintro e w2 ⟨A2, c2, rfl, hown, hbel⟩
  obtain ⟨g, v, rfl, hbg, hc2, hf, hset⟩ := owns_bool_at hown ht
  have SET := Lib.hid (hset is)
  have B2 := Lib.hid (hbel.setCell (p := ⟨g, t, none⟩) hbg (.bool is))
  have K := rMade_any m _ c2 (bs.set t is) (w2.setCell ⟨g, t, none⟩ (.bool is)) (Seq.own SET.out) (by rw [List.length_set]; exact hbl) h1 h2
  rw [E.out] at K
  have K := Lib.hid K
  clear hown hbel hset
  go_wp2_with fail
  refine K.out.mono ?_
  rintro e w5 ⟨A5, c5, rfl, hown, hbel⟩
  have O5 := Lib.hid hown
  have B5 := Lib.hid (B2.out.trans (hbel.mono B2.out.size))
  clear hown hbel
  go_wp2
  go_ret
  exact ⟨A5, c5, rfl, owns_base O5.out B2.out.size, B5.out⟩
/-- The document's Put. -/
theorem rPut_any (n : Int) (A : Option Addr) (k c : Nat) (s : List Int) (t : Int) (is : Bool) (w : World) (h : Arg w .u8 A k c s) (hb : ∀ z ∈ s, isByte z) :
    Calls Try.prog 27 #[.int .i64 n, .slice A k c, .int .i64 t, .bool is] w (RowOut .u8 5 w (putB n s t is) (trkE n s t)) := by
  have C := rHas_any n A k c s t w h hb
  unfold putB
  obtain ⟨V, hV⟩ : ∃ V, V = hasV n s t := ⟨_, rfl⟩
  rw [← hV] at C
  clear hV
  by_cases hc : trkE n s t = 0
  · obtain ⟨m, u, rfl, rfl, h1, h2, h3, h4⟩ := trkE_zero hb hc
    have K := Lib.hid fun q => rWith_any m u A k c s is (w.drewN q) (h.below (below_drewN (Below.refl _ _) q)) h1 h2 h4 h3
    rw [if_pos hc, hc, Int.toNat_natCast, Int.toNat_natCast]
    rw [hc] at C
    obtain ⟨R, hR⟩ : ∃ R, R = made m (fun x => if x = u then is else hasT s x) := ⟨_, rfl⟩
    rw [← hR] at K ⊢
    have C := Lib.hid C
    clear h hb hc h3 h4 hR
    go_enter Try.func27, Try.ntmps27
    go_wp2_with fail
    refine C.out.mono ?_
    rintro e w' ⟨rfl, q, rfl⟩
    have B := Lib.hid (below_drewN (Below.refl w.heap.size w) q)
    go_wp2_with fail
    refine (K.out q).mono ?_
    rintro e w5 ⟨A5, c5, rfl, hown, hbel⟩
    have O5 := Lib.hid hown
    have B5 := Lib.hid (B.out.trans (hbel.mono B.out.size))
    clear hown hbel
    go_wp2
    go_ret2
    exact ⟨A5, c5, rfl, owns_base O5.out B.out.size, B5.out⟩
  · rw [if_neg hc]
    have hne : (trkE n s t != 0) = true := by rw [bne_iff_ne]; exact hc
    obtain ⟨E, hE⟩ : ∃ E, E = trkE n s t := ⟨_, rfl⟩
    rw [← hE] at C hne ⊢
    have C := Lib.hid C
    clear h hb hc hE
    go_enter Try.func27, Try.ntmps27
    go_wp2_with fail
    refine C.out.mono ?_
    rintro e w' ⟨rfl, q, rfl⟩
    have B := Lib.hid (below_drewN (Below.refl w.heap.size w) q)
    go_wp2
    go_ret2
    exact ⟨none, 0, rfl, World.ownsRow_nil _ _ _ _, B.out⟩
/-- The document's Or. -/
theorem rOr_any (n : Int) (A : Option Addr) (k c : Nat) (a : List Int) (A' : Option Addr) (k' c' : Nat) (b : List Int) (w : World) (h : Arg w .u8 A k c a) (ha : ∀ z ∈ a, isByte z) (h' : Arg w .u8 A' k' c' b) (hb : ∀ z ∈ b, isByte z) :
    Calls Try.prog 29 #[.int .i64 n, .slice A k c, .slice A' k' c'] w (RowOut .u8 5 w (orB n a b) (bothE n a b)) := by
  have C := rfirst_any n A k c a A' k' c' b w h ha h' hb
  unfold orB
  by_cases hc : bothE n a b = 0
  · obtain ⟨m, rfl, h1, h2, h3, h4⟩ := bothE_zero ha hb hc
    have K := Lib.hid fun q => rUnion_any m A k c a A' k' c' b (w.drewN q) (h.below (below_drewN (Below.refl _ _) q)) (h'.below (below_drewN (Below.refl _ _) q)) h1 h2 h3 h4
    rw [if_pos hc, hc, Int.toNat_natCast]
    rw [hc] at C
    obtain ⟨R, hR⟩ : ∃ R, R = made m (fun u => hasT a u || hasT b u) := ⟨_, rfl⟩
    rw [← hR] at K ⊢
    have C := Lib.hid C
    clear h h' ha hb hc h3 h4 hR
    go_enter Try.func29, Try.ntmps29
    go_wp2_with fail
    refine C.out.mono ?_
    rintro e w' ⟨rfl, q, rfl⟩
    have B := Lib.hid (below_drewN (Below.refl w.heap.size w) q)
    go_wp2_with fail
    refine (K.out q).mono ?_
    rintro e w5 ⟨A5, c5, rfl, hown, hbel⟩
    have O5 := Lib.hid hown
    have B5 := Lib.hid (B.out.trans (hbel.mono B.out.size))
    clear hown hbel
    go_wp2
    go_ret2
    exact ⟨A5, c5, rfl, owns_base O5.out B.out.size, B5.out⟩
  · rw [if_neg hc]
    have hne : (bothE n a b != 0) = true := by rw [bne_iff_ne]; exact hc
    obtain ⟨E, hE⟩ : ∃ E, E = bothE n a b := ⟨_, rfl⟩
    rw [← hE] at C hne ⊢
    have C := Lib.hid C
    clear h h' ha hb hc hE
    go_enter Try.func29, Try.ntmps29
    go_wp2_with fail
    refine C.out.mono ?_
    rintro e w' ⟨rfl, q, rfl⟩
    have B := Lib.hid (below_drewN (Below.refl w.heap.size w) q)
    go_wp2
    go_ret2
    exact ⟨none, 0, rfl, World.ownsRow_nil _ _ _ _, B.out⟩
/-- The document's Minus. -/
theorem rMinus_any (n : Int) (A : Option Addr) (k c : Nat) (a : List Int) (A' : Option Addr) (k' c' : Nat) (b : List Int) (w : World) (h : Arg w .u8 A k c a) (ha : ∀ z ∈ a, isByte z) (h' : Arg w .u8 A' k' c' b) (hb : ∀ z ∈ b, isByte z) :
    Calls Try.prog 30 #[.int .i64 n, .slice A k c, .slice A' k' c'] w (RowOut .u8 5 w (minusB n a b) (bothE n a b)) := by
  have C := rfirst_any n A k c a A' k' c' b w h ha h' hb
  unfold minusB
  by_cases hc : bothE n a b = 0
  · obtain ⟨m, rfl, h1, h2, h3, h4⟩ := bothE_zero ha hb hc
    have K := Lib.hid fun q => rLess_any m A k c a A' k' c' b (w.drewN q) (h.below (below_drewN (Below.refl _ _) q)) (h'.below (below_drewN (Below.refl _ _) q)) h1 h2 h3 h4
    rw [if_pos hc, hc, Int.toNat_natCast]
    rw [hc] at C
    obtain ⟨R, hR⟩ : ∃ R, R = made m (fun u => hasT a u && !hasT b u) := ⟨_, rfl⟩
    rw [← hR] at K ⊢
    have C := Lib.hid C
    clear h h' ha hb hc h3 h4 hR
    go_enter Try.func30, Try.ntmps30
    go_wp2_with fail
    refine C.out.mono ?_
    rintro e w' ⟨rfl, q, rfl⟩
    have B := Lib.hid (below_drewN (Below.refl w.heap.size w) q)
    go_wp2_with fail
    refine (K.out q).mono ?_
    rintro e w5 ⟨A5, c5, rfl, hown, hbel⟩
    have O5 := Lib.hid hown
    have B5 := Lib.hid (B.out.trans (hbel.mono B.out.size))
    clear hown hbel
    go_wp2
    go_ret2
    exact ⟨A5, c5, rfl, owns_base O5.out B.out.size, B5.out⟩
  · rw [if_neg hc]
    have hne : (bothE n a b != 0) = true := by rw [bne_iff_ne]; exact hc
    obtain ⟨E, hE⟩ : ∃ E, E = bothE n a b := ⟨_, rfl⟩
    rw [← hE] at C hne ⊢
    have C := Lib.hid C
    clear h h' ha hb hc hE
    go_enter Try.func30, Try.ntmps30
    go_wp2_with fail
    refine C.out.mono ?_
    rintro e w' ⟨rfl, q, rfl⟩
    have B := Lib.hid (below_drewN (Below.refl w.heap.size w) q)
    go_wp2
    go_ret2
    exact ⟨none, 0, rfl, World.ownsRow_nil _ _ _ _, B.out⟩

end Go.Proofs.Ytpkecbejnpkieaa
