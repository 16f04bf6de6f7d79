/- Layer 5: the document's own: whether two disks are the same. -/
import Derived.Test.YtkbeeknnfndjgaaDiskR2
namespace Go.Proofs.Ytkbeeknnfndjgaa
open Go.RowKit
set_option linter.unusedVariables false

theorem list_same {α : Type} {z : α} {a b : List α} {n : Nat} (ha : a.length = n) (hb : b.length = n) (h : ∀ y, y < n → a.getD y z = b.getD y z) : a = b := by
  refine List.ext_getElem (ha.trans hb.symm) fun i h1 h2 => ?_
  have := h i (by omega)
  simpa [List.getD_eq_getElem?_getD, h1, h2] using this

set_option maxRecDepth 100000 in
set_option maxHeartbeats 3200000 in
theorem same_any (A : Option Addr) (n c : Nat) (A' : Option Addr) (n' c' : Nat) (S : List Sec) (C : List Pnd) (B : Option Addr) (m d : Nat) (B' : Option Addr) (m' d' : Nat) (T : List Sec) (D : List Pnd) (w : World) (ha : Dsk w A n c A' n' c' S C) (hb : Dsk w B m d B' m' d' T D) :
    Calls Try.prog 27 #[diskV A n c A' n' c', diskV B m d B' m' d'] w fun e w' => e = .returned (.bool (sameD S C T D)) ∧ Below w.heap.size w w' := by
  obtain ⟨x1, x2, hbel⟩ := boxes2 w A n c A' n' c' B m d B' m' d'
  have HA := Lib.hid (ha.below hbel)
  have HB := Lib.hid (hb.below hbel)
  have d0 := x1.cell 0
  have d1 := x1.cell 1
  have e0 := x2.cell 0
  have e1 := x2.cell 1
  simp only [List.getElem?_cons_zero, List.getElem?_cons_succ] at d0 d1 e0 e1
  have BEL := Lib.hid hbel
  have hE : sameD S C T D = decide (S = T ∧ C = D) := rfl
  have hcm := Nat.le_trans ha.secs.cap ha.secs.max
  have hcm' := Nat.le_trans ha.pnds.cap ha.pnds.max
  unfold maxLen at hcm hcm'
  have hla := ha.secs.len
  have hlb := hb.secs.len
  have hpa := ha.pnds.len
  have hpb := hb.pnds.len
  by_cases hn : n = m
  case neg =>
    rw [show sameD S C T D = false by rw [hE]; exact decide_eq_false fun e => hn (by rw [← hla, ← hlb, e.1])]
    have hn2 : ((n : Int) != (m : Int)) = true := bne_iff_ne.2 (by omega)
    clear hE hbel x1 x2 ha hb hla hlb hpa hpb
    go_enter Try.func27, Try.ntmps27
    go_wp2
    go_ret
    exact ⟨rfl, BEL.out⟩
  subst hn
  by_cases hn' : n' = m'
  case neg =>
    rw [show sameD S C T D = false by rw [hE]; exact decide_eq_false fun e => hn' (by rw [← hpa, ← hpb, e.2])]
    have hn2 : ((n' : Int) != (m' : Int)) = true := bne_iff_ne.2 (by omega)
    clear hE hbel x1 x2 ha hb hla hlb hpa hpb
    go_enter Try.func27, Try.ntmps27
    go_wp2
    go_ret
    exact ⟨rfl, BEL.out⟩
  subst hn'
  have YES := Lib.hid fun h1 h2 => (show sameD S C T D = true from decide_eq_true ⟨list_same (z := (false, [])) hla hlb h1, list_same (z := (0, [])) hpa hpb h2⟩)
  have NO1 := Lib.hid fun k (h : S.getD k (false, []) ≠ T.getD k (false, [])) => (show sameD S C T D = false from decide_eq_false fun e => h (by rw [e.1]))
  have NO2 := Lib.hid fun k (h : C.getD k (0, []) ≠ D.getD k (0, [])) => (show sameD S C T D = false from decide_eq_false fun e => h (by rw [e.2]))
  obtain ⟨R, hR⟩ : ∃ R, R = sameD S C T D := ⟨_, rfl⟩
  rw [← hR] at YES NO1 NO2 ⊢
  obtain ⟨w1, hw1⟩ : ∃ w1, w1 = (w.alloc (.cells #[.slice A n c, .slice A' n' c'] 25)).alloc (.cells #[.slice B n d, .slice B' n' d'] 25) := ⟨_, rfl⟩
  clear hE hbel x1 x2 ha hb hla hlb hpa hpb hR
  go_enter Try.func27, Try.ntmps27
  go_wp2
  rw [← hw1] at HA HB d0 d1 e0 e1 BEL ⊢
  clear hw1
  go_loopw [5] (fun i wr => ∃ k : Nat, k ≤ n ∧ i = .int .i64 k ∧ (∀ y, y < k → S.getD y (false, []) = T.getD y (false, [])) ∧ ∃ q, wr = w1.drewN q) (fun i _ => n - (intOf i).toNat)
  case atStart => exact ⟨0, Nat.zero_le _, rfl, fun y hy => by omega, 0, rfl⟩
  case round =>
    obtain ⟨k, hk, rfl, hall, q, rfl⟩ := hrel
    have ALL := Lib.hid hall
    clear hall
    by_cases hkn : k < n
    · have hki : (k : Int) < (n : Int) := by omega
      obtain ⟨b1, o1, A1, n1, c1, rfl, hlt1, hc1, hx1, ha1⟩ := HA.out.secs.at_ k hkn
      obtain ⟨b2, o2, A2, n2, c2, rfl, hlt2, hc2, hx2, ha2⟩ := HB.out.secs.at_ k hkn
      have hst1 := fun q => run_str (P := Try.prog) (w1.drewN q) 31 9 5 Try.underlying31 Try.underlying5 Try.underlying9 (c := c1) (ha1.seq.keep (w' := w1.drewN q) fun _ _ => rfl) ha1.len
      have hst2 := fun q => run_str (P := Try.prog) (w1.drewN q) 31 9 5 Try.underlying31 Try.underlying5 Try.underlying9 (c := c2) (ha2.seq.keep (w' := w1.drewN q) fun _ _ => rfl) ha2.len
      have hse := strs_eq (HA.out.secs.byte_at k) (HB.out.secs.byte_at k)
      have NOK := Lib.hid (NO1.out k)
      obtain ⟨s1, hs1⟩ : ∃ x, x = S.getD k (false, []) := ⟨_, rfl⟩
      obtain ⟨s2, hs2⟩ : ∃ x, x = T.getD k (false, []) := ⟨_, rfl⟩
      rw [← hs1] at hst1 hse NOK hx1
      rw [← hs2] at hst2 hse NOK hx2
      have HS1 := Lib.hid hs1
      have HS2 := Lib.hid hs2
      obtain ⟨p1, t1⟩ := s1
      obtain ⟨p2, t2⟩ := s2
      dsimp only at hst1 hst2 hse hx1 hx2
      clear hs1 hs2 ha1 ha2
      by_cases hp : p1 = p2
      · subst hp
        have hpp : (p1 != p1) = false := by simp
        by_cases ht : t1 = t2
        · have hse2 : ((strOfNums t1).toList == (strOfNums t2).toList) = true := hse.trans (decide_eq_true ht)
          have HT := Lib.hid ht
          clear ht hse
          go_wp2
          go_quiet (fail)
          go_wp2
          go_roundw
          case rel =>
            refine ⟨k + 1, by omega, by go_num, fun y' hy' => ?_, _, rfl⟩
            rcases Nat.lt_or_ge y' k with h' | h'
            · exact ALL.out y' h'
            · obtain rfl : y' = k := by omega
              rw [← HS1.out, ← HS2.out, HT.out]
          case measure => simp [intOf]; omega
        · have hse2 : ((strOfNums t1).toList == (strOfNums t2).toList) = false := hse.trans (decide_eq_false ht)
          have HN := Lib.hid (NOK.out (fun e => ht (congrArg Prod.snd e)))
          clear ht hse
          go_wp2
          go_quiet (fail)
          go_wp2
          go_ret
          rw [HN.out]
          exact ⟨rfl, below_drewN (below_drewN BEL.out _) _⟩
      · have hpp : (p1 != p2) = true := bne_iff_ne.2 hp
        have HN := Lib.hid (NOK.out (fun e => hp (congrArg Prod.fst e)))
        cases p1 <;> cases p2
        · exact absurd rfl hp
        · clear hp hse hpp
          go_wp2
          go_quiet (fail)
          go_wp2
          go_ret
          rw [HN.out]
          exact ⟨rfl, below_drewN (below_drewN BEL.out _) _⟩
        · clear hp hse hpp
          go_wp2
          go_quiet (fail)
          go_wp2
          go_ret
          rw [HN.out]
          exact ⟨rfl, below_drewN (below_drewN BEL.out _) _⟩
        · exact absurd rfl hp
    · obtain rfl : k = n := by omega
      have ALL1 := Lib.hid ALL.out
      clear ALL
      obtain ⟨r, hr⟩ : ∃ r, r = q := ⟨_, rfl⟩
      rw [← hr]
      clear hr
      go_wp2
      go_loopw [6] (fun i wr => ∃ j : Nat, j ≤ n' ∧ i = .int .i64 j ∧ (∀ y, y < j → C.getD y (0, []) = D.getD y (0, [])) ∧ ∃ q, wr = w1.drewN q) (fun i _ => n' - (intOf i).toNat)
      case atStart => exact ⟨0, Nat.zero_le _, rfl, fun y hy => by omega, r, rfl⟩
      case round =>
        obtain ⟨j, hk, rfl, hall, q, rfl⟩ := hrel
        have ALL := Lib.hid hall
        clear hall
        by_cases hkn : j < n'
        · have hki : (j : Int) < (n' : Int) := by omega
          obtain ⟨b1, o1, A1, n1, c1, rfl, hlt1, hc1, hx1, ha1⟩ := HA.out.pnds.at_ j hkn
          obtain ⟨b2, o2, A2, n2, c2, rfl, hlt2, hc2, hx2, ha2⟩ := HB.out.pnds.at_ j hkn
          have hst1 := fun q => run_str (P := Try.prog) (w1.drewN q) 31 9 5 Try.underlying31 Try.underlying5 Try.underlying9 (c := c1) (ha1.seq.keep (w' := w1.drewN q) fun _ _ => rfl) ha1.len
          have hst2 := fun q => run_str (P := Try.prog) (w1.drewN q) 31 9 5 Try.underlying31 Try.underlying5 Try.underlying9 (c := c2) (ha2.seq.keep (w' := w1.drewN q) fun _ _ => rfl) ha2.len
          have hse := strs_eq (HA.out.pnds.byte_at j) (HB.out.pnds.byte_at j)
          have NOK := Lib.hid (NO2.out j)
          obtain ⟨s1, hs1⟩ : ∃ x, x = C.getD j (0, []) := ⟨_, rfl⟩
          obtain ⟨s2, hs2⟩ : ∃ x, x = D.getD j (0, []) := ⟨_, rfl⟩
          rw [← hs1] at hst1 hse NOK hx1
          rw [← hs2] at hst2 hse NOK hx2
          have HS1 := Lib.hid hs1
          have HS2 := Lib.hid hs2
          obtain ⟨p1, t1⟩ := s1
          obtain ⟨p2, t2⟩ := s2
          dsimp only at hst1 hst2 hse hx1 hx2
          clear hs1 hs2 ha1 ha2
          by_cases hp : p1 = p2
          · subst hp
            have hpp : (p1 != p1) = false := by simp
            by_cases ht : t1 = t2
            · have hse2 : ((strOfNums t1).toList == (strOfNums t2).toList) = true := hse.trans (decide_eq_true ht)
              have HT := Lib.hid ht
              clear ht hse
              go_wp2
              go_quiet (fail)
              go_wp2
              go_roundw
              case rel =>
                refine ⟨j + 1, by omega, by go_num, fun y' hy' => ?_, _, rfl⟩
                rcases Nat.lt_or_ge y' j with h' | h'
                · exact ALL.out y' h'
                · obtain rfl : y' = j := by omega
                  rw [← HS1.out, ← HS2.out, HT.out]
              case measure => simp [intOf]; omega
            · have hse2 : ((strOfNums t1).toList == (strOfNums t2).toList) = false := hse.trans (decide_eq_false ht)
              have HN := Lib.hid (NOK.out (fun e => ht (congrArg Prod.snd e)))
              clear ht hse
              go_wp2
              go_quiet (fail)
              go_wp2
              go_ret
              rw [HN.out]
              exact ⟨rfl, below_drewN (below_drewN BEL.out _) _⟩
          · have hpp : (p1 != p2) = true := bne_iff_ne.2 hp
            have HN := Lib.hid (NOK.out (fun e => hp (congrArg Prod.fst e)))
            clear hp hse
            go_wp2
            go_quiet (fail)
            go_wp2
            go_ret
            rw [HN.out]
            exact ⟨rfl, below_drewN (below_drewN BEL.out _) _⟩
        · obtain rfl : j = n' := by omega
          have HY := Lib.hid (YES.out ALL1.out ALL.out)
          go_wp2
          go_ret
          rw [HY.out]
          exact ⟨rfl, below_drewN BEL.out q⟩

end Go.Proofs.Ytkbeeknnfndjgaa
