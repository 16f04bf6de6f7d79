/- Layer 5, package disk: New. -/
import Derived.Test.YtkbeeknnfndjgaaDskX
import Derived.Deep.RegionWith
import Derived.Lib.QuoteBits
namespace Go.Proofs.Ytkbeeknnfndjgaa
open Go.RowKit
set_option linter.unusedVariables false

/-- A text put in the place of another. -/
theorem OwnSecs.putTxt {w : World} {base : Nat} {A : Option Addr} {n c : Nat} {ss : List Sec} (h : OwnSecs w base A n c ss) {i : Nat} (hi : i < n) {Ai : Option Addr} {ni ci : Nat} {zs : List Int} (hz : ∀ z ∈ zs, isByte z) (ht : OwnTxt w base Ai ni ci zs) :
    ∃ g u, A = some ⟨g, 0, none⟩ ∧ base ≤ g ∧ w.cell? ⟨g, i * 2, none⟩ = some u ∧ w.frozen? ⟨g, i * 2, none⟩ = false ∧ OwnSecs (w.setCell ⟨g, i * 2, none⟩ (.slice Ai ni ci)) base A n c (ss.set i ((ss.getD i (false, [])).1, zs)) ∧ ∃ cs, w.heap[g]? = some (.cells cs 39 (0, 0)) := by
  obtain ⟨vs, hown, hl, hby, hin⟩ := h
  have hvl : vs.length = n * 2 := hown.1
  obtain ⟨g, u, rfl, hbg, hc, hf, hset⟩ := owns_at2 hown (show i * 2 < n * 2 by omega)
  have hkeep : ∀ {A' : Option Addr} {n' c' : Nat} {xs : List Int}, OwnTxt w base A' n' c' xs → OwnTxt (w.setCell ⟨g, i * 2, none⟩ (.slice Ai ni ci)) base A' n' c' xs := fun hx =>
    hx.keep fun g' _ hu => Below.heap_setCell w _ _ g' (fun e => by subst e; exact u8_row (by decide) hu hown rfl)
  have hg : ∃ cs, w.heap[g]? = some (.cells cs 39 (0, 0)) := by
    rcases hown.2 with ⟨e, _⟩ | ⟨g', cap, cur, e, _, hg', _⟩ <;> cases e
    exact ⟨cur, hg'⟩
  refine ⟨g, u, rfl, hbg, hc, hf, ⟨_, hset _, by rw [List.length_set]; exact hl, ?_, fun j hj => ?_⟩, hg⟩
  · intro y hy z hzz
    rcases List.mem_or_eq_of_mem_set hy with hy | rfl
    · exact hby y hy z hzz
    · exact hz z hzz
  · obtain ⟨Aj, nj, cj, hv, hx, hoj⟩ := hin j hj
    by_cases e : i = j
    · subst e
      have e2 : (ss.set i ((ss.getD i (false, [])).1, zs)).getD i (false, []) = ((ss.getD i (false, [])).1, zs) := by simp [List.getD_eq_getElem?_getD, show i < ss.length by omega]
      rw [e2]
      exact ⟨Ai, ni, ci, by rw [List.getElem?_set_self (by omega)], by rw [List.getElem?_set_ne (by omega)]; exact hx, hkeep ht⟩
    · have e2 : (ss.set i ((ss.getD i (false, [])).1, zs)).getD j (false, []) = ss.getD j (false, []) := by simp [List.getD_eq_getElem?_getD, List.getElem?_set_ne e]
      rw [e2]
      exact ⟨Aj, nj, cj, by rw [List.getElem?_set_ne (by omega)]; exact hv, by rw [List.getElem?_set_ne (by omega)]; exact hx, hkeep hoj⟩

theorem make_secs (n : Nat) (hn : n ≤ 1024) (w : World) :
    (Instr.makeSlice 22 (.int .i64 (n : Int)) (.int .i64 (n : Int))).run Try.prog w = .ok (.slice (some ⟨w.heap.size, 0, none⟩) n n) (w.alloc (.cells (madeCells #[.slice none 0 0, .bool false] (n * 2)) 39)) := by
  obtain ⟨i, hi, hz, h1, hb⟩ := info_parts sec_info
  have hr := run_make (P := Try.prog) w 22 39 i _ Try.underlying22 hi hz .i64 .i64 n n (by omega) (Int.le_refl _) (by rw [hb]; omega) (by omega)
  simp only [Int.toNat_natCast, h1] at hr
  exact hr
/-- The first k of n sectors are of noughts; the others have no text. -/
def someS (n k : Nat) : List Sec := (List.range n).map fun i => (false, if i < k then noughts else [])
theorem someS_len (n k : Nat) : (someS n k).length = n := by simp [someS]
theorem someS_at {n k i : Nat} (h : i < n) : (someS n k).getD i (false, []) = (false, if i < k then noughts else []) := by simp [someS, List.getD_eq_getElem?_getD, h]
theorem someS_step {n k : Nat} (h : k < n) : (someS n k).set k (((someS n k).getD k (false, [])).1, noughts) = someS n (k + 1) := by
  have hg : ∀ j i, i < n → (someS n j)[i]? = some (false, if i < j then noughts else []) := fun j i h => by simp [someS, h]
  rw [someS_at h]
  apply List.ext_getElem?
  intro i
  rcases Nat.lt_or_ge i n with hi | hi
  · rw [hg (k + 1) i hi]
    by_cases e : k = i
    · subst e
      rw [List.getElem?_set_self (by rw [someS_len]; exact h), if_pos (Nat.lt_succ_self k)]
    · rw [List.getElem?_set_ne e, hg k i hi]
      by_cases h3 : i < k
      · rw [if_pos h3, if_pos (by omega)]
      · rw [if_neg h3, if_neg (by omega)]
  · rw [List.getElem?_eq_none (by rw [List.length_set, someS_len]; exact hi), List.getElem?_eq_none (by rw [someS_len]; exact hi)]
theorem someS_all (n : Nat) : someS n n = List.replicate n (false, noughts) := by
  rw [List.eq_replicate_iff]
  refine ⟨someS_len n n, fun s hs => ?_⟩
  unfold someS at hs
  obtain ⟨i, hi, rfl⟩ := List.mem_map.1 hs
  rw [if_pos (List.mem_range.1 hi)]
theorem made_own (n : Nat) (hn : n ≤ 1024) (w : World) : OwnSecs (w.alloc (.cells (madeCells #[.slice none 0 0, .bool false] (n * 2)) 39)) w.heap.size (some ⟨w.heap.size, 0, none⟩) n n (someS n 0) := by
  have hml : (1024 : Nat) ≤ maxLen := by decide
  refine ⟨(madeCells #[.slice none 0 0, .bool false] (n * 2)).toList, ⟨by simp [size_madeCells], .inr ⟨w.heap.size, n, madeCells #[.slice none 0 0, .bool false] (n * 2), rfl, Nat.le_refl _, heap_alloc_new w _, Nat.le_refl _, by omega, size_madeCells _ _, ?_⟩⟩, someS_len n 0, ?_, fun i hi => ?_⟩
  · rw [List.take_of_length_le (by simp [size_madeCells])]
  · intro s hs
    unfold someS at hs
    obtain ⟨i, hi, rfl⟩ := List.mem_map.1 hs
    simp
  · rw [someS_at hi, if_neg (by omega)]
    refine ⟨none, 0, 0, ?_, ?_, OwnTxt.nil _ _⟩
    · simp [madeCells, show i * 2 < n * 2 by omega]
    · simp [madeCells, show i * 2 + 1 < n * 2 by omega, Nat.mul_add_mod_self_right]

set_option maxRecDepth 100000 in
set_option maxHeartbeats 3200000 in
theorem pnew_any (m : Int) (w : World) : Calls Try.prog 13 #[.int .i64 m] w (DiskOut w (newS m) [] (newE m)) := by
  have hbel : Below w.heap.size w (w.alloc (.cells #[.slice none 0 0, .slice none 0 0] 25)) := (Below.refl _ _).alloc (Nat.le_refl _) _
  have x := Blk.new w 25 [.slice none 0 0, .slice none 0 0]
  obtain ⟨w1, hw1⟩ : ∃ w1, w1 = w.alloc (.cells #[.slice none 0 0, .slice none 0 0] 25) := ⟨_, rfl⟩
  have hsz : w1.heap.size = w.heap.size + 1 := by rw [hw1]; simp
  rw [← hw1] at hbel x
  have IM := isMany_any m w1
  by_cases h1 : 1 ≤ m ∧ m ≤ 1024
  · have hE : newE m = 0 := by unfold newE; rw [if_pos h1]
    obtain ⟨n, rfl⟩ : ∃ n : Nat, m = n := ⟨m.toNat, by omega⟩
    have hI : newS (n : Int) = List.replicate n (false, noughts) := by unfold newS; rw [if_pos hE, Int.toNat_natCast]
    rw [hE, hI, ← someS_all]
    rw [decide_eq_true h1] at IM
    have hn : n ≤ 1024 := by omega
    have hn1 : 1 ≤ n := by omega
    have hmk := make_secs n hn w1
    have hO := made_own n hn w1
    obtain ⟨w2, hw2⟩ : ∃ w2, w2 = w1.alloc (.cells (madeCells #[.slice none 0 0, .bool false] (n * 2)) 39) := ⟨_, rfl⟩
    rw [← hw2] at hmk hO
    have hb12 : Below w1.heap.size w1 w2 := by rw [hw2]; exact (Below.refl _ _).alloc (Nat.le_refl _) _
    have hsz2 : w2.heap.size = w.heap.size + 2 := by rw [hw2]; simp [hsz]
    obtain ⟨w3, hw3⟩ : ∃ w3, w3 = w2.alloc (.cells #[.slice (some ⟨w.heap.size + 1, 0, none⟩) n n, .slice none 0 0] 25) := ⟨_, rfl⟩
    have hb23 : Below w2.heap.size w2 w3 := by rw [hw3]; exact (Below.refl _ _).alloc (Nat.le_refl _) _
    have hx3 : Blk w3 (w.heap.size + 2) 25 [.slice (some ⟨w.heap.size + 1, 0, none⟩) n n, .slice none 0 0] := by rw [hw3, ← hsz2]; exact Blk.new w2 25 _
    have hO3 := hO.below hb23
    rw [hsz] at hO3 hmk
    have hR3 := x.below (hb12.trans (hb23.mono hb12.size)) x.lt
    have hB3 := hbel.trans ((hb12.trans (hb23.mono hb12.size)).mono hbel.size)
    have q0 := hx3.cell 0
    simp only [List.getElem?_cons_zero] at q0
    have O3 := Lib.hid (hO3.lower (Nat.le_succ w.heap.size))
    have X3 := Lib.hid hx3
    have R3 := Lib.hid hR3
    have B3 := Lib.hid hB3
    have IM := Lib.hid IM
    have HMK := Lib.hid hmk
    have HSZ2 := Lib.hid hsz2
    clear hbel x hsz hE hI h1 hmk hO hb12 hw2 hb23 hx3 hO3 hR3 hB3 hsz2
    go_enter Try.func13, Try.ntmps13
    go_wp2_with fail
    rw [← hw1]
    clear hw1
    refine IM.out.mono ?_
    rintro e w' ⟨rfl, rfl⟩
    have hmk := HMK.out
    have hsz2 := HSZ2.out
    go_wp2
    rw [← hw3]
    clear hw3 hmk hsz2
    go_wp2
    go_loopw [16] (fun i wr => ∃ k : Nat, k ≤ n ∧ i = .int .i64 k ∧ OwnSecs wr w.heap.size (some ⟨w.heap.size + 1, 0, none⟩) n n (someS n k) ∧ Blk wr (w.heap.size + 2) 25 [.slice (some ⟨w.heap.size + 1, 0, none⟩) n n, .slice none 0 0] ∧ Blk wr w.heap.size 25 [.slice none 0 0, .slice none 0 0] ∧ Below w.heap.size w wr) (fun i _ => n - (intOf i).toNat)
    case atStart => exact ⟨0, Nat.zero_le _, rfl, O3.out, X3.out, R3.out, B3.out⟩
    case round =>
      obtain ⟨k, hk, rfl, hO, hX, hR, hB⟩ := hrel
      have q0 := hX.cell 0
      simp only [List.getElem?_cons_zero] at q0
      by_cases hkn : k < n
      · have hki : (k : Int) < (n : Int) := by omega
        have hwk : IntKind.i64.wrap (k : Int) = (k : Int) := Lib.wrap_i64_small k (by omega)
        have hszd : w.heap.size ≤ wr.drew.heap.size := by show w.heap.size ≤ wr.heap.size; have := hX.lt; omega
        have hbd : Below wr.heap.size wr wr.drew := below_drewN (Below.refl _ _) 1
        have OD := Lib.hid hO
        have XD := Lib.hid hX
        have RD := Lib.hid hR
        have BD := Lib.hid hB
        have SS := Lib.hid (someS_step hkn)
        have HSD := Lib.hid hszd
        have HBD := Lib.hid hbd
        clear hO hX hR hB hszd hbd
        go_wp2
        go_region_with (go_at_call 49; refine (noughts_out _).mono ?_; rintro e w2 ⟨gN, rfl, hown2, hb2⟩; have hb3 := HBD.out.trans hb2; have s0 := (XD.out.below hb3 XD.out.lt).cell 0; simp only [List.getElem?_cons_zero] at s0; obtain ⟨g', u, e', _, hcc, hff, hO2, cs2, hcs2⟩ := (OD.out.below hb3).putTxt hkn noughts_bytes (OwnTxt.of (owns_base hown2 HSD.out)); cases e'; have X2 := Lib.hid ((XD.out.below hb3 XD.out.lt).away (show w.heap.size + 2 ≠ w.heap.size + 1 by omega) (k * 2) (.slice (some ⟨gN, 0, none⟩) 32 32)); have R2 := Lib.hid ((RD.out.below hb3 RD.out.lt).away (show w.heap.size ≠ w.heap.size + 1 by omega) (k * 2) (.slice (some ⟨gN, 0, none⟩) 32 32)); have B2 := Lib.hid ((BD.out.trans (hb3.mono BD.out.size)).setCell (p := ⟨w.heap.size + 1, k * 2, none⟩) (Nat.le_succ _) (.slice (some ⟨gN, 0, none⟩) 32 32)); rw [SS.out] at hO2; have O2 := Lib.hid hO2; clear hown2 hb2 hb3 hO2 hcs2)
        all_goals (
          go_wp2
          go_roundw
          case rel => exact ⟨k + 1, by omega, by go_num, O2.out, X2.out, R2.out, B2.out⟩
          case measure => simp [intOf]; omega)
      · obtain rfl : n = k := by omega
        have q1 := hX.cell 1
        have e0 := hR.cell 0
        have e1 := hR.cell 1
        have g0 := hR.free 0
        have g1 := hR.free 1
        simp only [List.getElem?_cons_zero, List.getElem?_cons_succ] at q1 e0 e1
        have z := hR.two (.slice (some ⟨w.heap.size + 1, 0, none⟩) n n) (.slice none 0 0)
        have z0 := z.cell 0
        have z1 := z.cell 1
        simp only [List.getElem?_cons_zero, List.getElem?_cons_succ] at z0 z1
        have O9 := Lib.hid ((OwnDsk.mk hO (OwnPnds.nil _ w.heap.size)).two hR (.slice (some ⟨w.heap.size + 1, 0, none⟩) n n) (.slice none 0 0))
        have B9 := Lib.hid (below_two hB (Nat.le_refl _) (.slice (some ⟨w.heap.size + 1, 0, none⟩) n n) (.slice none 0 0))
        clear hO hX hR hB z
        go_wp2
        have hl := someS_len n n
        refine bodyPost_ret (v := .tuple #[diskV (some ⟨w.heap.size + 1, 0, none⟩) n n none 0 0, .int .i64 0]) ?_ rfl ⟨some ⟨w.heap.size + 1, 0, none⟩, n, none, 0, by rw [hl]; rfl, by rw [hl]; exact O9.out, B9.out⟩
        clear q0 q1 e0 e1 g0 g1
        simp [results, Try.f13, go_sem, z0, z1]
  · have hE : newE m = 2 := by unfold newE; rw [if_neg h1]
    have hI : newS m = [] := by unfold newS; rw [if_neg (by rw [hE]; decide)]
    rw [hE, hI]
    rw [decide_eq_false h1] at IM
    have IM := Lib.hid IM
    have e0 := x.cell 0
    have e1 := x.cell 1
    have g0 := x.free 0
    have g1 := x.free 1
    simp only [List.getElem?_cons_zero, List.getElem?_cons_succ] at e0 e1
    have z := x.two (.slice none 0 0) (.slice none 0 0)
    have z0 := z.cell 0
    have z1 := z.cell 1
    simp only [List.getElem?_cons_zero, List.getElem?_cons_succ] at z0 z1
    have B9 := Lib.hid (below_two hbel (Nat.le_refl _) (.slice none 0 0) (.slice none 0 0))
    clear hbel x hsz hE hI h1 z
    go_enter Try.func13, Try.ntmps13
    go_wp2_with fail
    rw [← hw1]
    clear hw1
    refine IM.out.mono ?_
    rintro e w' ⟨rfl, rfl⟩
    go_wp2
    refine bodyPost_ret (v := .tuple #[diskV none 0 0 none 0 0, .int .i64 2]) ?_ rfl ⟨none, 0, none, 0, rfl, OwnDsk.nil _ _, B9.out⟩
    clear e0 e1 g0 g1
    simp [results, Try.f13, go_sem, z0, z1]

end Go.Proofs.Ytkbeeknnfndjgaa
