/- Layer 5, package disk: what is left of a disk by its writes' fates. -/
import Derived.Test.YteinfkjlcpfeiaaDskTw
import Derived.Test.YteinfkjlcpfeiaaDskL
import Derived.Test.YteinfkjlcpfeiaaDskP4
import Derived.Test.YteinfkjlcpfeiaaDiskSp
import Derived.Deep.Cut
namespace Go.Proofs.Yteinfkjlcpfeiaa
open Go.RowKit
set_option linter.unusedVariables false

/-- What a write of a fate leaves of its sector. -/
def newSec (s : Sec) (p : Pnd) (f : Int) : Sec := if f = 1 then (false, p.2) else if f = 2 then (true, noughts) else s
theorem byFate_new (Q : List Sec) (p : Pnd) (f : Int) (a : Nat) (ha : p.1 = a) (hl : a < Q.length) : byFate Q p f = Q.set a (newSec (Q.getD a (false, [])) p (f % 3)) := by
  unfold byFate newSec
  rw [ha, Int.toNat_natCast]
  by_cases h1 : f % 3 = 1
  · rw [if_pos h1, if_pos h1]
  · rw [if_neg h1, if_neg h1]
    by_cases h2 : f % 3 = 2
    · rw [if_pos h2, if_pos h2]
    · rw [if_neg h2, if_neg h2, List.getD_eq_getElem?_getD, List.getElem?_eq_getElem hl, Option.getD_some]
      simp
theorem behindK_over (S : List Sec) (C : List Pnd) (F : List Int) : ∀ j, behindK S C F (F.length + j) = behindK S C F F.length := fun j => by
  induction j with
  | zero => rfl
  | succ j ih =>
    rw [← Nat.add_assoc]
    show byFate (behindK S C F (F.length + j)) (C.getD (F.length + j) (0, [])) (F.getD (F.length + j) 0) = _
    rw [show F.getD (F.length + j) 0 = 0 by simp [List.getD_eq_getElem?_getD]]
    have : ∀ Q p, byFate Q p 0 = Q := fun Q p => by unfold byFate; simp
    rw [this, ih]
theorem behindS_all (S : List Sec) (C : List Pnd) (F : List Int) : behindS S C F = behindK S C F C.length := by
  unfold behindS
  rcases Nat.le_total C.length F.length with h | h
  · rw [Nat.min_eq_left h]
  · rw [Nat.min_eq_right h]
    obtain ⟨j, hj⟩ : ∃ j, C.length = F.length + j := ⟨C.length - F.length, by omega⟩
    rw [hj, behindK_over]
theorem left_gen (fv : Int) (h0 : 0 ≤ fv) (h3 : fv < 3) (base : Nat) (s : Sec) (p : Pnd) (As : Option Addr) (ns cs : Nat) (Ap : Option Addr) (np cp : Nat) (w : World) (hs : OwnTxt w base As ns cs s.2) (hp : OwnTxt w base Ap np cp p.2) (hb : base ≤ w.heap.size) :
    Calls Try.prog 89 #[.agg #[.slice As ns cs, .bool s.1], .agg #[.int .i64 p.1, .slice Ap np cp], .int .u8 fv] w fun e w' => ∃ X nx cx, e = .returned (.agg #[.slice X nx cx, .bool (newSec s p fv).1]) ∧ OwnTxt w' base X nx cx (newSec s p fv).2 ∧ Below w.heap.size w w' := by
  have h : fv = 0 ∨ fv = 1 ∨ fv = 2 := by omega
  rcases h with rfl | rfl | rfl
  · exact (left0 As ns cs s.1 p.1 Ap np cp w).mono fun e w' ⟨e1, hb1⟩ => ⟨As, ns, cs, e1, hs.below hb1, hb1⟩
  · exact (left1 As ns cs s.1 p.1 Ap np cp w).mono fun e w' ⟨e1, hb1⟩ => ⟨Ap, np, cp, e1, hp.below hb1, hb1⟩
  · exact (left2 As ns cs s.1 p.1 Ap np cp w).mono fun e w' ⟨g, e1, ho, hb1⟩ => ⟨_, _, _, e1, OwnTxt.of (owns_base ho hb), hb1⟩
theorem newSec_byte {s : Sec} {p : Pnd} {f : Int} (hs : ∀ z ∈ s.2, isByte z) (hp : ∀ z ∈ p.2, isByte z) : ∀ z ∈ (newSec s p f).2, isByte z := by
  unfold newSec
  split
  · exact hp
  · split
    · exact noughts_bytes
    · exact hs
theorem OwnPnds.secs_set {w : World} {base b : Nat} {A : Option Addr} {n c m d g : Nat} {S : List Sec} {C : List Pnd} (h : OwnPnds w base A n c C) (hs : OwnSecs w b (some ⟨g, 0, none⟩) m d S) (i j : Nat) (u v : Value) : OwnPnds ((w.setCell ⟨g, i, none⟩ u).setCell ⟨g, j, none⟩ v) base A n c C := by
  obtain ⟨vs, hown, _⟩ := hs
  have hg1 : w.grownBy ((w.setCell ⟨g, i, none⟩ u).setCell ⟨g, j, none⟩ v) (some g) := grownBy_trans (grownBy_set w g i u) (grownBy_set _ g j v)
  exact h.other hown (by decide) (by decide) hg1
theorem Blk.off_secs {w : World} {b m d g k : Nat} {t : TypeId} {cs : List Value} {S : List Sec} (h : Blk w k t cs) (ht : t ≠ 39) (hs : OwnSecs w b (some ⟨g, 0, none⟩) m d S) (i j : Nat) (u v : Value) : Blk ((w.setCell ⟨g, i, none⟩ u).setCell ⟨g, j, none⟩ v) k t cs := by
  obtain ⟨vs, hown, _⟩ := hs
  have hne : k ≠ g := fun e => by
    subst e
    rcases hown.2 with ⟨e2, _⟩ | ⟨g', cap, cur, e2, _, hg', _⟩ <;> cases e2
    unfold Blk at h
    rw [h] at hg'
    simp at hg'
    exact ht hg'.2
  exact (h.away hne i u).away hne j v

set_option maxRecDepth 100000 in
set_option maxHeartbeats 6400000 in
theorem settled_any (A : Option Addr) (n c : Nat) (A' : Option Addr) (n' c' : Nat) (S : List Sec) (C : List Pnd) (Af : Option Addr) (nf cf : Nat) (F : List Int) (w : World) (hq : Dsk w A n c A' n' c' S C) (hs : SmallD S C) (hm : mayD S C = true) (hf : Arg w .u8 Af nf cf F) (hfb : ∀ z ∈ F, isByte z) :
    Calls Try.prog 60 #[diskV A n c A' n' c', .slice Af nf cf] w fun e w' => ∃ B d, e = .returned (diskV B n d none 0 0) ∧ OwnDsk w' w.heap.size B n d none 0 0 (behindS S C F) [] ∧ Below w.heap.size w w' := by
  rw [behindS_all]
  obtain ⟨hm1, hm2, hm3⟩ := (mayD_iff S C).1 hm
  have hl := hq.secs.len
  have hl' := hq.pnds.len
  have hlf := hf.len
  have hn : n ≤ 1024 := by rw [← hl]; exact hm1.2.1
  have hn1 : 1 ≤ n := by rw [← hl]; exact hm1.1
  have hn' : n' ≤ 64 := by rw [← hl']; exact hm1.2.2
  have hcf := Nat.le_trans hf.cap hf.max
  unfold maxLen at hcf
  obtain ⟨b1, b2, hb⟩ := boxes2 w A n c A' n' c' none 0 0 none 0 0
  obtain ⟨w1, hw1⟩ : ∃ w1, w1 = (w.alloc (.cells #[.slice A n c, .slice A' n' c'] 25)).alloc (.cells #[.slice none 0 0, .slice none 0 0] 25) := ⟨_, rfl⟩
  have hsz1 : w1.heap.size = w.heap.size + 2 := by rw [hw1]; simp
  rw [← hw1] at b1 b2 hb
  have q0 := b1.cell 0
  have q1 := b1.cell 1
  simp only [List.getElem?_cons_zero, List.getElem?_cons_succ] at q0 q1
  have TW := Lib.hid (ptwin_any A n c A' n' c' S C w1 (hq.below hb) hs)
  have BK := Lib.hid fun k => (show behindK S C F (k + 1) = byFate (behindK S C F k) (C.getD k (0, [])) (F.getD k 0) from rfl)
  have BKL := Lib.hid fun k => (show (behindK S C F k).length = n from by rw [behindK_len, hl])
  have CB := Lib.hid hq.pnds.byte_at
  have CM := Lib.hid fun k (hk : k < n') => hm3 (C.getD k (0, [])) (by rw [List.getD_eq_getElem?_getD, List.getElem?_eq_getElem (by omega)]; exact List.getElem_mem _)
  have FB := Lib.hid fun k (hk : k < nf) => hfb (F.getD k 0) (by rw [List.getD_eq_getElem?_getD, List.getElem?_eq_getElem (by omega)]; exact List.getElem_mem _)
  have F0 := Lib.hid fun k (hk : ¬ k < nf) => (show F.getD k 0 = 0 by rw [List.getD_eq_getElem?_getD, List.getElem?_eq_none (by omega)]; rfl)
  have HF := Lib.hid hf
  have R1 := Lib.hid b2
  have B1 := Lib.hid hb
  have HLEN := Lib.hid hl'
  have HSZ1 := Lib.hid hsz1
  clear hq hs hm hm1 hm2 hm3 hl hl' hlf hf hfb hb b1 b2 hsz1
  go_enter Try.func60, Try.ntmps60
  go_wp2_with fail
  rw [← hw1]
  clear hw1
  refine TW.out.mono ?_
  rintro e w2 ⟨B, d, B', d', rfl, hown, hb2⟩
  obtain ⟨g, hg, _, _⟩ := hown.secs.block (by omega)
  subst hg
  obtain ⟨w3, hw3⟩ : ∃ w3, w3 = w2.alloc (.cells #[.slice (some ⟨g, 0, none⟩) n d, .slice B' n' d'] 25) := ⟨_, rfl⟩
  have hb23 : Below w2.heap.size w2 w3 := by rw [hw3]; exact (Below.refl _ _).alloc (Nat.le_refl _) _
  have hx3 : Blk w3 w2.heap.size 25 [.slice (some ⟨g, 0, none⟩) n d, .slice B' n' d'] := by rw [hw3]; exact Blk.new w2 25 _
  have hO3 := hown.below hb23
  have hb03 := B1.out.trans ((hb2.trans (hb23.mono hb2.size)).mono B1.out.size)
  have hR3 := R1.out.below (hb2.trans (hb23.mono hb2.size)) R1.out.lt
  have hH : w1.heap.size ≤ w2.heap.size := hb2.size
  obtain ⟨H3, hH3⟩ : ∃ H3, H3 = w2.heap.size := ⟨_, rfl⟩
  rw [← hH3] at hx3 hH
  have hHl : H3 < w3.heap.size := hx3.lt
  have hBase : w.heap.size ≤ w1.heap.size := by rw [HSZ1.out]; omega
  have HLE := Lib.hid hBase
  have HHL := Lib.hid hHl
  have HH := Lib.hid hH
  have r1 := hx3.cell 1
  simp only [List.getElem?_cons_zero, List.getElem?_cons_succ] at r1
  have O3 := Lib.hid hO3
  have X3 := Lib.hid hx3
  have R3 := Lib.hid hR3
  have B3 := Lib.hid hb03
  clear hown hb2 hb23 hO3 hx3 hR3 hb03 hBase hH hHl q0 q1 TW
  go_upto_region 2 with fail
  rw [← hw3, ← hH3]
  clear hw3 hH3
  go_wp2
  go_loopw [14] (fun i wr => ∃ k : Nat, k ≤ n' ∧ i = .int .i64 k ∧ OwnSecs wr w1.heap.size (some ⟨g, 0, none⟩) n d (behindK S C F k) ∧ OwnPnds wr w1.heap.size B' n' d' C ∧ Blk wr H3 25 [.slice (some ⟨g, 0, none⟩) n d, .slice B' n' d'] ∧ Blk wr (w.heap.size + 1) 25 [.slice none 0 0, .slice none 0 0] ∧ Below w.heap.size w wr) (fun i _ => n' - (intOf i).toNat)
  case atStart => exact ⟨0, Nat.zero_le _, rfl, O3.out.secs, O3.out.pnds, X3.out, R3.out, B3.out⟩
  case round =>
    obtain ⟨k, hk, rfl, hO, hP, hX, hR, hB⟩ := hrel
    by_cases hkn : k < n'
    · have hki : (k : Int) < (n' : Int) := by omega
      obtain ⟨gB, Ap, np, cp, rfl, hgB, hcP, hcA, hfA, hTp, hnp, hcpn, hcpm⟩ := hP.row hkn
      obtain ⟨hp0, hp1, hp2⟩ := CM.out k hkn
      obtain ⟨p, hp⟩ : ∃ p, p = C.getD k (0, []) := ⟨_, rfl⟩
      have CBk := CB.out k
      rw [← hp] at hcA hTp hp0 hp1 hp2 CBk
      have HP := Lib.hid hp
      obtain ⟨a, ha⟩ : ∃ a : Nat, p.1 = a := ⟨p.1.toNat, by omega⟩
      have han : a < n := by
        have := BKL.out 0
        have hls : (behindK S C F 0) = S := rfl
        rw [hls] at this
        omega
      rw [ha] at hcA
      obtain ⟨gA, As, ns, cs, e, hgA, hcS, hcB, _, hTs, _, _, _⟩ := hO.row han
      cases e
      obtain ⟨Q, hQ⟩ : ∃ Q, Q = behindK S C F k := ⟨_, rfl⟩
      have hQl := BKL.out k
      rw [← hQ] at hO hcB hTs hQl
      have HQ := Lib.hid hQ
      have hby := (Secs.of_own hO).byte_at a
      have BN := Lib.hid (byFate_new Q p (F.getD k 0) a ha (by omega))
      obtain ⟨s, hs⟩ : ∃ s, s = Q.getD a (false, []) := ⟨_, rfl⟩
      rw [← hs] at hcB hTs hby
      have HS := Lib.hid hs.symm
      obtain ⟨fv, hfv⟩ : ∃ fv, fv = F.getD k 0 % 3 := ⟨_, rfl⟩
      have hfv0 : 0 ≤ fv := by omega
      have hfv3 : fv < 3 := by omega
      have HFV := Lib.hid hfv.symm
      have hNB := newSec_byte (f := fv) hby CBk
      obtain ⟨wb, hwb⟩ : ∃ wb, wb = wr.alloc (.cells #[.int .i64 (a : Int), .slice Ap np cp] 63) := ⟨_, rfl⟩
      have hb4 : Below wr.heap.size wr wb := by rw [hwb]; exact (Below.refl _ _).alloc (Nat.le_refl _) _
      have hx4 : Blk wb wr.heap.size 63 [.int .i64 (a : Int), .slice Ap np cp] := by rw [hwb]; exact Blk.new wr 63 _
      have hszd : w1.heap.size ≤ wb.drew.heap.size := by
        have h1 := hX.lt
        have h2 := hb4.size
        have h3 := HH.out
        show w1.heap.size ≤ wb.heap.size
        omega
      have LC := left_gen fv hfv0 hfv3 w1.heap.size s p As ns cs Ap np cp wb.drew ((hTs.below hb4).below (below_drewN (Below.refl _ _) 1)) ((hTp.below hb4).below (below_drewN (Below.refl _ _) 1)) hszd
      rw [ha] at LC
      obtain ⟨ns2, hns2⟩ : ∃ x, x = newSec s p fv := ⟨_, rfl⟩
      rw [← hns2] at LC hNB
      have NS := Lib.hid hns2
      have NB := Lib.hid hNB
      have LC := Lib.hid LC
      clear hns2 hNB
      obtain ⟨bs, hbs⟩ : ∃ bs, bs = s.1 := ⟨_, rfl⟩
      rw [← hbs] at hcB LC
      have hcP' := hcP
      have hX4 := hX.below hb4 hX.lt
      have hO4 := hO.below hb4
      have hR4 := hR.below hb4 hR.lt
      have keepS : ∀ wx, Below wb.heap.size wb wx → wx.cell? ⟨H3, 0, none⟩ = some (.slice (some ⟨g, 0, none⟩) n d) ∧ wx.cell? ⟨wr.heap.size, 0, none⟩ = some (.int .i64 (a : Int)) ∧ wx.cell? ⟨wr.heap.size, 1, none⟩ = some (.slice Ap np cp) ∧ wx.cell? ⟨g, a * 2, none⟩ = some (.slice As ns cs) ∧ wx.cell? ⟨g, a * 2 + 1, none⟩ = some (.bool bs) := fun wx hx =>
        ⟨(hX4.below hx hX4.lt).cell 0, (hx4.below hx hx4.lt).cell 0, (hx4.below hx hx4.lt).cell 1, (hx.cell (p := ⟨g, _, none⟩) (Nat.lt_of_lt_of_le (World.block_lt_of_cell? wr _ hcS) hb4.size)).trans ((hb4.cell (p := ⟨g, _, none⟩) (World.block_lt_of_cell? wr _ hcS)).trans hcS), (hx.cell (p := ⟨g, a * 2 + 1, none⟩) (Nat.lt_of_lt_of_le (World.block_lt_of_cell? wr _ hcB) hb4.size)).trans ((hb4.cell (p := ⟨g, a * 2 + 1, none⟩) (World.block_lt_of_cell? wr _ hcB)).trans hcB)⟩
      have hHeld := keepS wb.drew (below_drewN (Below.refl _ _) 1)
      have O4 := Lib.hid hO4
      have P4 := Lib.hid (hP.below hb4)
      have X4 := Lib.hid hX4
      have R4 := Lib.hid hR4
      have B4 := Lib.hid (hB.trans (hb4.mono hB.size))
      have hfa := (HF.out.below hB).below hb4
      have hpi : (0 : Int) ≤ (a : Int) := by omega
      have hai : (a : Int) < (n : Int) := by omega
      by_cases hkf : k < nf
      · have hkfi : (k : Int) < (nf : Int) := by omega
        obtain ⟨bf, of, rfl, _, hcf2⟩ := hfa.seq.int (j := k) (by rw [hfa.len]; exact hkf)
        have hfbk := FB.out k hkf
        obtain ⟨f, hff⟩ : ∃ f, f = F.getD k 0 := ⟨_, rfl⟩
        rw [← hff] at hcf2 hfbk hfv
        rw [hwb] at hcf2
        have hf0 : 0 ≤ f := hfbk.1
        have hf1 : f < 256 := hfbk.2
        have hrem : f.tmod 3 = fv := by rw [Int.tmod_eq_emod_of_nonneg hf0]; exact hfv.symm
        have hrem2 : f % 3 = fv := hfv.symm
        have hwrf : IntKind.u8.wrap fv = fv := by simp [IntKind.wrap, IntKind.bits, IntKind.signed]; omega
        clear hO hP hX hR hB hcB hTp hTs hcS hnp hp hQ hs hby CBk hbs hO4 hR4 hX4 hx4 hb4 hfa hff hfv ha hfbk hQl hszd hp0 hp1 hp2
        go_upto_region 8 with fail
        rw [← hwb]
        clear hwb
        refine wp_region_to 14 (fun w' => w'.cell? ⟨H3, 0, none⟩ = some (.slice (some ⟨g, 0, none⟩) n d) ∧ w'.cell? ⟨wr.heap.size, 0, none⟩ = some (.int .i64 (a : Int)) ∧ w'.cell? ⟨wr.heap.size, 1, none⟩ = some (.slice Ap np cp) ∧ w'.cell? ⟨g, a * 2, none⟩ = some (.slice As ns cs) ∧ w'.cell? ⟨g, a * 2 + 1, none⟩ = some (.bool bs)) (by kernel_rfl) ?_
        refine wpAnyG_take (i := 0) (v := ?_) rfl (by kernel_rfl) (by kernel_rfl) (by kernel_rfl) (by kernel_rfl) (by kernel_rfl) rfl (fun _ _ _ h => h) (Or.inl ⟨by rfl, ?_⟩) hHeld ?_
        rotate_left
        · (intro w' hSw; (try dsimp only at hSw); go_simp; (try with_reducible rfl))
        simp only [Act.put, List.setIfInBounds_toArray]
        refine wpAnyG_take (i := 1) (v := ?_) rfl (by kernel_rfl) (by kernel_rfl) (by kernel_rfl) (by kernel_rfl) (by kernel_rfl) rfl (fun _ _ _ h => h) (Or.inl ⟨by rfl, ?_⟩) hHeld ?_
        rotate_left
        · (intro w' hSw; (try dsimp only at hSw); go_simp; (try with_reducible rfl))
        simp only [Act.put]
        refine wpAnyG_take (i := 2) (v := ?_) rfl (by kernel_rfl) (by kernel_rfl) (by kernel_rfl) (by kernel_rfl) (by kernel_rfl) rfl (fun _ _ _ h => h) (Or.inl ⟨by rfl, ?_⟩) hHeld ?_
        rotate_left
        · (intro w' hSw; (try dsimp only at hSw); go_simp; (try with_reducible rfl))
        simp only [Act.put]
        refine wpAnyG_take (i := 3) (v := ?_) rfl (by kernel_rfl) (by kernel_rfl) (by kernel_rfl) (by kernel_rfl) (by kernel_rfl) rfl (fun _ _ _ h => h) (Or.inl ⟨by rfl, ?_⟩) hHeld ?_
        rotate_left
        · (intro w' hSw; (try dsimp only at hSw); go_simp; (try with_reducible rfl))
        simp only [Act.put]
        refine wpAnyG_take (i := 4) (v := ?_) rfl (by kernel_rfl) (by kernel_rfl) (by kernel_rfl) (by kernel_rfl) (by kernel_rfl) rfl (fun _ _ _ h => h) (Or.inl ⟨by rfl, ?_⟩) hHeld ?_
        rotate_left
        · (intro w' hSw; (try dsimp only at hSw); go_simp; (try with_reducible rfl))
        simp only [Act.put]
        refine wpAnyG_take (i := 5) (v := ?_) rfl (by kernel_rfl) (by kernel_rfl) (by kernel_rfl) (by kernel_rfl) (by kernel_rfl) rfl (fun _ _ _ h => h) (Or.inl ⟨by rfl, ?_⟩) hHeld ?_
        rotate_left
        · (intro w' hSw; (try dsimp only at hSw); go_simp; (try with_reducible rfl))
        simp only [Act.put]
        refine wpAnyG_take (i := 6) (v := ?_) rfl (by kernel_rfl) (by kernel_rfl) (by kernel_rfl) (by kernel_rfl) (by kernel_rfl) rfl (fun _ _ _ h => h) (Or.inl ⟨by rfl, ?_⟩) hHeld ?_
        rotate_left
        · (intro w' hSw; (try dsimp only at hSw); go_simp; (try with_reducible rfl))
        simp only [Act.put]
        refine wpAnyG_take (i := 7) (v := ?_) rfl (by kernel_rfl) (by kernel_rfl) (by kernel_rfl) (by kernel_rfl) (by kernel_rfl) rfl (fun _ _ _ h => h) (Or.inl ⟨by rfl, ?_⟩) hHeld ?_
        rotate_left
        · (intro w' hSw; (try dsimp only at hSw); go_simp; (try with_reducible rfl))
        simp only [Act.put]
        refine wpAnyG_take (i := 8) (v := ?_) rfl (by kernel_rfl) (by kernel_rfl) (by kernel_rfl) (by kernel_rfl) (by kernel_rfl) rfl (fun _ _ _ h => h) (Or.inl ⟨by rfl, ?_⟩) hHeld ?_
        rotate_left
        · (intro w' hSw; (try dsimp only at hSw); go_simp; (try with_reducible rfl))
        simp only [Act.put]
        refine wpAnyG_take (i := 9) (v := ?_) rfl (by kernel_rfl) (by kernel_rfl) (by kernel_rfl) (by kernel_rfl) (by kernel_rfl) rfl (fun _ _ _ h => h) (Or.inl ⟨by rfl, ?_⟩) hHeld ?_
        rotate_left
        · (intro w' hSw; (try dsimp only at hSw); go_simp; (try with_reducible rfl))
        simp only [Act.put]
        refine wpAnyG_take (i := 10) (v := ?_) rfl (by kernel_rfl) (by kernel_rfl) (by kernel_rfl) (by kernel_rfl) (by kernel_rfl) rfl (fun _ _ _ h => h) (Or.inl ⟨by rfl, ?_⟩) hHeld ?_
        rotate_left
        · (intro w' hSw; (try dsimp only at hSw); go_simp; (try with_reducible rfl))
        simp only [Act.put]
        refine wpAnyG_take (i := 11) (v := ?_) rfl (by kernel_rfl) (by kernel_rfl) (by kernel_rfl) (by kernel_rfl) (by kernel_rfl) rfl (fun _ _ _ h => h) (Or.inl ⟨by rfl, ?_⟩) hHeld ?_
        rotate_left
        · (intro w' hSw; (try dsimp only at hSw); go_simp; (try with_reducible rfl))
        simp only [Act.put]
        refine wpAnyG_one (i := 12) (by kernel_rfl) rfl (fun K hK => ?_)
        go_simp
        go_at_call 89
        refine LC.out.mono ?_
        rintro e w5 ⟨X, nx, cx, rfl, hT, hb5⟩
        have hcur : Below wb.heap.size wb w5 := (below_drewN (Below.refl _ _) 1).trans hb5
        have O5 := O4.out.below hcur
        obtain ⟨g', u5, v5, e5, hbg, hc5, hc6, hf5, hf6, hO6⟩ := O5.setTxt (i := a) (x := ns2.1) (zs := ns2.2) han NB.out hT
        cases e5
        refine hK.out _ _ (fun _ => keepS _ hcur) (fun hHeld => ?_)
        have hHeld := hHeld (by decide)
        clear hK K
        try simp only [Act.put, List.setIfInBounds_toArray, List.set_cons_zero, List.set_cons_succ]
        refine wpAnyG_take (i := 13) (v := ?_) rfl (by kernel_rfl) (by kernel_rfl) (by kernel_rfl) (by kernel_rfl) (by kernel_rfl) rfl (fun _ _ _ h => h) (Or.inl ⟨by rfl, ?_⟩) hHeld ?_
        rotate_left
        · (intro w' hSw; (try dsimp only at hSw); go_simp; (try with_reducible rfl))
        simp only [Act.put, List.setIfInBounds_toArray]
        refine wpAnyG_one (i := 14) (by kernel_rfl) rfl (fun K hK => ?_)
        go_simp
        refine hK.out _ _ (fun h => absurd rfl h) (fun _ => ?_)
        clear hK K
        refine wpAnyG_done (by kernel_rfl) ?_ _
        have P6 := Lib.hid ((P4.out.below hcur).secs_set O5 (a * 2) (a * 2 + 1) (.slice X nx cx) (.bool ns2.1))
        have X6 := Lib.hid ((X4.out.below hcur X4.out.lt).off_secs (by decide) O5 (a * 2) (a * 2 + 1) (.slice X nx cx) (.bool ns2.1))
        have R6 := Lib.hid ((R4.out.below hcur R4.out.lt).off_secs (by decide) O5 (a * 2) (a * 2 + 1) (.slice X nx cx) (.bool ns2.1))
        have B6 := Lib.hid (((B4.out.trans (hcur.mono B4.out.size)).setCell (p := ⟨g, a * 2, none⟩) (Nat.le_trans HLE.out hbg) (.slice X nx cx)).setCell (p := ⟨g, a * 2 + 1, none⟩) (Nat.le_trans HLE.out hbg) (.bool ns2.1))
        have O6 := Lib.hid hO6
        obtain ⟨w6, hw6⟩ : ∃ w6, w6 = (w5.setCell ⟨g, a * 2, none⟩ (.slice X nx cx)).setCell ⟨g, a * 2 + 1, none⟩ (.bool ns2.1) := ⟨_, rfl⟩
        rw [← hw6] at P6 X6 R6 B6 O6
        rw [← hw6]
        clear hw6 hO6 O5 hcur hT hb5 hc5 hc6 hf5 hf6 hHeld keepS
        go_wp2
        go_roundw
        case rel => exact ⟨k + 1, by omega, by go_num, by rw [BK.out k, ← HQ.out, ← HP.out, BN.out, HS.out, HFV.out, ← NS.out]; exact O6.out, P6.out, X6.out, R6.out, B6.out⟩
        case measure => simp [intOf]; omega
      · have hkfi : ¬ (k : Int) < (nf : Int) := by omega
        have hfz : fv = 0 := by rw [hfv, F0.out k hkf]; rfl
        clear hO hP hX hR hB hcB hTp hTs hcS hnp hp hQ hs hby CBk hbs hO4 hR4 hX4 hx4 hb4 hfa hfv ha hQl hszd hp0 hp1 hp2
        subst hfz
        go_upto_region 8 with fail
        rw [← hwb]
        clear hwb
        refine wp_region_to 14 (fun w' => w'.cell? ⟨H3, 0, none⟩ = some (.slice (some ⟨g, 0, none⟩) n d) ∧ w'.cell? ⟨wr.heap.size, 0, none⟩ = some (.int .i64 (a : Int)) ∧ w'.cell? ⟨wr.heap.size, 1, none⟩ = some (.slice Ap np cp) ∧ w'.cell? ⟨g, a * 2, none⟩ = some (.slice As ns cs) ∧ w'.cell? ⟨g, a * 2 + 1, none⟩ = some (.bool bs)) (by kernel_rfl) ?_
        refine wpAnyG_take (i := 0) (v := ?_) rfl (by kernel_rfl) (by kernel_rfl) (by kernel_rfl) (by kernel_rfl) (by kernel_rfl) rfl (fun _ _ _ h => h) (Or.inl ⟨by rfl, ?_⟩) hHeld ?_
        rotate_left
        · (intro w' hSw; (try dsimp only at hSw); go_simp; (try with_reducible rfl))
        simp only [Act.put, List.setIfInBounds_toArray]
        refine wpAnyG_take (i := 1) (v := ?_) rfl (by kernel_rfl) (by kernel_rfl) (by kernel_rfl) (by kernel_rfl) (by kernel_rfl) rfl (fun _ _ _ h => h) (Or.inl ⟨by rfl, ?_⟩) hHeld ?_
        rotate_left
        · (intro w' hSw; (try dsimp only at hSw); go_simp; (try with_reducible rfl))
        simp only [Act.put]
        refine wpAnyG_take (i := 2) (v := ?_) rfl (by kernel_rfl) (by kernel_rfl) (by kernel_rfl) (by kernel_rfl) (by kernel_rfl) rfl (fun _ _ _ h => h) (Or.inl ⟨by rfl, ?_⟩) hHeld ?_
        rotate_left
        · (intro w' hSw; (try dsimp only at hSw); go_simp; (try with_reducible rfl))
        simp only [Act.put]
        refine wpAnyG_take (i := 3) (v := ?_) rfl (by kernel_rfl) (by kernel_rfl) (by kernel_rfl) (by kernel_rfl) (by kernel_rfl) rfl (fun _ _ _ h => h) (Or.inl ⟨by rfl, ?_⟩) hHeld ?_
        rotate_left
        · (intro w' hSw; (try dsimp only at hSw); go_simp; (try with_reducible rfl))
        simp only [Act.put]
        refine wpAnyG_take (i := 4) (v := ?_) rfl (by kernel_rfl) (by kernel_rfl) (by kernel_rfl) (by kernel_rfl) (by kernel_rfl) rfl (fun _ _ _ h => h) (Or.inl ⟨by rfl, ?_⟩) hHeld ?_
        rotate_left
        · (intro w' hSw; (try dsimp only at hSw); go_simp; (try with_reducible rfl))
        simp only [Act.put]
        refine wpAnyG_take (i := 5) (v := ?_) rfl (by kernel_rfl) (by kernel_rfl) (by kernel_rfl) (by kernel_rfl) (by kernel_rfl) rfl (fun _ _ _ h => h) (Or.inl ⟨by rfl, ?_⟩) hHeld ?_
        rotate_left
        · (intro w' hSw; (try dsimp only at hSw); go_simp; (try with_reducible rfl))
        simp only [Act.put]
        refine wpAnyG_take (i := 6) (v := ?_) rfl (by kernel_rfl) (by kernel_rfl) (by kernel_rfl) (by kernel_rfl) (by kernel_rfl) rfl (fun _ _ _ h => h) (Or.inl ⟨by rfl, ?_⟩) hHeld ?_
        rotate_left
        · (intro w' hSw; (try dsimp only at hSw); go_simp; (try with_reducible rfl))
        simp only [Act.put]
        refine wpAnyG_take (i := 7) (v := ?_) rfl (by kernel_rfl) (by kernel_rfl) (by kernel_rfl) (by kernel_rfl) (by kernel_rfl) rfl (fun _ _ _ h => h) (Or.inl ⟨by rfl, ?_⟩) hHeld ?_
        rotate_left
        · (intro w' hSw; (try dsimp only at hSw); go_simp; (try with_reducible rfl))
        simp only [Act.put]
        refine wpAnyG_take (i := 8) (v := ?_) rfl (by kernel_rfl) (by kernel_rfl) (by kernel_rfl) (by kernel_rfl) (by kernel_rfl) rfl (fun _ _ _ h => h) (Or.inl ⟨by rfl, ?_⟩) hHeld ?_
        rotate_left
        · (intro w' hSw; (try dsimp only at hSw); go_simp; (try with_reducible rfl))
        simp only [Act.put]
        refine wpAnyG_take (i := 9) (v := ?_) rfl (by kernel_rfl) (by kernel_rfl) (by kernel_rfl) (by kernel_rfl) (by kernel_rfl) rfl (fun _ _ _ h => h) (Or.inl ⟨by rfl, ?_⟩) hHeld ?_
        rotate_left
        · (intro w' hSw; (try dsimp only at hSw); go_simp; (try with_reducible rfl))
        simp only [Act.put]
        refine wpAnyG_take (i := 10) (v := ?_) rfl (by kernel_rfl) (by kernel_rfl) (by kernel_rfl) (by kernel_rfl) (by kernel_rfl) rfl (fun _ _ _ h => h) (Or.inl ⟨by rfl, ?_⟩) hHeld ?_
        rotate_left
        · (intro w' hSw; (try dsimp only at hSw); go_simp; (try with_reducible rfl))
        simp only [Act.put]
        refine wpAnyG_take (i := 11) (v := ?_) rfl (by kernel_rfl) (by kernel_rfl) (by kernel_rfl) (by kernel_rfl) (by kernel_rfl) rfl (fun _ _ _ h => h) (Or.inl ⟨by rfl, ?_⟩) hHeld ?_
        rotate_left
        · (intro w' hSw; (try dsimp only at hSw); go_simp; (try with_reducible rfl))
        simp only [Act.put]
        refine wpAnyG_one (i := 12) (by kernel_rfl) rfl (fun K hK => ?_)
        go_simp
        go_at_call 89
        refine LC.out.mono ?_
        rintro e w5 ⟨X, nx, cx, rfl, hT, hb5⟩
        have hcur : Below wb.heap.size wb w5 := (below_drewN (Below.refl _ _) 1).trans hb5
        have O5 := O4.out.below hcur
        obtain ⟨g', u5, v5, e5, hbg, hc5, hc6, hf5, hf6, hO6⟩ := O5.setTxt (i := a) (x := ns2.1) (zs := ns2.2) han NB.out hT
        cases e5
        refine hK.out _ _ (fun _ => keepS _ hcur) (fun hHeld => ?_)
        have hHeld := hHeld (by decide)
        clear hK K
        try simp only [Act.put, List.setIfInBounds_toArray, List.set_cons_zero, List.set_cons_succ]
        refine wpAnyG_take (i := 13) (v := ?_) rfl (by kernel_rfl) (by kernel_rfl) (by kernel_rfl) (by kernel_rfl) (by kernel_rfl) rfl (fun _ _ _ h => h) (Or.inl ⟨by rfl, ?_⟩) hHeld ?_
        rotate_left
        · (intro w' hSw; (try dsimp only at hSw); go_simp; (try with_reducible rfl))
        simp only [Act.put, List.setIfInBounds_toArray]
        refine wpAnyG_one (i := 14) (by kernel_rfl) rfl (fun K hK => ?_)
        go_simp
        refine hK.out _ _ (fun h => absurd rfl h) (fun _ => ?_)
        clear hK K
        refine wpAnyG_done (by kernel_rfl) ?_ _
        have P6 := Lib.hid ((P4.out.below hcur).secs_set O5 (a * 2) (a * 2 + 1) (.slice X nx cx) (.bool ns2.1))
        have X6 := Lib.hid ((X4.out.below hcur X4.out.lt).off_secs (by decide) O5 (a * 2) (a * 2 + 1) (.slice X nx cx) (.bool ns2.1))
        have R6 := Lib.hid ((R4.out.below hcur R4.out.lt).off_secs (by decide) O5 (a * 2) (a * 2 + 1) (.slice X nx cx) (.bool ns2.1))
        have B6 := Lib.hid (((B4.out.trans (hcur.mono B4.out.size)).setCell (p := ⟨g, a * 2, none⟩) (Nat.le_trans HLE.out hbg) (.slice X nx cx)).setCell (p := ⟨g, a * 2 + 1, none⟩) (Nat.le_trans HLE.out hbg) (.bool ns2.1))
        have O6 := Lib.hid hO6
        obtain ⟨w6, hw6⟩ : ∃ w6, w6 = (w5.setCell ⟨g, a * 2, none⟩ (.slice X nx cx)).setCell ⟨g, a * 2 + 1, none⟩ (.bool ns2.1) := ⟨_, rfl⟩
        rw [← hw6] at P6 X6 R6 B6 O6
        rw [← hw6]
        clear hw6 hO6 O5 hcur hT hb5 hc5 hc6 hf5 hf6 hHeld keepS
        go_wp2
        go_roundw
        case rel => exact ⟨k + 1, by omega, by go_num, by rw [BK.out k, ← HQ.out, ← HP.out, BN.out, HS.out, HFV.out, ← NS.out]; exact O6.out, P6.out, X6.out, R6.out, B6.out⟩
        case measure => simp [intOf]; omega
    · obtain rfl : n' = k := by omega
      have q0 := hX.cell 0
      have q1 := hX.cell 1
      have g0 := hX.free 0
      have g1 := hX.free 1
      have p0 := hR.cell 0
      have p1 := hR.cell 1
      have f0 := hR.free 0
      have f1 := hR.free 1
      simp only [List.getElem?_cons_zero, List.getElem?_cons_succ] at q0 q1 p0 p1
      have HXL := hX.lt
      have hne : w.heap.size + 1 ≠ H3 := by
        have h1 := HH.out
        have h2 := HSZ1.out
        omega
      have hX5 := hX.set 1 (.slice none 0 0)
      have e0 := hX5.cell 0
      have e1 := hX5.cell 1
      simp only [List.getElem?_cons_zero, List.getElem?_cons_succ, List.set_cons_zero, List.set_cons_succ] at e0 e1
      have hR5 := hR.away hne 1 (.slice none 0 0)
      have z := hR5.two (.slice (some ⟨g, 0, none⟩) n d) (.slice none 0 0)
      have z0 := z.cell 0
      have z1 := z.cell 1
      have s0 := hR5.cell 0
      have s1 := hR5.cell 1
      have v0 := hR5.free 0
      have v1 := hR5.free 1
      simp only [List.getElem?_cons_zero, List.getElem?_cons_succ] at z0 z1 s0 s1
      have O8 := (OwnDsk.mk hO (OwnPnds.nil _ _)).box hX 1 (.slice none 0 0)
      have O9 := Lib.hid ((O8.two hR5 (.slice (some ⟨g, 0, none⟩) n d) (.slice none 0 0)).lower HLE.out)
      have hHb : w.heap.size ≤ H3 := Nat.le_trans HLE.out HH.out
      have B9 := Lib.hid (below_two (hB.setCell (p := ⟨H3, 1, none⟩) hHb (.slice none 0 0)) (show w.heap.size ≤ w.heap.size + 1 by omega) (.slice (some ⟨g, 0, none⟩) n d) (.slice none 0 0))
      have RL := Lib.hid HLEN.out
      clear hO hP hX hR hB hX5 hR5 z O8 r1
      go_wp2
      refine bodyPost_ret (v := diskV (some ⟨g, 0, none⟩) n d none 0 0) ?_ rfl ⟨_, d, rfl, ?_, B9.out⟩
      · clear q0 q1 g0 g1 p0 p1 f0 f1 e0 e1 s0 s1 v0 v1
        simp [results, Try.f60, go_sem, z0, z1]
      · rw [RL.out]
        exact O9.out

end Go.Proofs.Yteinfkjlcpfeiaa
