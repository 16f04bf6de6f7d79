/- Layer 6: the law's own: bytes, and what a cell has. -/
/- Layer 6: the law's own: the chapter's disk, in numbers. -/
/- Layer 6: the law's own: the chapter's disk. -/
import Derived.Test.YteinfkjlcpfeiaaCellWr
import Derived.Deep.RegionHeld3
import Derived.Deep.RegionWith
import Derived.Deep.Cut
import Derived.Deep.CutRange
namespace Go.Proofs.Yteinfkjlcpfeiaa
open Go.RowKit
set_option linter.unusedVariables false

theorem whole_len {bs : List Int} {n : Nat} {z : Int} (hl : bs.length = n) (h : ∀ u, u < n → bs.getD u 0 = z) : bs = List.replicate n z := by
  rw [List.eq_replicate_iff]
  refine ⟨hl, fun b hb => ?_⟩
  obtain ⟨i, hi, rfl⟩ := List.getElem_of_mem hb
  have := h i (by omega)
  rwa [List.getD_eq_getElem?_getD, List.getElem?_eq_getElem hi] at this

theorem set_getJ (l : List Int) (k u : Nat) (x : Int) (hk : k < l.length) : (l.set k x).getD u 0 = if u = k then x else l.getD u 0 := by
  rw [List.getD_eq_getElem?_getD, List.getElem?_set, List.getD_eq_getElem?_getD]
  by_cases h : k = u
  · subst h; simp [hk]
  · rw [if_neg h, if_neg (fun e => h e.symm)]
theorem ofk_any (z : Int) (n : Nat) (hn : n ≤ 1000) (w : World) :
    Calls Try.prog 40 #[.int .u8 z, .int .i64 (n : Int)] w fun e w' => ∃ g, e = .returned (.slice (some ⟨g, 0, none⟩) n n) ∧ w'.ownsRow w.heap.size 5 1 (.slice (some ⟨g, 0, none⟩) n n) n (ints .u8 (List.replicate n z)) ∧ Below w.heap.size w w' := by
  obtain ⟨V0, hV0⟩ : ∃ V : List Value, V = List.replicate n (.int .u8 0) := ⟨_, rfl⟩
  have hmk : (Instr.makeSlice 31 (.int .i64 (n : Int)) (.int .i64 (n : Int))).run Try.prog w = .ok (.slice (some ⟨w.heap.size, 0, none⟩) n n) (w.alloc (.cells V0.toArray 5)) := by
    rw [hV0]
    exact make_bytes n hn w
  have hblk := Blk.new w 5 V0
  rw [hV0, show List.replicate n (Value.int .u8 0) = ints .u8 (List.replicate n 0) by simp [ints]] at hblk
  rw [show (ints .u8 (List.replicate n 0)) = V0 by rw [hV0]; simp [ints]] at hblk
  have hml : (1000 : Nat) ≤ maxLen := by decide
  have hown : (w.alloc (.cells V0.toArray 5)).ownsRow w.heap.size 5 1 (.slice (some ⟨w.heap.size, 0, none⟩) n n) n (ints .u8 (List.replicate n 0)) := by
    have h := hblk.owns (Nat.le_refl _) (show V0.length = n by rw [hV0, List.length_replicate]) (Nat.le_trans hn hml)
    rwa [show V0 = ints .u8 (List.replicate n 0) by rw [hV0]; simp [ints]] at h ⊢
  have hbel : Below w.heap.size w (w.alloc (.cells V0.toArray 5)) := (Below.refl _ _).alloc (Nat.le_refl _) _
  obtain ⟨w1, hw1⟩ : ∃ w1, w1 = w.alloc (.cells V0.toArray 5) := ⟨_, rfl⟩
  rw [← hw1] at hmk hown hbel
  have OWN := Lib.hid hown
  have BEL := Lib.hid hbel
  clear hw1 hown hbel hblk hV0
  go_enter Try.func40, Try.ntmps40
  go_wp2
  go_loopw [6] (fun i wr => ∃ k : Nat, k ≤ n ∧ i = .int .i64 k ∧ (∃ bs : List Int, bs.length = n ∧ (∀ u, u < k → bs.getD u 0 = z) ∧ wr.ownsRow w.heap.size 5 1 (.slice (some ⟨w.heap.size, 0, none⟩) n n) n (ints .u8 bs)) ∧ Below w.heap.size w wr) (fun i _ => n - (intOf i).toNat)
  case atStart => exact ⟨0, Nat.zero_le _, rfl, ⟨_, by rw [List.length_replicate], fun u h => absurd h (Nat.not_lt_zero _), OWN.out⟩, BEL.out⟩
  case round =>
    obtain ⟨k, hk, rfl, ⟨bs, hbl, hbs, hown⟩, hbel⟩ := hrel
    have B := Lib.hid hbel
    have HBS := Lib.hid hbs
    by_cases hkm : k < n
    · have hki : (k : Int) < (n : Int) := by omega
      obtain ⟨g, hg, hbg, hc, hf, hset⟩ := owns_int_at hown hkm
      cases hg
      have SET := Lib.hid (hset z)
      clear hown hbel hset hbs
      go_wp2
      go_roundw
      case rel =>
        refine ⟨k + 1, by omega, by go_num, ⟨_, ?_, fun u hu => ?_, SET.out⟩, B.out.setCell (p := ⟨w.heap.size, k, none⟩) (Nat.le_refl _) _⟩
        · rw [List.length_set]; exact hbl
        · rw [set_getJ _ _ _ _ (by omega)]
          by_cases e : u = k
          · rw [if_pos e]
          · rw [if_neg e]; exact HBS.out u (by omega)
      case measure => simp [intOf]; omega
    · obtain rfl : k = n := by omega
      have hwh := whole_len hbl hbs
      subst hwh
      have O := Lib.hid hown
      clear hown hbel hbs hbl HBS
      go_wp2
      go_ret
      exact ⟨_, rfl, O.out, B.out⟩

set_option maxRecDepth 100000 in
set_option maxHeartbeats 3200000 in
/-- Has the chapter's cell these bytes, of that version: what Read answers. -/
theorem has_any (A : Option Addr) (n c : Nat) (A' : Option Addr) (n' c' : Nat) (S : List Sec) (C : List Pnd) (B : Option Addr) (m d : Nat) (b : Txt) (v : Int) (w : World) (hq : Dsk w A n c A' n' c' S C) (hs : SmallD S C) (hb : Arg w .u8 B m d b) (hE : crE S C 0 2 = 0) (hB : crB S C 0 2 = b) (hV : crV S C 0 2 = v) :
    Calls Try.prog 43 #[diskV A n c A' n' c', .slice B m d, .int .u32 v] w fun e w' => e = .returned (.bool true) ∧ Below w.heap.size w w' := by
  have hb0 : Below w.heap.size w (w.alloc (.cells #[.slice A n c, .slice A' n' c'] 25)) := (Below.refl _ _).alloc (Nat.le_refl _) _
  have x := DBox.new hq
  have hb1 := hb.below hb0
  obtain ⟨w1, hW⟩ : ∃ x : World, x = w.alloc (.cells #[.slice A n c, .slice A' n' c'] 25) := ⟨_, rfl⟩
  rw [← hW] at hb0 x hb1
  have k := cread_any A n c A' n' c' S C 0 2 w1 x.dsk hs
  rw [hE, hB, hV] at k
  have K := Lib.hid k
  obtain ⟨c0, c1⟩ := x.cells
  have BL := Lib.hid hb0
  have HB := Lib.hid hb1
  have hm := hb.len
  subst hm
  have hst : ((strOfNums b).toList == (strOfNums b).toList) = true := beq_self_eq_true _
  have hvv : (v == v) = true := beq_self_eq_true _
  clear hb0 x hb1 k hq hs hb hE hB hV
  go_enter Try.func43, Try.ntmps43
  go_wp2_with fail
  rw [← hW]
  clear hW
  refine K.out.mono ?_
  rintro e w2 ⟨A2, c2, rfl, hown, hb2⟩
  have e1 := str_arg (Arg.own hown)
  have e2 := str_arg (HB.out.below hb2)
  have B2 := Lib.hid (BL.out.trans (hb2.mono BL.out.size))
  clear hown hb2 K c0 c1 HB
  go_wp2
  go_ret
  exact ⟨rfl, B2.out⟩

theorem ofi_any (z : Int) (n : Nat) (i : Int) (hi : (n : Int) = i) (hn : n ≤ 1000) (w : World) :
    Calls Try.prog 40 #[.int .u8 z, .int .i64 i] w fun e w' => ∃ g, e = .returned (.slice (some ⟨g, 0, none⟩) n n) ∧ w'.ownsRow w.heap.size 5 1 (.slice (some ⟨g, 0, none⟩) n n) n (ints .u8 (List.replicate n z)) ∧ Below w.heap.size w w' := by
  subst hi
  exact ofk_any z n hn w

end Go.Proofs.Yteinfkjlcpfeiaa

namespace Go.Proofs.Yteinfkjlcpfeiaa
open Go.RowKit
set_option linter.unusedVariables false

def d4S : List Sec := List.replicate 4 (false, noughts)
abbrev a30 : Txt := List.replicate 30 97
def fC : List Pnd := cwC d4S [] 0 2 a30
def fS : List Sec := flS d4S fC
def xC : List Pnd := cwC fS [] 0 2 [98]
def yS : List Sec := crS fS xC [1]
def zC : List Pnd := cwC yS [] 0 2 [99]
theorem n_new : newS 4 = d4S ∧ newE 4 = 0 := ⟨by kernel_rfl, by kernel_rfl⟩
theorem n_first : cwE d4S [] 0 2 a30 = 0 ∧ cwS d4S [] 0 2 a30 = d4S ∧ fC.length = 2 := ⟨by kernel_rfl, by kernel_rfl, by kernel_rfl⟩
theorem n_flush : chkD d4S fC = 0 ∧ fS.length = 4 := ⟨by kernel_rfl, by kernel_rfl⟩
theorem n_has1 : crE fS [] 0 2 = 0 ∧ crB fS [] 0 2 = a30 ∧ crV fS [] 0 2 = 1 := ⟨by kernel_rfl, by kernel_rfl, by kernel_rfl⟩
theorem n_x : cwE fS [] 0 2 [98] = 0 ∧ cwS fS [] 0 2 [98] = fS ∧ xC.length = 2 := ⟨by kernel_rfl, by kernel_rfl, by kernel_rfl⟩
theorem n_has2 : crE fS xC 0 2 = 0 ∧ crB fS xC 0 2 = [98] ∧ crV fS xC 0 2 = 2 := ⟨by kernel_rfl, by kernel_rfl, by kernel_rfl⟩
theorem n_y : chkD fS xC = 0 ∧ yS.length = 4 := ⟨by kernel_rfl, by kernel_rfl⟩
theorem n_has3 : crE yS [] 0 2 = 0 ∧ crB yS [] 0 2 = a30 ∧ crV yS [] 0 2 = 1 := ⟨by kernel_rfl, by kernel_rfl, by kernel_rfl⟩
theorem n_z : cwE yS [] 0 2 [99] = 0 ∧ cwS yS [] 0 2 [99] = yS ∧ zC.length = 2 := ⟨by kernel_rfl, by kernel_rfl, by kernel_rfl⟩
theorem n_has4 : crE yS zC 0 2 = 0 ∧ crB yS zC 0 2 = [99] ∧ crV yS zC 0 2 = 3 := ⟨by kernel_rfl, by kernel_rfl, by kernel_rfl⟩

end Go.Proofs.Yteinfkjlcpfeiaa

namespace Go.Proofs.Yteinfkjlcpfeiaa
open Go.RowKit
set_option linter.unusedVariables false

theorem few_smallJ {S : List Sec} {C : List Pnd} (h : (decide (S.length ≤ 100) && decide (C.length ≤ 100) && S.all (fun s => decide (s.2.length ≤ 100)) && C.all (fun s => decide (s.2.length ≤ 100))) = true) : SmallD S C := by
  rw [Bool.and_eq_true, Bool.and_eq_true, Bool.and_eq_true, decide_eq_true_iff, decide_eq_true_iff, List.all_eq_true, List.all_eq_true] at h
  exact ⟨h.1.1.1, h.1.1.2, fun s hs => of_decide_eq_true (h.1.2 s hs), fun s hs => of_decide_eq_true (h.2 s hs)⟩
theorem full_byteJ {n : Nat} {z : Int} (h0 : 0 ≤ z) (h1 : z < 256) : ∀ x ∈ List.replicate n z, isByte x := fun x hx => by
  rw [List.eq_of_mem_replicate hx]
  exact ⟨h0, h1⟩

set_option maxRecDepth 100000 in
set_option maxHeartbeats 6400000 in
theorem first_of (w : World) : Calls Try.prog 38 #[] w fun e w' => ∃ A c A' c', e = .returned (.tuple #[diskV A 4 c A' 0 c', .bool true]) ∧ OwnDsk w' w.heap.size A 4 c A' 0 c' fS [] ∧ Below w.heap.size w w' := by
  have x0 := Blk.new w 25 [.slice none 0 0, .slice none 0 0]
  have hb0 : Below w.heap.size w (w.alloc (.cells #[.slice none 0 0, .slice none 0 0] 25)) := (Below.refl _ _).alloc (Nat.le_refl _) _
  obtain ⟨v0, hW⟩ : ∃ x : World, x = w.alloc (.cells #[.slice none 0 0, .slice none 0 0] 25) := ⟨_, rfl⟩
  rw [← hW] at x0 hb0
  have X0 := Lib.hid x0
  have B := Lib.hid hb0
  clear x0 hb0
  go_enter Try.func38, Try.ntmps38
  go_wp2_with fail
  rw [← hW]
  clear hW
  refine (dsk_does.new 4 v0 (.inl (by decide))).mono ?_
  intro e w1 hout
  obtain ⟨A1, c1, A1', c1', rfl, hown, hb⟩ := DiskOut.as hout (S' := d4S) (C' := []) (E' := 0) (n := 4) (n' := 0) (by kernel_rfl) rfl (by kernel_rfl) rfl rfl
  have hb2 := hb.alloc hb.size (.cells #[.slice A1 4 c1, .slice A1' 0 c1'] 25)
  have X := Lib.hid (DBox.new (Dsk.of_own hown))
  have X0 := Lib.hid (X0.out.below hb2 X0.out.lt)
  have B := Lib.hid (B.out.trans (hb2.mono B.out.size))
  clear hout hown hb hb2
  go_upto_region 2 with fail
  obtain ⟨b5, hB⟩ : ∃ x, x = w1.heap.size := ⟨_, rfl⟩
  rw [← hB] at X ⊢
  obtain ⟨v1, hW⟩ : ∃ x : World, x = w1.alloc (.cells #[.slice A1 4 c1, .slice A1' 0 c1'] 25) := ⟨_, rfl⟩
  rw [← hW] at X X0 B ⊢
  clear hW hB
  have hS : Below v1.heap.size v1 v1 := Below.refl _ _
  go_cut [4, 5] from 12 to 17 (fun x e wx => ∃ g A9 c9 A9' c9', x = .pointer (some ⟨g, 0, none⟩) ∧ e = .int .i64 0 ∧ Blk wx g 25 [.slice A9 4 c9, .slice A9' 2 c9'] ∧ OwnDsk wx w.heap.size A9 4 c9 A9' 2 c9' d4S fC ∧ Below v1.heap.size v1 wx)
  case first =>
    have hcur : Below v1.heap.size v1 v1.drew := below_drewN (Below.refl _ _) 1
    have keepX : ∀ wx, Below v1.heap.size v1 wx → wx.cell? ⟨b5, 0, none⟩ = some (.slice A1 4 c1) ∧ wx.cell? ⟨b5, 1, none⟩ = some (.slice A1' 0 c1') := fun wx hx => (X.out.below hx).cells
    have hkX := keepX _ hcur
    go_region_held3 (fun w' => w'.cell? ⟨b5, 0, none⟩ = some (.slice A1 4 c1) ∧ w'.cell? ⟨b5, 1, none⟩ = some (.slice A1' 0 c1'))
      (first | exact hkX | exact keepX _ (below_drewN ((Below.refl _ _).alloc (Nat.le_refl _) _) 1) | exact keepX _ ((hcur.setCell (p := ⟨_, 0, none⟩) hL _).setCell (p := ⟨_, 1, none⟩) hL _) | go_keep)
      (first
        | (go_at_call 40; with_reducible refine (ofi_any 97 30 30 rfl (by decide) v1.drew).mono ?_; rintro e wO ⟨gO, rfl, hownO, hbO⟩; have hcur := hcur.trans (hbO.mono hcur.size); have hkX := keepX _ hcur)
        | (go_at_call 40; have hL := Nat.le_refl v1.heap.size; have hcur : Below v1.heap.size v1 (v1.alloc (.cells #[.slice none 0 0, .slice none 0 0] 25)).drew := below_drewN ((Below.refl _ _).alloc (Nat.le_refl _) _) 1; have hZ0 := Blk.new v1 25 [.slice none 0 0, .slice none 0 0]; have hZ := hZ0.below (below_drewN (Below.refl _ _) 1) hZ0.lt; with_reducible refine (ofi_any 97 30 30 rfl (by decide) _).mono ?_; rintro e wO ⟨gO, rfl, hownO, hbO⟩; have hZ := hZ.below hbO hZ.lt; have hcur := hcur.trans (hbO.mono hcur.size); have hkX := keepX _ hcur)
        | (go_at_call 41; have hM := hcur.size; with_reducible refine (cwrite_any A1 4 c1 A1' 0 c1' d4S [] 0 2 (some ⟨gO, 0, none⟩) 30 30 a30 _ (X.out.below hcur).dsk (few_smallJ (by kernel_rfl)) (Arg.own hownO) (full_byteJ (by decide) (by decide)) (by decide)).mono ?_; intro e w2 hout; obtain ⟨A9, c9, A9', c9', rfl, hown, hb⟩ := DiskOut.as hout (S' := d4S) (C' := fC) (E' := 0) (n := 4) (n' := 2) n_first.2.1 rfl n_first.1 rfl n_first.2.2; have hcur := hcur.trans (hb.mono hcur.size); have hkX := keepX _ hcur; try (have hZ := hZ.below hb hZ.lt; have z0 := hZ.cell 0; have z1 := hZ.cell 1; have g0 := hZ.free 0; have g1 := hZ.free 1; simp only [List.getElem?_cons_zero, List.getElem?_cons_succ] at z0 z1))
        | (go_at_call 41; have hL := hcur.size; have hcur := hcur.alloc hcur.size (.cells #[.slice none 0 0, .slice none 0 0] 25); have hZ := Blk.new wO 25 [.slice none 0 0, .slice none 0 0]; have hownO := owns_below hownO ((Below.refl wO.heap.size wO).alloc (Nat.le_refl _) (.cells #[.slice none 0 0, .slice none 0 0] 25)); have hM := hcur.size; with_reducible refine (cwrite_any A1 4 c1 A1' 0 c1' d4S [] 0 2 (some ⟨gO, 0, none⟩) 30 30 a30 _ (X.out.below hcur).dsk (few_smallJ (by kernel_rfl)) (Arg.own hownO) (full_byteJ (by decide) (by decide)) (by decide)).mono ?_; intro e w2 hout; obtain ⟨A9, c9, A9', c9', rfl, hown, hb⟩ := DiskOut.as hout (S' := d4S) (C' := fC) (E' := 0) (n := 4) (n' := 2) n_first.2.1 rfl n_first.1 rfl n_first.2.2; have hcur := hcur.trans (hb.mono hcur.size); have hkX := keepX _ hcur; have hZ := hZ.below hb hZ.lt; have z0 := hZ.cell 0; have z1 := hZ.cell 1; have g0 := hZ.free 0; have g1 := hZ.free 1; simp only [List.getElem?_cons_zero, List.getElem?_cons_succ] at z0 z1))
    all_goals (go_wp2_with fail; go_meet)
    all_goals first
      | exact ⟨_, A9, c9, A9', c9', rfl, rfl, Blk.new _ _ _, (hown.below ((Below.refl _ _).alloc (Nat.le_refl _) _)).lower (Nat.le_trans B.out.size hM), hcur.alloc hcur.size _⟩
      | exact ⟨_, A9, c9, A9', c9', rfl, rfl, hZ.two _ _, (hown.two hZ _ _).lower (Nat.le_trans B.out.size hM), ((hcur.setCell (p := ⟨_, 0, none⟩) hL _).setCell (p := ⟨_, 1, none⟩) hL _)⟩
  case rest =>
    obtain ⟨g, A9, c9, A9', c9', rfl, rfl, hg, ho, hb⟩ := hcut
    have X0 := Lib.hid (X0.out.below hb X0.out.lt)
    have B := Lib.hid (B.out.trans (hb.mono B.out.size))
    have i0 := hg.cell 0
    have i1 := hg.cell 1
    simp only [List.getElem?_cons_zero, List.getElem?_cons_succ] at i0 i1
    have D := Lib.hid (Dsk.of_own ho)
    clear X hS hb hg ho
    go_wp2_with fail
    refine (dsk_does.flush A9 4 c9 A9' 2 c9' d4S fC wc D.out (few_smallJ (by kernel_rfl))).mono ?_
    intro e w3 hout
    obtain ⟨A3, c3, A3', c3', rfl, hown, hb⟩ := DiskOut.as hout (S' := fS) (C' := []) (E' := 0) (n := 4) (n' := 0) rfl rfl n_flush.1 n_flush.2 rfl
    have hb2 := hb.alloc hb.size (.cells #[.slice A3 4 c3, .slice A3' 0 c3'] 25)
    have hkA : Below w3.heap.size w3 (w3.alloc (.cells #[.slice A3 4 c3, .slice A3' 0 c3'] 25)) := (Below.refl _ _).alloc (Nat.le_refl _) _
    have Y := Blk.new w3 25 [.slice A3 4 c3, .slice A3' 0 c3']
    have x0 := X0.out.below hb2 X0.out.lt
    have OD := Lib.hid ((hown.below hkA).lower B.out.size)
    have BF := Lib.hid (below_two (B.out.trans (hb2.mono B.out.size)) (Nat.le_refl _) (.slice A3 4 c3) (.slice A3' 0 c3'))
    have y0 := Y.cell 0
    have y1 := Y.cell 1
    have p0 := x0.cell 0
    have p1 := x0.cell 1
    have f0 := x0.free 0
    have f1 := x0.free 1
    simp only [List.getElem?_cons_zero, List.getElem?_cons_succ] at y0 y1 p0 p1
    have XF := Lib.hid x0
    clear hout hown hb hb2 hkA Y x0 X0 B D i0 i1
    go_wp2
    have r := XF.out.two (.slice A3 4 c3) (.slice A3' 0 c3')
    have r0 := r.cell 0
    have r1 := r.cell 1
    simp only [List.getElem?_cons_zero, List.getElem?_cons_succ] at r0 r1
    refine bodyPost_ret (v := .tuple #[diskV A3 4 c3 A3' 0 c3', .bool true]) ?_ rfl ⟨A3, c3, A3', c3', rfl, OD.out.two XF.out _ _, BF.out⟩
    clear y0 y1 p0 p1 f0 f1
    simp [results, Try.f38, go_sem, r0, r1]

end Go.Proofs.Yteinfkjlcpfeiaa
