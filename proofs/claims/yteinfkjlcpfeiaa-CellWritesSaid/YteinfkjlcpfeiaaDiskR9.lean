/- Layer 5: the document's own: a disk behind a crash. -/
/- Layer 5: the document's own: a disk behind a flush, and behind a crash; a new one. -/
import Derived.Test.YteinfkjlcpfeiaaDiskR7
namespace Go.Proofs.Yteinfkjlcpfeiaa
open Go.RowKit
set_option linter.unusedVariables false

theorem byFate_len (S : List Sec) (p : Pnd) (f : Int) : (byFate S p f).length = S.length := by unfold byFate; split <;> (try split) <;> simp
theorem behindK_len (S : List Sec) (C : List Pnd) (F : List Int) (k : Nat) : (behindK S C F k).length = S.length := by
  induction k with
  | zero => rfl
  | succ k ih => unfold behindK; rw [byFate_len, ih]
theorem make_bytes (n : Nat) (hn : n ≤ 1000) (w : World) :
    (Instr.makeSlice 31 (.int .i64 (n : Int)) (.int .i64 (n : Int))).run Try.prog w = .ok (.slice (some ⟨w.heap.size, 0, none⟩) n n) (w.alloc (.cells (List.replicate n (.int .u8 0)).toArray 5)) := by
  obtain ⟨i0, hi0, hz0, hz1, hz2⟩ := info_parts byte_info
  have hml : (1000 : Nat) ≤ maxLen := by decide
  exact run_make1 (P := Try.prog) 31 5 i0 _ Try.underlying31 hi0 hz0 hz1 rfl n (by rw [hz2]; omega) (by omega) w
theorem noughts_ints : List.replicate 32 (Value.int .u8 0) = ints .u8 noughts := by unfold noughts ints; rw [List.map_replicate]
theorem noughts_own (w : World) : (w.alloc (.cells (List.replicate 32 (.int .u8 0)).toArray 5)).ownsRow w.heap.size 5 1 (.slice (some ⟨w.heap.size, 0, none⟩) 32 32) 32 (ints .u8 noughts) := by
  have h : Blk (w.alloc (.cells (List.replicate 32 (.int .u8 0)).toArray 5)) w.heap.size 5 (List.replicate 32 (.int .u8 0)) := Blk.new w 5 _
  rw [noughts_ints] at h
  exact h.owns (Nat.le_refl _) (by simp [ints_length, noughts]) (by decide)
theorem noughts_byte : ∀ z ∈ noughts, isByte z := fun z hz => by
  rw [List.eq_of_mem_replicate hz]
  unfold isByte
  omega

set_option maxRecDepth 100000 in
set_option maxHeartbeats 6400000 in
theorem behind_any (A : Option Addr) (n c : Nat) (A' : Option Addr) (n' c' : Nat) (S : List Sec) (C : List Pnd) (Af : Option Addr) (nf cf : Nat) (F : List Int) (w : World) (hq : Dsk w A n c A' n' c' S C) (hs : SmallD S C) (hf : Arg w .u8 Af nf cf F) (hfb : ∀ z ∈ F, isByte z) (hmay : mayD S C = true) :
    Calls Try.prog 63 #[diskV A n c A' n' c', .slice Af nf cf] w fun e w' => ∃ B d, e = .returned (diskV B n d none 0 0) ∧ OwnDsk w' w.heap.size B n d none 0 0 (behindS S C F) [] ∧ Below w.heap.size w w' := by
  obtain ⟨i0, hi0, hz0, hz1, hz2⟩ := info_parts byte_info
  have hml : (1000 : Nat) ≤ maxLen := by decide
  obtain ⟨x1, x2, hbel⟩ := boxes2 w A n c A' n' c' none 0 0 none 0 0
  have T := twin_any A n c A' n' c' S C _ (hq.below hbel) hs
  have hm := (mayD_iff S C).1 hmay
  have hn := hs.secs
  have hn' := hs.pnds
  rw [hq.secs.len] at hn
  rw [hq.pnds.len] at hn'
  have hn1 : 1 ≤ n := by have := hm.1.1; rw [hq.secs.len] at this; exact this
  have hls := hq.secs.len
  have hlp := hq.pnds.len
  have hlf := hf.len
  have hcf := Nat.le_trans hf.cap hf.max
  unfold maxLen at hcf
  have AT := Lib.hid fun k (hk : k < n') => (show ∃ a : Nat, (C.getD k (0, [])).1 = a ∧ a < n ∧ (C.getD k (0, [])).2.length ≤ 100 from by
    have hk' : k < C.length := by rw [hlp]; exact hk
    have h1 := hm.2.2 C[k] (List.getElem_mem hk')
    rw [List.getD_eq_getElem?_getD, List.getElem?_eq_getElem hk', Option.getD_some]
    rw [hls] at h1
    exact ⟨C[k].1.toNat, by omega, by omega, by omega⟩)
  have FB := Lib.hid fun k (hk : k < nf) => (show isByte (F.getD k 0) from by
    have hk' : k < F.length := by rw [hlf]; exact hk
    rw [List.getD_eq_getElem?_getD, List.getElem?_eq_getElem hk', Option.getD_some]
    exact hfb _ (List.getElem_mem hk'))
  have BK := Lib.hid fun k => (show behindK S C F (k + 1) = byFate (behindK S C F k) (C.getD k (0, [])) (F.getD k 0) from rfl)
  have END := Lib.hid fun k (h1 : k ≤ n') (h2 : k ≤ nf) (h3 : k = n' ∨ k = nf) => (show behindK S C F k = behindS S C F from by
    unfold behindS
    rw [hlp, hlf, show min n' nf = k by omega])
  have BKL := Lib.hid fun k => (show (behindK S C F k).length = n from by rw [behindK_len, hls])
  have c0 := x1.cell 0
  have c1 := x1.cell 1
  simp only [List.getElem?_cons_zero, List.getElem?_cons_succ] at c0 c1
  have hsz : ((w.alloc (.cells #[.slice A n c, .slice A' n' c'] 25)).alloc (.cells #[.slice none 0 0, .slice none 0 0] 25)).heap.size = w.heap.size + 2 := by simp
  have HQ := Lib.hid hq
  have HF := Lib.hid hf
  obtain ⟨w1, hw1⟩ : ∃ w1, w1 = (w.alloc (.cells #[.slice A n c, .slice A' n' c'] 25)).alloc (.cells #[.slice none 0 0, .slice none 0 0] 25) := ⟨_, rfl⟩
  rw [← hw1] at x1 x2 hbel T c0 c1 hsz
  have X1 := Lib.hid x1
  have X2 := Lib.hid x2
  have BEL := Lib.hid hbel
  have T := Lib.hid T
  have HSZ := Lib.hid hsz
  clear x1 x2 hbel hq hs hf hfb hmay hm hls hlp hlf hsz
  go_enter Try.func63, Try.ntmps63
  rw [hw1] at c0 c1 T
  go_wp2_with fail
  refine T.out.mono ?_
  rintro e w4 ⟨B, d, B', d', rfl, hown, hb4⟩
  rw [← hw1] at hown hb4 T
  have hz1' := HSZ.out
  have hz4 := hb4.size
  obtain ⟨g, rfl, hbg, hgs⟩ := hown.secs.block (by omega)
  have x1 := (X1.out.below hb4 (by omega)).grown (World.grownBy_alloc w4 (.cells #[.slice (some ⟨g, 0, none⟩) n d, .slice B' n' d'] 25) none) (by simp)
  have x2 := (X2.out.below hb4 (by omega)).grown (World.grownBy_alloc w4 (.cells #[.slice (some ⟨g, 0, none⟩) n d, .slice B' n' d'] 25) none) (by simp)
  have xg := Blk.new w4 25 [.slice (some ⟨g, 0, none⟩) n d, .slice B' n' d']
  have O5 := hown.secs.below ((Below.refl _ _).alloc (Nat.le_refl _) (.cells #[.slice (some ⟨g, 0, none⟩) n d, .slice B' n' d'] 25))
  have B5 := (BEL.out.trans (hb4.mono BEL.out.size)).alloc (Nat.le_trans BEL.out.size hz4) (.cells #[.slice (some ⟨g, 0, none⟩) n d, .slice B' n' d'] 25)
  clear c0 c1 T hown hb4
  go_wp2
  obtain ⟨G, hG⟩ : ∃ G, G = w4.heap.size := ⟨_, rfl⟩
  rw [← hG] at xg hz4 hgs ⊢
  obtain ⟨w5, hw5⟩ : ∃ w5, w5 = w4.alloc (.cells #[.slice (some ⟨g, 0, none⟩) n d, .slice B' n' d'] 25) := ⟨_, rfl⟩
  change Blk (w4.alloc (.cells #[.slice (some ⟨g, 0, none⟩) n d, .slice B' n' d'] 25)) G 25 [.slice (some ⟨g, 0, none⟩) n d, .slice B' n' d'] at xg
  rw [← hw5] at x1 x2 xg O5 B5 ⊢
  have Y1 := Lib.hid x1
  have Y2 := Lib.hid x2
  have YG := Lib.hid xg
  have O5 := Lib.hid O5
  have B5 := Lib.hid B5
  have hGw : w.heap.size + 2 ≤ G := by omega
  have hgB : w.heap.size + 2 ≤ g := by omega
  have hgG : g ≠ G := by omega
  have HBG := Lib.hid (show w1.heap.size ≤ g from hbg)
  clear hw5 hG x1 x2 xg hz4 hgs hz1' hw1 hbg
  go_loopw [6] (fun i wr => ∃ k : Nat, k ≤ n' ∧ k ≤ nf ∧ i = .int .i64 k ∧ OwnSecs wr w1.heap.size (some ⟨g, 0, none⟩) n d (behindK S C F k) ∧ Blk wr w.heap.size 25 [.slice A n c, .slice A' n' c'] ∧ Blk wr (w.heap.size + 1) 25 [.slice none 0 0, .slice none 0 0] ∧ Blk wr G 25 [.slice (some ⟨g, 0, none⟩) n d, .slice B' n' d'] ∧ Below w.heap.size w wr) (fun i _ => n' - (intOf i).toNat)
  case atStart => exact ⟨0, Nat.zero_le _, Nat.zero_le _, rfl, O5.out, Y1.out, Y2.out, YG.out, B5.out⟩
  case round =>
    obtain ⟨k, hk, hk2, rfl, hO, hx1, hx2, hxg, hB⟩ := hrel
    have q1 := hx1.cell 1
    simp only [List.getElem?_cons_zero, List.getElem?_cons_succ] at q1
    by_cases hkn : k < n' ∧ k < nf
    · obtain ⟨hkn, hkf⟩ := hkn
      have hki : (k : Int) < (n' : Int) := by omega
      have hkfi : (k : Int) < (nf : Int) := by omega
      obtain ⟨b, o, Ai, ni, ci, rfl, hlt, hc, hx, ha⟩ := HQ.out.pnds.at_ k hkn
      obtain ⟨bf, of_, rfl, hfl, hcfw⟩ := HF.out.seq.int (j := k) (by rw [HF.out.len]; exact hkf)
      have hcf2 := (hB.cell (p := ⟨bf, of_ + k, none⟩) hfl).trans hcfw
      obtain ⟨a, hat, han, hal⟩ := AT.out k hkn
      have hby := HQ.out.pnds.byte_at k
      have hlen := ha.len
      have hbk := BK.out k
      have hfb := FB.out k hkf
      obtain ⟨pn, hpn⟩ : ∃ pn, pn = C.getD k (0, []) := ⟨_, rfl⟩
      rw [← hpn] at hx ha hat hal hby hlen hbk
      obtain ⟨at_, t⟩ := pn
      dsimp only at hx ha hat hal hby hlen
      subst hat
      obtain ⟨z, hz⟩ : ∃ z, z = F.getD k 0 := ⟨_, rfl⟩
      rw [← hz] at hbk hfb hcf2 hcfw
      obtain ⟨Q, hQ⟩ : ∃ Q, Q = behindK S C F k := ⟨_, rfl⟩
      rw [← hQ] at hbk hO
      have hni : ni ≤ 100 := by rw [← hlen]; exact hal
      have hcb := (hB.cell (p := ⟨b, o + k * 2 + 1, none⟩) hlt).trans hc
      have hxb := (hB.cell (p := ⟨b, o + k * 2, none⟩) hlt).trans hx
      have hai : (a : Int) < (n : Int) := by omega
      unfold isByte at hfb
      obtain ⟨zn, rfl⟩ : ∃ zn : Nat, z = zn := ⟨z.toNat, by omega⟩
      obtain ⟨r, hr⟩ : ∃ r : Nat, r = zn % 3 := ⟨_, rfl⟩
      have hri : ((zn : Int)) % 3 = (r : Int) := by rw [hr]; simp
      have hri2 : ((zn : Int)).tmod 3 = (r : Int) := by rw [Int.tmod_eq_emod_of_nonneg (by omega)]; exact hri
      have hr3 : r < 3 := by rw [hr]; exact Nat.mod_lt _ (by omega)
      have HBY := Lib.hid hby
      have hGl : G < wr.drew.heap.size := hxg.lt
      have hszw : w.heap.size + 2 ≤ wr.drew.heap.size := by have := hxg.lt; show _ ≤ wr.heap.size; omega
      have hwle : w1.heap.size ≤ wr.drew.heap.size := by have h1 := hxg.lt; have h2 := HBG.out; obtain ⟨_, _, _, h3⟩ := hO.block (by omega); have := HSZ.out; show _ ≤ wr.heap.size; omega
      have hbG : b ≠ G := by omega
      have hgb : g ≠ b := by omega
      have hgw : g ≠ w.heap.size := by omega
      have HA := Lib.hid (show Arg wr.drew .u8 Ai ni ci t from (ha.below hB).below (below_drewN (Below.refl _ _) 1))
      have OD := Lib.hid (show OwnSecs wr.drew w1.heap.size (some ⟨g, 0, none⟩) n d Q from hO.below (below_drewN (Below.refl _ _) 1))
      have BD := Lib.hid (show Below w.heap.size w wr.drew from below_drewN hB 1)
      have X1 := Lib.hid (show Blk wr.drew w.heap.size 25 [.slice A n c, .slice (some ⟨b, o, none⟩) n' c'] from hx1)
      have X2 := Lib.hid (show Blk wr.drew (w.heap.size + 1) 25 [.slice none 0 0, .slice none 0 0] from hx2)
      have XG := Lib.hid (show Blk wr.drew G 25 [.slice (some ⟨g, 0, none⟩) n d, .slice B' n' d'] from hxg)
      have OW := Lib.hid hO
      have W1 := Lib.hid hx1
      have W2 := Lib.hid hx2
      have WG := Lib.hid hxg
      have BW := Lib.hid hB
      have p0 := hxg.cell 0
      simp only [List.getElem?_cons_zero] at p0
      have keepX : ∀ wx, Below wr.drew.heap.size wr.drew wx → wx.cell? ⟨G, 0, none⟩ = some (.slice (some ⟨g, 0, none⟩) n d) ∧ wx.cell? ⟨w.heap.size, 1, none⟩ = some (.slice (some ⟨b, o, none⟩) n' c') ∧ wx.cell? ⟨b, o + k * 2 + 1, none⟩ = some (.slice Ai ni ci) := fun wx hx' =>
        ⟨(hx'.cell (p := ⟨G, 0, none⟩) hGl).trans p0, (hx'.cell (p := ⟨w.heap.size, 1, none⟩) (by show w.heap.size < _; omega)).trans q1, (hx'.cell (p := ⟨b, o + k * 2 + 1, none⟩) (by show b < _; omega)).trans hcb⟩
      have HBK := Lib.hid hbk
      have HMK := Lib.hid (make_bytes 32 (by omega) wr.drew)
      have HR := Lib.hid hr
      clear hpn hz hQ hby hlen hbk ha hO hx1 hx2 hxg hB hc hx hal hr
      by_cases hr1 : r = 1
      · subst hr1
        have HS := Lib.hid (show byFate Q ((a : Int), t) (zn : Int) = Q.set a (false, t) by unfold byFate; rw [if_pos (by omega), Int.toNat_natCast])
        clear hr3
        go_wp2_with fail
        have hkX := keepX _ (Below.refl _ _)
        go_region_held3 (fun w' => w'.cell? ⟨G, 0, none⟩ = some (.slice (some ⟨g, 0, none⟩) n d) ∧ w'.cell? ⟨w.heap.size, 1, none⟩ = some (.slice (some ⟨b, o, none⟩) n' c') ∧ w'.cell? ⟨b, o + k * 2 + 1, none⟩ = some (.slice Ai ni ci))
          (first | exact hkX | go_keep)
          ((refine step_dup_g wr.drew (by rfl) (.tmp 38) (.tmp 44) _ (by rfl) 5 i0 _ 1 Try.underlying31 hi0 hz0 hz1 hz2 rfl (by rfl) Ai ni ci (ints .u8 t) (by rfl) (by rw [ints_length, HA.out.len]) HA.out.seq (ints_one _ _) (by omega) (by omega) ?_; intro A6 c6 w6 hown6 hcur; have hkX := keepX w6 hcur; obtain ⟨g', u', v', hg', _, hu, hv, hfu, hfv, hO7⟩ := (OD.out.below hcur).set (x := false) han HBY.out (owns_base hown6 hwle); cases hg'))
        have HX1 := Lib.hid ((X1.out.below hcur (by omega)).away (g' := g) (by omega) (a * 2) (.slice A6 ni c6) |>.away (g' := g) (by omega) (a * 2 + 1) (.bool false))
        have HX2 := Lib.hid ((X2.out.below hcur (by omega)).away (g' := g) (by omega) (a * 2) (.slice A6 ni c6) |>.away (g' := g) (by omega) (a * 2 + 1) (.bool false))
        have HXG := Lib.hid ((XG.out.below hcur hGl).away (g' := g) (Ne.symm hgG) (a * 2) (.slice A6 ni c6) |>.away (g' := g) (Ne.symm hgG) (a * 2 + 1) (.bool false))
        have HB7 := Lib.hid (((BD.out.trans (hcur.mono BD.out.size)).setCell (p := ⟨g, a * 2, none⟩) (show w.heap.size ≤ g by omega) (.slice A6 ni c6)).setCell (p := ⟨g, a * 2 + 1, none⟩) (show w.heap.size ≤ g by omega) (.bool false))
        have HO7 := Lib.hid hO7
        have hz7 : wr.drew.heap.size ≤ w6.heap.size := hcur.size
        obtain ⟨w7, hw7⟩ : ∃ w7, w7 = (w6.setCell ⟨g, a * 2, none⟩ (.slice A6 ni c6)).setCell ⟨g, a * 2 + 1, none⟩ (.bool false) := ⟨_, rfl⟩
        rw [← hw7] at HX1 HX2 HXG HB7 HO7 ⊢
        clear hw7 hO7 hu hv hfu hfv hcur keepX hown6 hkX p0 q1 hcb hxb hcf2
        have hcf7 := (HB7.out.cell (p := ⟨bf, of_ + k, none⟩) hfl).trans hcfw
        go_wp2
        go_roundw
        case rel => exact ⟨k + 1, by omega, by omega, by go_num, by rw [HBK.out, HS.out]; exact HO7.out, HX1.out, HX2.out, HXG.out, HB7.out⟩
        case measure => simp [intOf]; omega

      · by_cases hr2 : r = 2
        · subst hr2
          have HS := Lib.hid (show byFate Q ((a : Int), t) (zn : Int) = Q.set a (true, noughts) by unfold byFate; rw [if_neg (by omega), if_pos (by omega), Int.toNat_natCast])
          have hcur : Below wr.drew.heap.size wr.drew (wr.drew.alloc (.cells (List.replicate 32 (.int .u8 0)).toArray 5)) := (Below.refl _ _).alloc (Nat.le_refl _) _
          obtain ⟨w6, hw6⟩ : ∃ w6, w6 = wr.drew.alloc (.cells (List.replicate 32 (.int .u8 0)).toArray 5) := ⟨_, rfl⟩
          have hmk := HMK.out
          rw [← hw6] at hmk hcur
          have hkX := keepX w6 hcur
          obtain ⟨g', u', v', hg', _, hu, hv, hfu, hfv, hO7⟩ := (OD.out.below hcur).set (x := true) han noughts_byte (owns_base (by rw [hw6]; exact noughts_own wr.drew) hwle)
          cases hg'
          clear hr3 hr1 hw6
          have hmk' : (Instr.makeSlice 31 (.int .i64 32) (.int .i64 32)).run Try.prog wr.drew = .ok (.slice (some ⟨wr.drew.heap.size, 0, none⟩) 32 32) w6 := hmk
          clear hmk
          go_wp2_with fail
          have hkY := keepX wr.drew (Below.refl _ _)
          go_region_held3 (fun w' => w'.cell? ⟨G, 0, none⟩ = some (.slice (some ⟨g, 0, none⟩) n d))
            (first | exact hkX.1 | exact hkY.1 | go_keep)
            (fail)
          have hO7 : OwnSecs ((w6.setCell ⟨g, a * 2, none⟩ (.slice (some ⟨wr.heap.size, 0, none⟩) 32 32)).setCell ⟨g, a * 2 + 1, none⟩ (.bool true)) w1.heap.size (some ⟨g, 0, none⟩) n d (Q.set a (true, noughts)) := hO7
          have HX1 := Lib.hid ((X1.out.below hcur (by omega)).away (g' := g) (by omega) (a * 2) (.slice (some ⟨wr.heap.size, 0, none⟩) 32 32) |>.away (g' := g) (by omega) (a * 2 + 1) (.bool true))
          have HX2 := Lib.hid ((X2.out.below hcur (by omega)).away (g' := g) (by omega) (a * 2) (.slice (some ⟨wr.heap.size, 0, none⟩) 32 32) |>.away (g' := g) (by omega) (a * 2 + 1) (.bool true))
          have HXG := Lib.hid ((XG.out.below hcur hGl).away (g' := g) (Ne.symm hgG) (a * 2) (.slice (some ⟨wr.heap.size, 0, none⟩) 32 32) |>.away (g' := g) (Ne.symm hgG) (a * 2 + 1) (.bool true))
          have HB7 := Lib.hid (((BD.out.trans (hcur.mono BD.out.size)).setCell (p := ⟨g, a * 2, none⟩) (show w.heap.size ≤ g by omega) (.slice (some ⟨wr.heap.size, 0, none⟩) 32 32)).setCell (p := ⟨g, a * 2 + 1, none⟩) (show w.heap.size ≤ g by omega) (.bool true))
          have HO7 := Lib.hid hO7
          have hz7 : wr.drew.heap.size ≤ w6.heap.size := hcur.size
          obtain ⟨w7, hw7⟩ : ∃ w7, w7 = (w6.setCell ⟨g, a * 2, none⟩ (.slice (some ⟨wr.heap.size, 0, none⟩) 32 32)).setCell ⟨g, a * 2 + 1, none⟩ (.bool true) := ⟨_, rfl⟩
          rw [← hw7] at HX1 HX2 HXG HB7 HO7 ⊢
          clear hw7 hO7 hu hv hfu hfv hcur keepX hkX hkY hmk' p0 q1 hcb hxb hcf2
          go_wp2
          go_roundw
          case rel => exact ⟨k + 1, by omega, by omega, by go_num, by rw [HBK.out, HS.out]; exact HO7.out, HX1.out, HX2.out, HXG.out, HB7.out⟩
          case measure => simp [intOf]; omega

        · have HS := Lib.hid (show byFate Q ((a : Int), t) (zn : Int) = Q by unfold byFate; rw [if_neg (by omega), if_neg (by omega)])
          have hr0 : r = 0 := by omega
          subst hr0
          clear hr3 hr1 hr2 keepX
          go_wp2
          go_roundw
          case rel => exact ⟨k + 1, by omega, by omega, by go_num, by rw [HBK.out, HS.out]; exact OW.out, W1.out, W2.out, WG.out, BW.out⟩
          case measure => simp [intOf]; omega
    · have hend : behindK S C F k = behindS S C F := END.out k hk hk2 (by omega)
      rw [hend] at hO
      have hg0 := hxg.cell 0
      have hg1 := hxg.cell 1
      have hgf := hxg.free 1
      have e0 := hx2.cell 0
      have e1 := hx2.cell 1
      have g0 := hx2.free 0
      have g1 := hx2.free 1
      simp only [List.getElem?_cons_zero, List.getElem?_cons_succ] at hg0 hg1 e0 e1
      have OD := Lib.hid hO
      have OX := Lib.hid hxg
      have R2 := Lib.hid hx2
      have BB := Lib.hid hB
      have hnn : ¬ (k < n' ∧ k < nf) := hkn
      have HNN := Lib.hid hnn
      clear hend hO hx1 hx2 hxg hB hkn hnn
      have fin : ∀ (a : Act), True := fun _ => trivial
      by_cases hkn : k < n'
      · have hki : (k : Int) < (n' : Int) := by omega
        have hkfi : ¬ (k : Int) < (nf : Int) := by have := HNN.out; omega
        clear fin
        go_wp2
        have zg := OX.out.set 1 (.slice none 0 0)
        simp only [List.set_cons_zero, List.set_cons_succ] at zg
        have z := (R2.out.away (g' := G) (by omega) 1 (.slice none 0 0)).two (.slice (some ⟨g, 0, none⟩) n d) (.slice none 0 0)
        have z0 := z.cell 0
        have z1 := z.cell 1
        simp only [List.getElem?_cons_zero, List.getElem?_cons_succ] at z0 z1
        have O8 := (OwnDsk.mk OD.out (OwnPnds.nil _ _)).box OX.out 1 (.slice none 0 0)
        have O9 := O8.two (R2.out.away (g' := G) (by omega) 1 (.slice none 0 0)) (.slice (some ⟨g, 0, none⟩) n d) (.slice none 0 0)
        have B9 := below_two (BB.out.setCell (p := ⟨G, 1, none⟩) (show w.heap.size ≤ G by omega) (.slice none 0 0)) (show w.heap.size ≤ w.heap.size + 1 by omega) (.slice (some ⟨g, 0, none⟩) n d) (.slice none 0 0)
        have hz1' := HSZ.out
        refine bodyPost_ret (v := diskV (some ⟨g, 0, none⟩) n d none 0 0) ?_ rfl ⟨_, d, rfl, O9.lower (by omega), B9⟩
        clear hg0 hg1 hgf e0 e1 g0 g1
        simp [results, Try.f63, go_sem, z0, z1]

      · have hki : ¬ (k : Int) < (n' : Int) := by omega
        clear fin
        go_wp2
        have zg := OX.out.set 1 (.slice none 0 0)
        simp only [List.set_cons_zero, List.set_cons_succ] at zg
        have z := (R2.out.away (g' := G) (by omega) 1 (.slice none 0 0)).two (.slice (some ⟨g, 0, none⟩) n d) (.slice none 0 0)
        have z0 := z.cell 0
        have z1 := z.cell 1
        simp only [List.getElem?_cons_zero, List.getElem?_cons_succ] at z0 z1
        have O8 := (OwnDsk.mk OD.out (OwnPnds.nil _ _)).box OX.out 1 (.slice none 0 0)
        have O9 := O8.two (R2.out.away (g' := G) (by omega) 1 (.slice none 0 0)) (.slice (some ⟨g, 0, none⟩) n d) (.slice none 0 0)
        have B9 := below_two (BB.out.setCell (p := ⟨G, 1, none⟩) (show w.heap.size ≤ G by omega) (.slice none 0 0)) (show w.heap.size ≤ w.heap.size + 1 by omega) (.slice (some ⟨g, 0, none⟩) n d) (.slice none 0 0)
        have hz1' := HSZ.out
        refine bodyPost_ret (v := diskV (some ⟨g, 0, none⟩) n d none 0 0) ?_ rfl ⟨_, d, rfl, O9.lower (by omega), B9⟩
        clear hg0 hg1 hgf e0 e1 g0 g1
        simp [results, Try.f63, go_sem, z0, z1]

end Go.Proofs.Yteinfkjlcpfeiaa

namespace Go.Proofs.Yteinfkjlcpfeiaa
open Go.RowKit
set_option linter.unusedVariables false

set_option maxRecDepth 100000 in
set_option maxHeartbeats 3200000 in
theorem flushed_any (A : Option Addr) (n c : Nat) (A' : Option Addr) (n' c' : Nat) (S : List Sec) (C : List Pnd) (w : World) (hq : Dsk w A n c A' n' c' S C) (hs : SmallD S C) (hmay : mayD S C = true) :
    Calls Try.prog 62 #[diskV A n c A' n' c'] w fun e w' => ∃ B d, e = .returned (diskV B n d none 0 0) ∧ OwnDsk w' w.heap.size B n d none 0 0 (behindS S C (List.replicate n' 1)) [] ∧ Below w.heap.size w w' := by
  obtain ⟨i0, hi0, hz0, hz1, hz2⟩ := info_parts byte_info
  have hml : (1000 : Nat) ≤ maxLen := by decide
  obtain ⟨x1, x2, hbel⟩ := boxes2 w A n c A' n' c' none 0 0 none 0 0
  have hsz : ((w.alloc (.cells #[.slice A n c, .slice A' n' c'] 25)).alloc (.cells #[.slice none 0 0, .slice none 0 0] 25)).heap.size = w.heap.size + 2 := by simp
  have hn' := hs.pnds
  rw [hq.pnds.len] at hn'
  have BH := Lib.hid fun Af cf w3 hx (hy : Arg w3 .u8 Af n' cf (List.replicate n' 1)) => behind_any A n c A' n' c' S C Af n' cf (List.replicate n' 1) w3 hx hs hy (fun z hz => by rw [List.eq_of_mem_replicate hz]; unfold isByte; omega) hmay
  have HQ := Lib.hid (hq.below hbel)
  have RS := Lib.hid fun k => (show ints .u8 (List.replicate (k + 1) 1) = ints .u8 (List.replicate k 1) ++ [.int .u8 1] from by rw [List.replicate_succ', ints_app]; rfl)
  obtain ⟨w1, hw1⟩ : ∃ w1, w1 = (w.alloc (.cells #[.slice A n c, .slice A' n' c'] 25)).alloc (.cells #[.slice none 0 0, .slice none 0 0] 25) := ⟨_, rfl⟩
  rw [← hw1] at x1 x2 hbel HQ hsz
  have X1 := Lib.hid x1
  have X2 := Lib.hid x2
  have BEL := Lib.hid hbel
  have HSZ := Lib.hid hsz
  clear x1 x2 hbel hsz hq hs hmay
  go_enter Try.func62, Try.ntmps62
  go_wp2
  rw [← hw1]
  clear hw1
  go_loopw [3, 4] (fun v i wr => ∃ k : Nat, k ≤ n' ∧ i = .int .i64 k ∧ (∃ A1 c1, v = .slice A1 k c1 ∧ wr.ownsRow w1.heap.size 5 1 (.slice A1 k c1) k (ints .u8 (List.replicate k 1))) ∧ Below w1.heap.size w1 wr) (fun _ i _ => n' - (intOf i).toNat)
  case atStart => exact ⟨0, Nat.zero_le _, rfl, ⟨none, 0, rfl, World.ownsRow_nil _ _ _ _⟩, Below.refl _ _⟩
  case round =>
    obtain ⟨k, hk, rfl, ⟨A1, c1, rfl, hO⟩, hB⟩ := hrel
    have x1 := X1.out.below hB (by have := HSZ.out; omega)
    have q0 := x1.cell 0
    have q1 := x1.cell 1
    simp only [List.getElem?_cons_zero, List.getElem?_cons_succ] at q0 q1
    by_cases hkn : k < n'
    · have hki : (k : Int) < (n' : Int) := by omega
      have O := Lib.hid hO
      have BB := Lib.hid hB
      clear hO hB x1
      go_wp2_with (at_builtin; go_must (refine wpList_behind_g w1 _ rfl (.tmp 12) (.tmp 13) _ rfl w1.heap.size 5 i0 _ 1 Try.underlying31 hi0 hz0 hz1 hz2 rfl A1 k c1 (ints .u8 (List.replicate k 1)) rfl (O.out.allocated _) (wr.heap.size + 1) (some ⟨wr.heap.size, 0, none⟩) 1 1 (ints .u8 [1]) rfl rfl (lit_row _ _ .u8 [1] _ _ _ rfl rfl (Nat.lt_succ_self _)) (ints_one _ _) (by omega) (by omega) (BB.out.alloc BB.out.size _) (Nat.le_refl _) ?_); intro A2 c2 w2 hown2 hbel2; have O2 := Lib.hid hown2; have B2 := Lib.hid hbel2; clear hown2 hbel2)
      go_roundw
      case rel => exact ⟨k + 1, by omega, by go_num, ⟨A2, c2, rfl, by rw [RS.out]; exact O2.out⟩, B2.out⟩
      case measure => simp [intOf]; omega
    · obtain rfl : k = n' := by omega
      have x2 := X2.out.below hB (by have := HSZ.out; omega)
      have BH := Lib.hid (BH.out A1 c1 wr (HQ.out.below hB) (Arg.own hO))
      have R2 := Lib.hid x2
      have BB := Lib.hid (BEL.out.trans (hB.mono BEL.out.size))
      have hz3 : w.heap.size + 2 ≤ wr.heap.size := by have h1 := x2.lt; omega
      clear hO hB x1 x2
      go_wp2_with fail
      refine BH.out.mono ?_
      rintro e w4 ⟨B, d, rfl, hown, hb4⟩
      have x2 := R2.out.below hb4 (by omega)
      have e0 := x2.cell 0
      have e1 := x2.cell 1
      have g0 := x2.free 0
      have g1 := x2.free 1
      simp only [List.getElem?_cons_zero, List.getElem?_cons_succ] at e0 e1
      have Q2 := Lib.hid x2
      have O4 := Lib.hid hown
      have B4 := Lib.hid (BB.out.trans (hb4.mono BB.out.size))
      clear x2 hown hb4 q0 q1
      go_wp2
      have z := Q2.out.two (.slice B n d) (.slice none 0 0)
      have z0 := z.cell 0
      have z1 := z.cell 1
      simp only [List.getElem?_cons_zero, List.getElem?_cons_succ] at z0 z1
      have O9 := O4.out.two Q2.out (.slice B n d) (.slice none 0 0)
      refine bodyPost_ret (v := diskV B n d none 0 0) ?_ rfl ⟨B, d, rfl, O9.lower (by omega), below_two B4.out (by omega) _ _⟩
      clear e0 e1 g0 g1
      simp [results, Try.f62, go_sem, z0, z1]

set_option maxRecDepth 100000 in
set_option maxHeartbeats 1600000 in
theorem flush_any (A : Option Addr) (n c : Nat) (A' : Option Addr) (n' c' : Nat) (S : List Sec) (C : List Pnd) (w : World) (hq : Dsk w A n c A' n' c' S C) (hs : SmallD S C) :
    Calls Try.prog 31 #[diskV A n c A' n' c'] w (DiskOut w (flS S C) [] (chkD S C)) := by
  obtain ⟨x1, x2, hbel⟩ := boxes2 w A n c A' n' c' none 0 0 none 0 0
  have hsz : ((w.alloc (.cells #[.slice A n c, .slice A' n' c'] 25)).alloc (.cells #[.slice none 0 0, .slice none 0 0] 25)).heap.size = w.heap.size + 2 := by simp
  have M := may_any A n c A' n' c' S C _ (hq.below hbel)
  have X1 := Lib.hid x1
  have X2 := Lib.hid x2
  have BEL := Lib.hid hbel
  have HSZ := Lib.hid hsz
  have c0 := x1.cell 0
  have c1 := x1.cell 1
  simp only [List.getElem?_cons_zero, List.getElem?_cons_succ] at c0 c1
  cases hR : mayD S C with
  | true =>
    rw [hR] at M
    have M := Lib.hid M
    have BH := Lib.hid fun w3 hx => flushed_any A n c A' n' c' S C w3 hx hs hR
    have hE : chkD S C = 0 := by unfold chkD; rw [hR]; rfl
    have hres : flS S C = behindS S C (List.replicate n' 1) := by unfold flS crS; rw [if_pos hR, hq.pnds.len]
    have hlen : (behindS S C (List.replicate n' 1)).length = n := by unfold behindS; rw [behindK_len, hq.secs.len]
    rw [hE, hres]
    have HQ := Lib.hid hq
    skip
    have HL := Lib.hid hlen
    obtain ⟨RS, hRS⟩ : ∃ RS, RS = behindS S C (List.replicate n' 1) := ⟨_, rfl⟩
    rw [← hRS] at BH HL ⊢
    clear x1 x2 hbel hsz hq hs hR hE hres hlen hRS
    go_enter Try.func31, Try.ntmps31
    go_wp2_with fail
    refine M.out.mono ?_
    rintro e w3 ⟨rfl, hb3⟩
    have x1 := X1.out.below hb3 (by have := HSZ.out; omega)
    have x2 := X2.out.below hb3 (by have := HSZ.out; omega)
    have d0 := x1.cell 0
    have d1 := x1.cell 1
    simp only [List.getElem?_cons_zero, List.getElem?_cons_succ] at d0 d1
    have R2 := Lib.hid x2
    have B3 := Lib.hid (BEL.out.trans (hb3.mono (by have := HSZ.out; omega)))
    have BH := Lib.hid (BH.out w3 (HQ.out.below B3.out))
    have hz3 : w.heap.size + 2 ≤ w3.heap.size := by have h1 := x2.lt; omega
    clear hb3 x1 x2 c0 c1 M
    go_wp2_with fail
    refine BH.out.mono ?_
    rintro e w4 ⟨B, d, rfl, hown, hb4⟩
    have x2 := R2.out.below hb4 (by omega)
    have e0 := x2.cell 0
    have e1 := x2.cell 1
    have g0 := x2.free 0
    have g1 := x2.free 1
    simp only [List.getElem?_cons_zero, List.getElem?_cons_succ] at e0 e1
    have Q2 := Lib.hid x2
    have O4 := Lib.hid hown
    have B4 := Lib.hid (B3.out.trans (hb4.mono B3.out.size))
    clear x2 hown hb4 d0 d1
    go_wp2
    have z := Q2.out.two (.slice B n d) (.slice none 0 0)
    have z0 := z.cell 0
    have z1 := z.cell 1
    simp only [List.getElem?_cons_zero, List.getElem?_cons_succ] at z0 z1
    have O9 := O4.out.two Q2.out (.slice B n d) (.slice none 0 0)
    have hl := HL.out
    refine bodyPost_ret (v := .tuple #[diskV B n d none 0 0, .int .i64 0]) ?_ rfl ⟨B, d, none, 0, by rw [hl]; rfl, by rw [hl]; exact O9.lower (by omega), below_two B4.out (by omega) _ _⟩
    clear e0 e1 g0 g1
    simp [results, Try.f31, go_sem, z0, z1]
  | false =>
    rw [hR] at M
    have M := Lib.hid M
    have hE : chkD S C = 8 := by unfold chkD; rw [hR]; rfl
    have hres : flS S C = [] := by unfold flS crS; rw [hR]; rfl
    rw [hE, hres]
    clear x1 x2 hbel hsz hq hs hR hE hres
    go_enter Try.func31, Try.ntmps31
    go_wp2_with fail
    refine M.out.mono ?_
    rintro e w3 ⟨rfl, hb3⟩
    have x2 := X2.out.below hb3 (by have := HSZ.out; omega)
    have e0 := x2.cell 0
    have e1 := x2.cell 1
    have g0 := x2.free 0
    have g1 := x2.free 1
    simp only [List.getElem?_cons_zero, List.getElem?_cons_succ] at e0 e1
    have R2 := Lib.hid x2
    have B3 := Lib.hid (BEL.out.trans (hb3.mono (by have := HSZ.out; omega)))
    clear hb3 x2 c0 c1
    go_wp2
    have z := R2.out.two (.slice none 0 0) (.slice none 0 0)
    have z0 := z.cell 0
    have z1 := z.cell 1
    simp only [List.getElem?_cons_zero, List.getElem?_cons_succ] at z0 z1
    refine bodyPost_ret (v := .tuple #[diskV none 0 0 none 0 0, .int .i64 8]) ?_ rfl ⟨none, 0, none, 0, rfl, OwnDsk.nil _ _, below_two B3.out (by omega) _ _⟩
    clear e0 e1 g0 g1
    simp [results, Try.f31, go_sem, z0, z1]

set_option maxRecDepth 100000 in
set_option maxHeartbeats 1600000 in
theorem crash_any (A : Option Addr) (n c : Nat) (A' : Option Addr) (n' c' : Nat) (S : List Sec) (C : List Pnd) (Af : Option Addr) (nf cf : Nat) (F : List Int) (w : World) (hq : Dsk w A n c A' n' c' S C) (hs : SmallD S C) (hf : Arg w .u8 Af nf cf F) (hfb : ∀ z ∈ F, isByte z) :
    Calls Try.prog 33 #[diskV A n c A' n' c', .slice Af nf cf] w (DiskOut w (crS S C F) [] (chkD S C)) := by
  obtain ⟨x1, x2, hbel⟩ := boxes2 w A n c A' n' c' none 0 0 none 0 0
  have hsz : ((w.alloc (.cells #[.slice A n c, .slice A' n' c'] 25)).alloc (.cells #[.slice none 0 0, .slice none 0 0] 25)).heap.size = w.heap.size + 2 := by simp
  have M := may_any A n c A' n' c' S C _ (hq.below hbel)
  have X1 := Lib.hid x1
  have X2 := Lib.hid x2
  have BEL := Lib.hid hbel
  have HSZ := Lib.hid hsz
  have c0 := x1.cell 0
  have c1 := x1.cell 1
  simp only [List.getElem?_cons_zero, List.getElem?_cons_succ] at c0 c1
  cases hR : mayD S C with
  | true =>
    rw [hR] at M
    have M := Lib.hid M
    have BH := Lib.hid fun w3 hx hy => behind_any A n c A' n' c' S C Af nf cf F w3 hx hs hy hfb hR
    have hE : chkD S C = 0 := by unfold chkD; rw [hR]; rfl
    have hres : crS S C F = behindS S C F := by unfold crS; rw [if_pos hR]
    have hlen : (behindS S C F).length = n := by unfold behindS; rw [behindK_len, hq.secs.len]
    rw [hE, hres]
    have HQ := Lib.hid hq
    have HF := Lib.hid hf
    have HL := Lib.hid hlen
    obtain ⟨RS, hRS⟩ : ∃ RS, RS = behindS S C F := ⟨_, rfl⟩
    rw [← hRS] at BH HL ⊢
    clear x1 x2 hbel hsz hq hs hR hE hres hlen hRS hf hfb
    go_enter Try.func33, Try.ntmps33
    go_wp2_with fail
    refine M.out.mono ?_
    rintro e w3 ⟨rfl, hb3⟩
    have x1 := X1.out.below hb3 (by have := HSZ.out; omega)
    have x2 := X2.out.below hb3 (by have := HSZ.out; omega)
    have d0 := x1.cell 0
    have d1 := x1.cell 1
    simp only [List.getElem?_cons_zero, List.getElem?_cons_succ] at d0 d1
    have R2 := Lib.hid x2
    have B3 := Lib.hid (BEL.out.trans (hb3.mono (by have := HSZ.out; omega)))
    have BH := Lib.hid (BH.out w3 (HQ.out.below B3.out) (HF.out.below B3.out))
    have hz3 : w.heap.size + 2 ≤ w3.heap.size := by have h1 := x2.lt; omega
    clear hb3 x1 x2 c0 c1 M
    go_wp2_with fail
    refine BH.out.mono ?_
    rintro e w4 ⟨B, d, rfl, hown, hb4⟩
    have x2 := R2.out.below hb4 (by omega)
    have e0 := x2.cell 0
    have e1 := x2.cell 1
    have g0 := x2.free 0
    have g1 := x2.free 1
    simp only [List.getElem?_cons_zero, List.getElem?_cons_succ] at e0 e1
    have Q2 := Lib.hid x2
    have O4 := Lib.hid hown
    have B4 := Lib.hid (B3.out.trans (hb4.mono B3.out.size))
    clear x2 hown hb4 d0 d1
    go_wp2
    have z := Q2.out.two (.slice B n d) (.slice none 0 0)
    have z0 := z.cell 0
    have z1 := z.cell 1
    simp only [List.getElem?_cons_zero, List.getElem?_cons_succ] at z0 z1
    have O9 := O4.out.two Q2.out (.slice B n d) (.slice none 0 0)
    have hl := HL.out
    refine bodyPost_ret (v := .tuple #[diskV B n d none 0 0, .int .i64 0]) ?_ rfl ⟨B, d, none, 0, by rw [hl]; rfl, by rw [hl]; exact O9.lower (by omega), below_two B4.out (by omega) _ _⟩
    clear e0 e1 g0 g1
    simp [results, Try.f33, go_sem, z0, z1]
  | false =>
    rw [hR] at M
    have M := Lib.hid M
    have hE : chkD S C = 8 := by unfold chkD; rw [hR]; rfl
    have hres : crS S C F = [] := by unfold crS; rw [hR]; rfl
    rw [hE, hres]
    clear x1 x2 hbel hsz hq hs hR hE hres hf hfb
    go_enter Try.func33, Try.ntmps33
    go_wp2_with fail
    refine M.out.mono ?_
    rintro e w3 ⟨rfl, hb3⟩
    have x2 := X2.out.below hb3 (by have := HSZ.out; omega)
    have e0 := x2.cell 0
    have e1 := x2.cell 1
    have g0 := x2.free 0
    have g1 := x2.free 1
    simp only [List.getElem?_cons_zero, List.getElem?_cons_succ] at e0 e1
    have R2 := Lib.hid x2
    have B3 := Lib.hid (BEL.out.trans (hb3.mono (by have := HSZ.out; omega)))
    clear hb3 x2 c0 c1
    go_wp2
    have z := R2.out.two (.slice none 0 0) (.slice none 0 0)
    have z0 := z.cell 0
    have z1 := z.cell 1
    simp only [List.getElem?_cons_zero, List.getElem?_cons_succ] at z0 z1
    refine bodyPost_ret (v := .tuple #[diskV none 0 0 none 0 0, .int .i64 8]) ?_ rfl ⟨none, 0, none, 0, rfl, OwnDsk.nil _ _, below_two B3.out (by omega) _ _⟩
    clear e0 e1 g0 g1
    simp [results, Try.f33, go_sem, z0, z1]

set_option maxRecDepth 100000 in
set_option maxHeartbeats 3200000 in
theorem blank_disk (m : Nat) (hm : m ≤ 100) (w : World) :
    Calls Try.prog 64 #[.int .i64 (m : Int)] w fun e w' => ∃ B d, e = .returned (diskV B m d none 0 0) ∧ OwnDsk w' w.heap.size B m d none 0 0 (List.replicate m (false, noughts)) [] ∧ Below w.heap.size w w' := by
  obtain ⟨x1, x2, hbel⟩ := boxes2 w none 0 0 none 0 0 none 0 0 none 0 0
  have hsz : ((w.alloc (.cells #[.slice none 0 0, .slice none 0 0] 25)).alloc (.cells #[.slice none 0 0, .slice none 0 0] 25)).heap.size = w.heap.size + 2 := by simp
  have RS := Lib.hid fun k => (show List.replicate (k + 1) ((false, noughts) : Sec) = List.replicate k (false, noughts) ++ [(false, noughts)] from List.replicate_succ' )
  obtain ⟨w1, hw1⟩ : ∃ w1, w1 = (w.alloc (.cells #[.slice none 0 0, .slice none 0 0] 25)).alloc (.cells #[.slice none 0 0, .slice none 0 0] 25) := ⟨_, rfl⟩
  rw [← hw1] at x1 x2 hbel hsz
  have Y1 := Lib.hid x1
  have Y2 := Lib.hid x2
  have BEL := Lib.hid hbel
  clear x1 x2 hbel hsz
  go_enter Try.func64, Try.ntmps64
  go_wp2
  rw [← hw1]
  clear hw1
  go_loopw [4] (fun i wr => ∃ k : Nat, k ≤ m ∧ i = .int .i64 k ∧ ∃ A1 c1, OwnSecs wr (w.heap.size + 2) A1 k c1 (List.replicate k (false, noughts)) ∧ Blk wr w.heap.size 25 [.slice none 0 0, .slice none 0 0] ∧ Blk wr (w.heap.size + 1) 25 [.slice A1 k c1, .slice none 0 0] ∧ Below w.heap.size w wr) (fun i _ => m - (intOf i).toNat)
  case atStart => exact ⟨0, Nat.zero_le _, rfl, none, 0, OwnSecs.nil _ _, Y1.out, Y2.out, BEL.out⟩
  case round =>
    obtain ⟨k, hk, rfl, A1, c1, hO, hx1, hx2, hB⟩ := hrel
    by_cases hkn : k < m
    · have hki : (k : Int) < (m : Int) := by omega
      have l0 := hx2.cell 0
      simp only [List.getElem?_cons_zero] at l0
      have hszd : w.heap.size + 2 ≤ wr.drew.heap.size := by have := hx2.lt; show _ ≤ wr.heap.size; omega
      obtain ⟨Q, hQ⟩ : ∃ Q, Q = List.replicate k ((false, noughts) : Sec) := ⟨_, rfl⟩
      have RSK := Lib.hid (RS.out k)
      rw [← hQ] at hO RSK
      have OD := Lib.hid (show OwnSecs wr.drew (w.heap.size + 2) A1 k c1 Q from hO.below (below_drewN (Below.refl _ _) 1))
      have BD := Lib.hid (show Below w.heap.size w wr.drew from below_drewN hB 1)
      have X1 := Lib.hid (show Blk wr.drew w.heap.size 25 [.slice none 0 0, .slice none 0 0] from hx1)
      have X3 := Lib.hid (show Blk wr.drew (w.heap.size + 1) 25 [.slice A1 k c1, .slice none 0 0] from hx2)
      have hmk := make_bytes 32 (by omega) wr.drew
      have hcur : Below wr.drew.heap.size wr.drew (wr.drew.alloc (.cells (List.replicate 32 (.int .u8 0)).toArray 5)) := (Below.refl _ _).alloc (Nat.le_refl _) _
      have hn6 := noughts_own wr.drew
      obtain ⟨w6, hw6⟩ : ∃ w6, w6 = wr.drew.alloc (.cells (List.replicate 32 (.int .u8 0)).toArray 5) := ⟨_, rfl⟩
      rw [← hw6] at hmk hcur hn6
      have HN6 := Lib.hid (show w6.ownsRow wr.drew.heap.size 5 1 (.slice (some ⟨wr.heap.size, 0, none⟩) 32 32) 32 (ints .u8 noughts) from hn6)
      have hmk' : (Instr.makeSlice 31 (.int .i64 32) (.int .i64 32)).run Try.prog wr.drew = .ok (.slice (some ⟨wr.heap.size, 0, none⟩) 32 32) w6 := hmk
      have keepS : ∀ wx, Below wr.drew.heap.size wr.drew wx → wx.cell? ⟨w.heap.size + 1, 0, none⟩ = some (.slice A1 k c1) := fun wx hx => (hx.cell (p := ⟨w.heap.size + 1, 0, none⟩) (by show w.heap.size + 1 < _; omega)).trans l0
      have hHeld := keepS wr.drew (Below.refl _ _)
      clear hQ hO hx1 hx2 hB hw6 hmk hn6
      go_wp2_with fail
      refine wp_region_to 7 (fun w' => w'.cell? ⟨w.heap.size + 1, 0, none⟩ = some (.slice A1 k c1)) (by kernel_rfl) ?_
      refine wpAnyG_take (i := 0) (v := ?_) rfl (by kernel_rfl) (by kernel_rfl) (by kernel_rfl) (by kernel_rfl) (by kernel_rfl) rfl (fun _ _ _ h => h) (Or.inl ⟨by rfl, ?_⟩) hHeld ?_
      rotate_left
      · (intro w' hSw; (try dsimp only at hSw); go_simp; (try with_reducible rfl))
      simp only [Act.put, List.setIfInBounds_toArray]
      refine wpAnyG_take (i := 1) (v := ?_) rfl (by kernel_rfl) (by kernel_rfl) (by kernel_rfl) (by kernel_rfl) (by kernel_rfl) rfl (fun _ _ _ h => h) (Or.inl ⟨by rfl, ?_⟩) hHeld ?_
      rotate_left
      · (intro w' hSw; (try dsimp only at hSw); go_simp; (try with_reducible rfl))
      simp only [Act.put]
      refine wpAnyG_one (i := 2) (by kernel_rfl) rfl (fun K hK => ?_)
      go_simp
      refine hK.out _ _ (fun _ => keepS _ hcur) (fun hHeld => ?_)
      have hHeld := hHeld (by decide)
      clear hK K
      try simp only [Act.put, List.setIfInBounds_toArray, List.set_cons_zero, List.set_cons_succ]
      refine wpAnyG_take (i := 3) (v := ?_) rfl (by kernel_rfl) (by kernel_rfl) (by kernel_rfl) (by kernel_rfl) (by kernel_rfl) rfl (fun _ _ _ h => h) (Or.inl ⟨by rfl, ?_⟩) hHeld ?_
      rotate_left
      · (intro w' hSw; (try dsimp only at hSw); go_simp; (try with_reducible rfl))
      simp only [Act.put, List.setIfInBounds_toArray]
      refine wpAnyG_one (i := 4) (by kernel_rfl) rfl (fun K hK => ?_)
      go_simp
      refine hK.out _ _ (fun _ => keepS _ (hcur.alloc hcur.size _)) (fun hHeld => ?_)
      have hHeld := hHeld (by decide)
      clear hK K
      try simp only [Act.put, List.setIfInBounds_toArray, List.set_cons_zero, List.set_cons_succ]
      refine wpAnyG_one (i := 5) (by kernel_rfl) rfl (fun K hK => ?_)
      refine step_sec wr.drew w6 (by rfl) (.tmp 11) (.tmp 14) (by rfl) (w.heap.size + 2) A1 k c1 Q (by rfl) (OD.out.below hcur) (some ⟨wr.heap.size, 0, none⟩) 32 32 false noughts noughts_byte (owns_base HN6.out hszd) (by rfl) (by omega) (hcur.mono hszd) hszd ?_
      intro g4 c4 w4 hO4 hb4 hg4
      have x3 := X3.out.below hb4 (by omega)
      have l4 := x3.cell 0
      have f4 := x3.free 0
      simp only [List.getElem?_cons_zero] at l4
      refine hK.out _ _ (fun _ => l4) (fun hHeld => ?_)
      have hHeld := hHeld (by decide)
      clear hK K
      try simp only [Act.put, List.setIfInBounds_toArray]
      refine wpAnyG_take (i := 6) (v := ?_) rfl (by kernel_rfl) (by kernel_rfl) (by kernel_rfl) (by kernel_rfl) (by kernel_rfl) rfl (fun _ _ _ h => h) (Or.inl ⟨by rfl, ?_⟩) hHeld ?_
      rotate_left
      · (intro w' hSw; (try dsimp only at hSw); go_simp; (try with_reducible rfl))
      simp only [Act.put]
      refine wpAnyG_one (i := 7) (by kernel_rfl) rfl (fun K hK => ?_)
      go_simp
      refine hK.out _ _ (fun h => absurd rfl h) (fun _ => ?_)
      clear hK K
      refine wpAnyG_done (by kernel_rfl) ?_ _
      have E4 := Lib.hid (hO4.box x3 (by decide) (by decide) 0 (.slice (some ⟨g4, 0, none⟩) (k + 1) c4))
      have Z1 := Lib.hid ((X1.out.below hb4 (by omega)).away (g' := w.heap.size + 1) (by omega) 0 (.slice (some ⟨g4, 0, none⟩) (k + 1) c4))
      have Z3 := Lib.hid (x3.set 0 (.slice (some ⟨g4, 0, none⟩) (k + 1) c4))
      have B4 := Lib.hid ((BD.out.trans (below_base hb4 (show w.heap.size ≤ w.heap.size + 2 by omega))).setCell (p := ⟨w.heap.size + 1, 0, none⟩) (show w.heap.size ≤ w.heap.size + 1 by omega) (.slice (some ⟨g4, 0, none⟩) (k + 1) c4))
      clear keepS hHeld hO4 hb4 hg4 x3 l4 f4 hcur hmk' l0
      go_wp2
      go_roundw
      case rel => exact ⟨k + 1, by omega, by go_num, _, _, by rw [RSK.out]; exact E4.out, Z1.out, Z3.out, B4.out⟩
      case measure => simp [intOf]; omega
    · have hkm : m = k := by omega
      subst hkm
      have e0 := hx2.cell 0
      have e1 := hx2.cell 1
      have r0 := hx1.cell 0
      have r1 := hx1.cell 1
      have g0 := hx1.free 0
      have g1 := hx1.free 1
      simp only [List.getElem?_cons_zero, List.getElem?_cons_succ] at e0 e1 r0 r1
      have OD := Lib.hid (show OwnDsk wr (w.heap.size + 2) A1 m c1 none 0 0 (List.replicate m (false, noughts)) [] from ⟨hO, OwnPnds.nil _ _⟩)
      have R2 := Lib.hid hx1
      have BB := Lib.hid hB
      clear hO hx1 hx2 hB
      go_wp2
      have z := R2.out.two (.slice A1 m c1) (.slice none 0 0)
      have z0 := z.cell 0
      have z1 := z.cell 1
      simp only [List.getElem?_cons_zero, List.getElem?_cons_succ] at z0 z1
      have O3 := OD.out.two R2.out (.slice A1 m c1) (.slice none 0 0)
      have B3 := below_two BB.out (Nat.le_refl _) (.slice A1 m c1) (.slice none 0 0)
      refine bodyPost_ret (v := diskV A1 m c1 none 0 0) ?_ rfl ⟨A1, c1, rfl, O3.lower (by omega), B3⟩
      clear e0 e1 r0 r1 g0 g1
      simp [results, Try.f64, go_sem, z0, z1]

end Go.Proofs.Yteinfkjlcpfeiaa
