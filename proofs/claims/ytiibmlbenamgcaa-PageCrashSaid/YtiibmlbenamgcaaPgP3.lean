/- Layer 13, the program: what a page's sector tells. -/
import Derived.Test.YtiibmlbenamgcaaPgP
import Derived.Test.YtiibmlbenamgcaaHeldOne
import Derived.Deep.RegionHeld3
import Derived.Deep.RegionWith
import Derived.ScopeJumps
import Derived.Deep.LoopGhost
namespace Go.Proofs.Ytiibmlbenamgcaa
open Go.RowKit
set_option linter.unusedVariables false
set_option maxRecDepth 100000

/-- What a sector tells, of a page with these bits. -/
def toldF (f p n : Int) (o : Option Txt) : Int := match o with
  | none => f
  | some t => if t = noughts then 0 else if subP (t.getD 3 0) f ∧ t = pgSec p n (t.getD 3 0) then t.getD 3 0 else f
theorem told_F (T p : Int) (n : Nat) (o : Option Txt) : toldP T p n o = toldF (fulP T n) p n o := by cases o <;> rfl
/-- A page in its box, a disk's behind it. -/
structure HBox (w : World) (G : Nat) (p n a f : Int) (D : Option Addr) (nd cd : Nat) (D' : Option Addr) (nd' cd' : Nat) (S : List Sec) (C : List Pnd) : Prop where
  pge : Blk w G 60 (pgL p n a f)
  dsk : DBox w (G + 1) D nd cd D' nd' cd' S C
section
variable {w w' : World} {G : Nat} {p n a f : Int} {D D' : Option Addr} {nd cd nd' cd' : Nat} {S : List Sec} {C : List Pnd}
theorem HBox.below (x : HBox w G p n a f D nd cd D' nd' cd' S C) (hb : Below w.heap.size w w') : HBox w' G p n a f D nd cd D' nd' cd' S C := ⟨x.pge.below hb x.pge.lt, x.dsk.below hb⟩
theorem HBox.cells (x : HBox w G p n a f D nd cd D' nd' cd' S C) : w.cell? ⟨G, 0, none⟩ = some (.int .i64 p) ∧ w.cell? ⟨G, 1, none⟩ = some (.int .i64 n) ∧ w.cell? ⟨G, 2, none⟩ = some (.int .i64 a) ∧ w.cell? ⟨G, 3, none⟩ = some (.int .u8 f) ∧
    w.cell? ⟨G + 1, 0, none⟩ = some (.slice D nd cd) ∧ w.cell? ⟨G + 1, 1, none⟩ = some (.slice D' nd' cd') := ⟨x.pge.cell 0, x.pge.cell 1, x.pge.cell 2, x.pge.cell 3, x.dsk.cells.1, x.dsk.cells.2⟩
theorem HBox.new (p n a f : Int) (t : Dsk w D nd cd D' nd' cd' S C) : HBox ((w.alloc (.cells #[.int .i64 p, .int .i64 n, .int .i64 a, .int .u8 f] 60)).alloc (.cells #[.slice D nd cd, .slice D' nd' cd'] 37)) w.heap.size p n a f D nd cd D' nd' cd' S C ∧
    Below w.heap.size w ((w.alloc (.cells #[.int .i64 p, .int .i64 n, .int .i64 a, .int .u8 f] 60)).alloc (.cells #[.slice D nd cd, .slice D' nd' cd'] 37)) := by
  obtain ⟨x, hb⟩ := box_pge w p n a f
  have y := DBox.new (t.below hb)
  rw [World.size_alloc] at y
  exact ⟨⟨x.grown (World.grownBy_alloc _ _ none) (by simp), y⟩, hb.alloc hb.size _⟩
end

theorem byte_at {t : Txt} (h : ∀ z ∈ t, isByte z) (k : Nat) : isByte (t.getD k 0) := by
  rcases Nat.lt_or_ge k t.length with hk | hk
  · rw [List.getD_eq_getElem?_getD, List.getElem?_eq_getElem hk]
    exact h _ (List.getElem_mem hk)
  · rw [List.getD_eq_getElem?_getD, List.getElem?_eq_none hk]
    exact ⟨by decide, by decide⟩

set_option maxHeartbeats 6400000 in
theorem ptold_any (p n a f : Int) (D : Option Addr) (nd cd : Nat) (D' : Option Addr) (nd' cd' : Nat) (S : List Sec) (C : List Pnd) (w : World) (hq : Dsk w D nd cd D' nd' cd' S C) (hs : SmallD S C) (hp : isByte p) (hn : isByte n) (hf : isByte f) :
    Calls Try.prog 29 #[pgV p n a f, diskV D nd cd D' nd' cd'] w fun e w' => e = .returned (.int .u8 (toldF f p n (optAt S C a))) ∧ Below w.heap.size w w' := by
  obtain ⟨x, hbel⟩ := HBox.new p n a f hq
  obtain ⟨w1, hw1⟩ : ∃ x : World, x = (w.alloc (.cells #[.int .i64 p, .int .i64 n, .int .i64 a, .int .u8 f] 60)).alloc (.cells #[.slice D nd cd, .slice D' nd' cd'] 37) := ⟨_, rfl⟩
  rw [← hw1] at x hbel
  have X := Lib.hid x
  have B := Lib.hid hbel
  obtain ⟨c0, c1, c2, c3, d0, d1⟩ := x.cells
  have RD := Lib.hid (fun wx hx => dsk_does.read D nd cd D' nd' cd' S C a wx hx hs)
  by_cases h0 : rdE S C a = 0
  · obtain ⟨hl, hby⟩ := rd_good h0 hq.secs.byte hq.pnds.byte
    rw [show optAt S C a = some (rdB S C a) from if_pos h0]
    rw [h0] at RD
    obtain ⟨t, ht⟩ : ∃ t, t = rdB S C a := ⟨_, rfl⟩
    rw [← ht] at RD hl hby ⊢
    have HL := Lib.hid hl
    have NZ := Lib.hid (fun A c wx (hx : Arg wx .u8 A 32 c t) => arenoughts_any A 32 c t wx hx)
    rw [all_zero hl] at NZ
    by_cases hz : t = noughts
    · rw [show toldF f p n (some t) = 0 from if_pos hz]
      rw [decide_eq_true hz] at NZ
      clear hq hs hp hn hf x hbel h0 ht hl hby hz
      go_enter Try.func29, Try.ntmps29
      go_wp2
      go_step3
      go_wp2
      go_step3
      go_wp2_with fail
      rw [← hw1]
      clear hw1
      refine (RD.out _ X.out.dsk.dsk).mono ?_
      intro e w2 hout
      obtain ⟨A2, r2, rfl, hown, hb⟩ := RowOut.len (k := .u8) (t := 5) hout rfl HL.out
      have B := Lib.hid (B.out.trans (hb.mono B.out.size))
      have X := Lib.hid (X.out.below hb)
      have AR := Lib.hid (Arg.own hown)
      clear hb hown hout c0 c1 c2 c3 d0 d1 RD
      obtain ⟨c0, c1, c2, c3, d0, d1⟩ := X.out.cells
      go_wp2_with fail
      refine (NZ.out _ _ _ AR.out).mono ?_
      rintro e w3 ⟨rfl, rfl⟩
      go_wp2
      try rw [Exit.noGoto_ret]
      go_ret
      exact ⟨rfl, B.out⟩
    · rw [decide_eq_false hz] at NZ
      have hF : toldF f p n (some t) = if subP (t.getD 3 0) f ∧ t = pgSec p n (t.getD 3 0) then t.getD 3 0 else f := if_neg hz
      have hb3 : isByte (t.getD 3 0) := byte_at hby _
      obtain ⟨b, hb⟩ : ∃ b, b = t.getD 3 0 := ⟨_, rfl⟩
      rw [hF]
      rw [← hb] at hb3 ⊢
      have HB3 := Lib.hid hb
      have TX := Lib.hid (fun w' : World => ptext_any p n a f b w' hp hn hf hb3)
      by_cases hsub : subP b f
      · obtain ⟨s, hs2⟩ : ∃ s, s = pgSec p n b := ⟨_, rfl⟩
        have hsl : s.length = 32 := by rw [hs2]; exact pgSec_len _ _
        rw [if_pos hsub, if_pos hsub] at TX
        rw [← hs2] at TX ⊢
        have YES : (∀ y, y < 32 → t.getD y 0 = s.getD y 0) → (if subP b f ∧ t = s then b else f) = b := fun h => if_pos ⟨hsub, lists_yes 0 (by rw [hl, hsl]) (fun k hk => h k (by omega))⟩
        have NO : ∀ y, t.getD y 0 ≠ s.getD y 0 → (if subP b f ∧ t = s then b else f) = f := fun y h => if_neg (fun h2 => h (by rw [h2.2]))
        obtain ⟨R, hR⟩ : ∃ R, R = if subP b f ∧ t = s then b else f := ⟨_, rfl⟩
        rw [← hR] at YES NO ⊢
        have YES := Lib.hid YES
        have NO := Lib.hid NO
        have HSL := Lib.hid hsl
        clear hq hs hp hn hf x hbel h0 ht hl hby hz hF hb3 hb hsub hs2 hsl hR
        go_enter Try.func29, Try.ntmps29
        go_wp2
        go_step3
        go_wp2
        go_step3
        go_wp2_with fail
        rw [← hw1]
        clear hw1
        refine (RD.out _ X.out.dsk.dsk).mono ?_
        intro e w2 hout
        obtain ⟨A2, r2, rfl, hown, hb⟩ := RowOut.len (k := .u8) (t := 5) hout rfl HL.out
        have B := Lib.hid (B.out.trans (hb.mono B.out.size))
        have X := Lib.hid (X.out.below hb)
        have AR := Lib.hid (Arg.own hown)
        clear hb hown hout c0 c1 c2 c3 d0 d1 RD
        obtain ⟨c0, c1, c2, c3, d0, d1⟩ := X.out.cells
        go_wp2_with fail
        refine (NZ.out _ _ _ AR.out).mono ?_
        rintro e w3 ⟨rfl, rfl⟩
        obtain ⟨g, o, rfl, hlt, hc⟩ := AR.out.seq.int (j := 3) (by rw [HL.out]; decide)
        rw [← HB3.out] at hc
        have keepX : ∀ wx, Below w3.heap.size w3 wx → wx.cell? ⟨w.heap.size, 0, none⟩ = some (.int .i64 p) ∧ wx.cell? ⟨w.heap.size, 1, none⟩ = some (.int .i64 n) ∧ wx.cell? ⟨w.heap.size, 2, none⟩ = some (.int .i64 a) ∧ wx.cell? ⟨w.heap.size, 3, none⟩ = some (.int .u8 f) ∧ wx.cell? ⟨g, o + 3, none⟩ = some (.int .u8 b) := fun wx hx => by
          obtain ⟨c0, c1, c2, c3, _, _⟩ := (X.out.below hx).cells
          exact ⟨c0, c1, c2, c3, (hx.cell (p := ⟨g, o + 3, none⟩) hlt).trans hc⟩
        clear c0 c1 c2 c3 d0 d1 hc
        go_upto_region 3 with fail
        have hcur : Below w3.heap.size w3 w3.drew := below_drewN (Below.refl _ _) 1
        have hkX := keepX _ hcur
        go_region_held3 (fun w' => w'.cell? ⟨w.heap.size, 0, none⟩ = some (.int .i64 p) ∧ w'.cell? ⟨w.heap.size, 1, none⟩ = some (.int .i64 n) ∧ w'.cell? ⟨w.heap.size, 2, none⟩ = some (.int .i64 a) ∧ w'.cell? ⟨w.heap.size, 3, none⟩ = some (.int .u8 f) ∧ w'.cell? ⟨g, o + 3, none⟩ = some (.int .u8 b))
          (first | exact hkX | go_keep)
          (first | (go_at_call 26; (with_reducible refine (TX.out _).mono ?_); intro e w4 hout; obtain ⟨A4, c4, rfl, hown, hb4⟩ := hout.len rfl HSL.out; have hcur := hcur.trans (hb4.mono hcur.size); have hkX := keepX _ hcur))
        have hfin := Lib.hid (B.out.trans (hcur.mono B.out.size))
        have AR := Lib.hid (AR.out.below hcur)
        have AS := Lib.hid (Arg.own hown)
        clear keepX hkX hown hb4 hcur hlt X B
        go_wp2
        go_loop [33] (fun i => ∃ k : Nat, k ≤ 32 ∧ i = .int .i64 k ∧ ∀ y, y < k → t.getD y 0 = s.getD y 0) (fun i => 32 - (intOf i).toNat)
        case atStart => exact ⟨0, Nat.zero_le _, rfl, fun y hy => by omega⟩
        case round =>
          obtain ⟨k, hk, rfl, hall⟩ := hrel
          have ALL := Lib.hid hall
          clear hall
          by_cases hkn : k < 32
          · have hki : (k : Int) < 32 := by omega
            obtain ⟨g1, o1, he1, _, hc1⟩ := AR.out.seq.int (j := k) (by rw [HL.out]; exact hkn)
            injection he1 with he1
            injection he1 with he1 he2
            subst he1
            subst he2
            obtain ⟨g2, o2, rfl, _, hc2⟩ := AS.out.seq.int (j := k) (by rw [HSL.out]; exact hkn)
            obtain ⟨x, hx⟩ : ∃ x, x = t.getD k 0 := ⟨_, rfl⟩
            obtain ⟨y, hy⟩ : ∃ y, y = s.getD k 0 := ⟨_, rfl⟩
            rw [← hx] at hc1
            rw [← hy] at hc2
            by_cases hxy : x = y
            · have HE := Lib.hid (show t.getD k 0 = s.getD k 0 by rw [← hx, ← hy, hxy])
              have hq : (x != y) = false := by rw [hxy]; exact bne_self_eq_false _
              clear hx hy hxy
              go_wp2
              go_round
              case rel =>
                refine ⟨k + 1, by omega, by go_num, fun y hy => ?_⟩
                rcases Nat.lt_or_ge y k with h' | h'
                · exact ALL.out y h'
                · obtain rfl : y = k := by omega
                  exact HE.out
              case measure => simp [intOf]; omega
            · have HR := Lib.hid (NO.out k (by rw [← hx, ← hy]; exact hxy))
              have hq : (x != y) = true := bne_iff_ne.2 hxy
              clear hx hy hxy
              go_wp2
              (try rw [Exit.noGoto_ret])
              go_ret
              rw [HR.out]
              exact ⟨rfl, hfin.out⟩
          · obtain rfl : k = 32 := by omega
            have HR := Lib.hid (YES.out ALL.out)
            obtain ⟨g1, o1, he1, _, hc1⟩ := AR.out.seq.int (j := 3) (by rw [HL.out]; decide)
            injection he1 with he1
            injection he1 with he1 he2
            subst he1
            subst he2
            rw [← HB3.out] at hc1
            go_wp2
            (try rw [Exit.noGoto_ret])
            go_ret
            rw [HR.out]
            exact ⟨rfl, hfin.out⟩
      · rw [if_neg (fun h => hsub h.1)]
        rw [if_neg hsub, if_neg hsub] at TX
        clear hq hs hp hn hf x hbel h0 ht hl hby hz hF hb3 hb hsub
        go_enter Try.func29, Try.ntmps29
        go_wp2
        go_step3
        go_wp2
        go_step3
        go_wp2_with fail
        rw [← hw1]
        clear hw1
        refine (RD.out _ X.out.dsk.dsk).mono ?_
        intro e w2 hout
        obtain ⟨A2, r2, rfl, hown, hb⟩ := RowOut.len (k := .u8) (t := 5) hout rfl HL.out
        have B := Lib.hid (B.out.trans (hb.mono B.out.size))
        have X := Lib.hid (X.out.below hb)
        have AR := Lib.hid (Arg.own hown)
        clear hb hown hout c0 c1 c2 c3 d0 d1 RD
        obtain ⟨c0, c1, c2, c3, d0, d1⟩ := X.out.cells
        go_wp2_with fail
        refine (NZ.out _ _ _ AR.out).mono ?_
        rintro e w3 ⟨rfl, rfl⟩
        obtain ⟨g, o, rfl, hlt, hc⟩ := AR.out.seq.int (j := 3) (by rw [HL.out]; decide)
        rw [← HB3.out] at hc
        have keepX : ∀ wx, Below w3.heap.size w3 wx → wx.cell? ⟨w.heap.size, 0, none⟩ = some (.int .i64 p) ∧ wx.cell? ⟨w.heap.size, 1, none⟩ = some (.int .i64 n) ∧ wx.cell? ⟨w.heap.size, 2, none⟩ = some (.int .i64 a) ∧ wx.cell? ⟨w.heap.size, 3, none⟩ = some (.int .u8 f) ∧ wx.cell? ⟨g, o + 3, none⟩ = some (.int .u8 b) := fun wx hx => by
          obtain ⟨c0, c1, c2, c3, _, _⟩ := (X.out.below hx).cells
          exact ⟨c0, c1, c2, c3, (hx.cell (p := ⟨g, o + 3, none⟩) hlt).trans hc⟩
        clear c0 c1 c2 c3 d0 d1 hc
        go_upto_region 3 with fail
        have hcur : Below w3.heap.size w3 w3.drew := below_drewN (Below.refl _ _) 1
        have hkX := keepX _ hcur
        go_region_held3 (fun w' => w'.cell? ⟨w.heap.size, 0, none⟩ = some (.int .i64 p) ∧ w'.cell? ⟨w.heap.size, 1, none⟩ = some (.int .i64 n) ∧ w'.cell? ⟨w.heap.size, 2, none⟩ = some (.int .i64 a) ∧ w'.cell? ⟨w.heap.size, 3, none⟩ = some (.int .u8 f) ∧ w'.cell? ⟨g, o + 3, none⟩ = some (.int .u8 b))
          (first | exact hkX | go_keep)
          (first | (go_at_call 26; (with_reducible refine (TX.out _).mono ?_); rintro e w4 ⟨A4, c4, rfl, hown, hb4⟩; have hcur := hcur.trans (hb4.mono hcur.size); have hkX := keepX _ hcur))
        all_goals (have hfin := Lib.hid (B.out.trans (hcur.mono B.out.size)); clear keepX hkX hown hb4; go_wp2; (try rw [Exit.noGoto_ret]); go_ret; exact ⟨rfl, hfin.out⟩)
  · rw [show optAt S C a = none from if_neg h0]
    obtain ⟨E, hE⟩ : ∃ E, E = rdE S C a := ⟨_, rfl⟩
    rw [← hE] at RD h0
    have hq2 : (E != 0) = true := bne_iff_ne.2 h0
    have hq3 : (E == 0) = false := beq_eq_false_iff_ne.2 h0
    rw [show toldF f p n none = f from rfl]
    obtain ⟨m, hm⟩ : ∃ m, m = (rdB S C a).length := ⟨_, rfl⟩
    clear hq hs hp hn hf x hbel h0 hE
    go_enter Try.func29, Try.ntmps29
    go_wp2
    go_step3
    go_wp2
    go_step3
    go_wp2_with fail
    rw [← hw1]
    clear hw1
    refine (RD.out _ X.out.dsk.dsk).mono ?_
    intro e w2 hout
    obtain ⟨A2, r2, rfl, hown, hb⟩ := RowOut.len (k := .u8) (t := 5) hout rfl hm.symm
    have B := Lib.hid (B.out.trans (hb.mono B.out.size))
    have X := Lib.hid (X.out.below hb)
    clear hb hown hout c0 c1 c2 c3 d0 d1 RD hm
    obtain ⟨c0, c1, c2, c3, d0, d1⟩ := X.out.cells
    go_wp2
    try rw [Exit.noGoto_ret]
    go_ret
    exact ⟨rfl, B.out⟩

end Go.Proofs.Ytiibmlbenamgcaa
