/- Layer 13, the document's: what a page's sector tells. -/
import Derived.Test.YtiibmlbenamgcaaPgR
import Derived.Test.YtiibmlbenamgcaaTrkR
import Derived.Deep.RegionWith
import Derived.Deep.RegionHeld3
namespace Go.Proofs.Ytiibmlbenamgcaa
open Go.RowKit
set_option linter.unusedVariables false
set_option maxRecDepth 100000

/-- Got, at a sector that is there: read, or not. -/
theorem got_opt {S : List Sec} {C : List Pnd} {a : Int} (hm : mayD S C = true) (h0 : 0 ≤ a) (h1 : a < (S.length : Int)) :
    (gotOk S C a = true → optAt S C a = some (gotB S C a)) ∧ (gotOk S C a = false → optAt S C a = none) := by
  have hA : askE S C a = 0 := by
    unfold askE
    rw [if_pos hm, if_neg (by omega)]
  have hR : rdE S C a = if gotOk S C a then 0 else 50 := if_pos hA
  constructor
  · intro h
    rw [h] at hR
    have h2 : rdE S C a = 0 := hR
    unfold optAt
    rw [if_pos h2]
    unfold rdB
    rw [if_pos h2]
  · intro h
    rw [h] at hR
    have h2 : rdE S C a = 50 := hR
    unfold optAt
    rw [if_neg (by rw [h2]; decide)]

def cv53 : Op := .convert 22 9 (.tmp 52)
set_option maxHeartbeats 12800000 in
theorem rtold_any (P T A M W Q p : Int) (k : Nat) (D : Option Addr) (nd cd : Nat) (D' : Option Addr) (nd' cd' : Nat) (S : List Sec) (C : List Pnd) (w : World) (hq : Dsk w D nd cd D' nd' cd' S C) (hs : SmallD S C) (ht : mayT P T A M W Q S C) (hp : 0 ≤ p ∧ p < P) (hk : (k : Int) < pagC T) :
    Calls Try.prog 68 #[cfgV P T A M W Q, diskV D nd cd D' nd' cd', .int .i64 p, .int .i64 (k : Int)] w fun e w' => e = .returned (.int .u8 (toldP T p k (optAt S C (atP T A p k)))) ∧ Below w.heap.size w w' := by
  obtain ⟨x, hbel⟩ := TBox.new P T A M W Q hq
  obtain ⟨w1, hw1⟩ : ∃ x : World, x = (w.alloc (.cells #[.int .i64 P, .int .i64 T, .int .i64 A, .int .i64 M, .int .i64 W, .int .i64 Q] 27)).alloc (.cells #[.slice D nd cd, .slice D' nd' cd'] 37) := ⟨_, rfl⟩
  rw [← hw1] at x hbel
  have X := Lib.hid x
  have B := Lib.hid hbel
  obtain ⟨c0, c1, c2, c3, c4, c5, d0, d1⟩ := x.cells
  have hc := ht.1
  have hat := at_page hc hp (m := (k : Int)) ⟨by omega, hk⟩
  obtain ⟨u, hu⟩ : ∃ u : Nat, atP T A p (k : Int) = (u : Int) := ⟨(atP T A p (k : Int)).toNat, by omega⟩
  have hun : u < nd := by have := hq.secs.len; have := ht.2.2; omega
  have hgo := got_opt ht.2.1 (a := (u : Int)) (by omega) (by have := ht.2.2; omega)
  have OF := Lib.hid (fun w' : World => rofpage_any P T A M W Q p (k : Int) w' hc ⟨hp.1, by omega, by omega, by omega⟩)
  rw [show fP A + p * pagC T + (k : Int) = (u : Int) from hu] at OF
  rw [hu]
  have GO := Lib.hid (fun (wx : World) (hx : Dsk wx D nd cd D' nd' cd' S C) => got_any D nd cd D' nd' cd' S C u wx hx hs hun)
  have FU := Lib.hid (fun w' : World => rfull_any hc w')
  have hl := (many_zero hc).2
  obtain ⟨m, hme⟩ : ∃ m : Nat, m = (pagC T).toNat := ⟨_, rfl⟩
  rw [← hme] at hl
  have hkm : (k : Int) < (m : Int) := by omega
  have hf : isByte (fulP T k) := ful_byte
  rw [told_F]
  have hfu : fulP T k = (allB T).getD k 0 := rfl
  obtain ⟨f, hf0⟩ : ∃ f, f = fulP T k := ⟨_, rfl⟩
  rw [← hf0] at hfu hf ⊢
  obtain ⟨L, hL⟩ : ∃ L, L = allB T := ⟨_, rfl⟩
  rw [← hL] at FU hl hfu
  have HL := Lib.hid hl
  have HF := Lib.hid hfu
  have hwr : IntKind.i64.wrap (k : Int) = k := Lib.wrap_i64_small k (by have := pag_is hc; omega)
  have hkm2 := Lib.hid (show k < m by omega)
  have hpb : isByte p ∧ isByte (k : Int) := by
    have := pag_is hc
    have hc2 := hc
    unfold mayC at hc2
    exact ⟨⟨hp.1, by omega⟩, ⟨by omega, by omega⟩⟩
  have hgl : gotOk S C u = true → (gotB S C u).length = 32 ∧ ∀ z ∈ gotB S C u, isByte z := fun h => by
    have h2 := hgo.1 h
    unfold optAt at h2
    split at h2
    · rename_i h3
      injection h2 with h2
      rw [← h2]
      exact rd_good h3 hq.secs.byte hq.pnds.byte
    · cases h2
  obtain ⟨t, ht0⟩ : ∃ t, t = gotB S C u := ⟨_, rfl⟩
  obtain ⟨is, hi0⟩ : ∃ is, is = gotOk S C u := ⟨_, rfl⟩
  rw [← ht0, ← hi0] at GO hgl hgo
  obtain ⟨n, hn⟩ : ∃ n, n = t.length := ⟨_, rfl⟩
  rw [← hn] at GO hgl
  have HN := Lib.hid hn.symm
  cases is with
  | false =>
    rw [hgo.2 rfl, show toldF f p k none = f from rfl]
    clear x hbel hq hs ht hp hk hc hat hu hun hgo hl hme hf hfu hf0 hL hpb hgl ht0 hi0 hn
    go_enter Try.func68, Try.ntmps68
    go_wp2_with fail
    rw [← hw1]
    clear hw1
    refine (FU.out _).mono ?_
    intro e w2 hout
    obtain ⟨A2, r2, rfl, hown, hb⟩ := hout.len rfl HL.out
    obtain ⟨g, rfl, _, hc, _, _⟩ := owns_int_at hown hkm2.out
    rw [← HF.out] at hc
    have B := Lib.hid (B.out.trans (hb.mono B.out.size))
    have X := Lib.hid (X.out.below hb)
    clear hb hown hout c0 c1 c2 c3 c4 c5 d0 d1 FU
    go_upto_region 2 with fail
    have keepX : ∀ wx, Below w2.heap.size w2 wx → wx.cell? ⟨w.heap.size, 0, none⟩ = some (.int .i64 P) ∧ wx.cell? ⟨w.heap.size, 1, none⟩ = some (.int .i64 T) ∧ wx.cell? ⟨w.heap.size, 2, none⟩ = some (.int .i64 A) ∧ wx.cell? ⟨w.heap.size, 3, none⟩ = some (.int .i64 M) ∧ wx.cell? ⟨w.heap.size, 4, none⟩ = some (.int .i64 W) ∧ wx.cell? ⟨w.heap.size, 5, none⟩ = some (.int .i64 Q) ∧ wx.cell? ⟨w.heap.size + 1, 0, none⟩ = some (.slice D nd cd) ∧ wx.cell? ⟨w.heap.size + 1, 1, none⟩ = some (.slice D' nd' cd') := fun wx hx => (X.out.below hx).cells
    have hcur : Below w2.heap.size w2 w2.drew := below_drewN (Below.refl _ _) 1
    have hkX := keepX _ hcur
    go_region_held3 (fun w' => w'.cell? ⟨w.heap.size, 0, none⟩ = some (.int .i64 P) ∧ w'.cell? ⟨w.heap.size, 1, none⟩ = some (.int .i64 T) ∧ w'.cell? ⟨w.heap.size, 2, none⟩ = some (.int .i64 A) ∧ w'.cell? ⟨w.heap.size, 3, none⟩ = some (.int .i64 M) ∧ w'.cell? ⟨w.heap.size, 4, none⟩ = some (.int .i64 W) ∧ w'.cell? ⟨w.heap.size, 5, none⟩ = some (.int .i64 Q) ∧ w'.cell? ⟨w.heap.size + 1, 0, none⟩ = some (.slice D nd cd) ∧ w'.cell? ⟨w.heap.size + 1, 1, none⟩ = some (.slice D' nd' cd'))
      (first | exact hkX | go_keep)
      (first | (go_at_call 42; (with_reducible refine (OF.out _).mono ?_); rintro e w3 ⟨rfl, hb3⟩; have hcur := hcur.trans (hb3.mono hcur.size); have hkX := keepX _ hcur) | (go_at_call 78; (with_reducible refine (GO.out _ (X.out.below hcur).dsk.dsk).mono ?_); rintro e w4 ⟨A4, r4, rfl, hown4, hb4⟩; have hcur := hcur.trans (hb4.mono hcur.size); have hkX := keepX _ hcur))
    all_goals (have hfin := Lib.hid (B.out.trans (hcur.mono B.out.size)); clear keepX hkX hown4 hb4; go_wp2; go_ret; exact ⟨rfl, hfin.out⟩)
  | true =>
    obtain ⟨hl32, hby⟩ := hgl rfl
    subst hl32
    rw [hgo.1 rfl]
    have hnl : t.length = 32 := hn.symm
    have NBY := noughts_bytes
    by_cases hz : t = noughts
    · rw [show toldF f p k (some t) = 0 from if_pos hz]
      subst hz
      clear x hbel hq hs ht hp hk hc hat hu hun hgo hl hme hf hfu hf0 hL hpb hgl ht0 hi0 hn
      go_enter Try.func68, Try.ntmps68
      go_wp2_with fail
      rw [← hw1]
      clear hw1
      refine (FU.out _).mono ?_
      intro e w2 hout
      obtain ⟨A2, r2, rfl, hown, hb⟩ := hout.len rfl HL.out
      obtain ⟨g, rfl, _, hc, _, _⟩ := owns_int_at hown hkm2.out
      rw [← HF.out] at hc
      have B := Lib.hid (B.out.trans (hb.mono B.out.size))
      have X := Lib.hid (X.out.below hb)
      clear hb hown hout c0 c1 c2 c3 c4 c5 d0 d1 FU
      go_upto_region 2 with fail
      have keepX : ∀ wx, Below w2.heap.size w2 wx → wx.cell? ⟨w.heap.size, 0, none⟩ = some (.int .i64 P) ∧ wx.cell? ⟨w.heap.size, 1, none⟩ = some (.int .i64 T) ∧ wx.cell? ⟨w.heap.size, 2, none⟩ = some (.int .i64 A) ∧ wx.cell? ⟨w.heap.size, 3, none⟩ = some (.int .i64 M) ∧ wx.cell? ⟨w.heap.size, 4, none⟩ = some (.int .i64 W) ∧ wx.cell? ⟨w.heap.size, 5, none⟩ = some (.int .i64 Q) ∧ wx.cell? ⟨w.heap.size + 1, 0, none⟩ = some (.slice D nd cd) ∧ wx.cell? ⟨w.heap.size + 1, 1, none⟩ = some (.slice D' nd' cd') := fun wx hx => (X.out.below hx).cells
      have hcur : Below w2.heap.size w2 w2.drew := below_drewN (Below.refl _ _) 1
      have hkX := keepX _ hcur
      go_region_held3 (fun w' => w'.cell? ⟨w.heap.size, 0, none⟩ = some (.int .i64 P) ∧ w'.cell? ⟨w.heap.size, 1, none⟩ = some (.int .i64 T) ∧ w'.cell? ⟨w.heap.size, 2, none⟩ = some (.int .i64 A) ∧ w'.cell? ⟨w.heap.size, 3, none⟩ = some (.int .i64 M) ∧ w'.cell? ⟨w.heap.size, 4, none⟩ = some (.int .i64 W) ∧ w'.cell? ⟨w.heap.size, 5, none⟩ = some (.int .i64 Q) ∧ w'.cell? ⟨w.heap.size + 1, 0, none⟩ = some (.slice D nd cd) ∧ w'.cell? ⟨w.heap.size + 1, 1, none⟩ = some (.slice D' nd' cd'))
        (first | exact hkX | go_keep)
        (first | (go_at_call 42; (with_reducible refine (OF.out _).mono ?_); rintro e w3 ⟨rfl, hb3⟩; have hcur := hcur.trans (hb3.mono hcur.size); have hkX := keepX _ hcur) | (go_at_call 78; (with_reducible refine (GO.out _ (X.out.below hcur).dsk.dsk).mono ?_); rintro e w4 ⟨A4, r4, rfl, hown4, hb4⟩; have hcur := hcur.trans (hb4.mono hcur.size); have hkX := keepX _ hcur))
      have AR := Lib.hid ((Arg.own hown4).below (w' := w4) (Below.refl _ _))
      have B := Lib.hid (B.out.trans (hcur.mono B.out.size))
      clear keepX hkX hown4 hb4 hcur X OF GO
      go_upto_region 5 with fail
      have hm := make32 w4.drew
      have hA1 := AR.out.below (w' := w4.drew) (below_drewN (Below.refl _ _) 1)
      have hal : Below w4.drew.heap.size w4.drew (w4.drew.alloc (.cells (ints .u8 noughts).toArray 5)) := (Below.refl _ _).alloc (Nat.le_refl _) _
      have hA2 := hA1.below hal
      have hA3 := Arg.own (nown32 w4.drew)
      have hfin := Lib.hid (B.out.trans ((((below_drewN (Below.refl _ _) 1 : Below w4.heap.size w4 w4.drew)).trans (hal.mono (Nat.le_refl w4.heap.size))).mono B.out.size))
      obtain ⟨w6, hw6⟩ : ∃ x : World, x = w4.drew.alloc (.cells (ints .u8 noughts).toArray 5) := ⟨_, rfl⟩
      obtain ⟨g6, hg6⟩ : ∃ x : Nat, x = w4.drew.heap.size := ⟨_, rfl⟩
      rw [← hw6] at hm hA2 hA3 hfin
      rw [← hg6] at hm hA3
      have q1 := str_arg hA1
      have q2 := str_arg hA2
      have q3 := str_arg hA3
      obtain ⟨s1, hs1⟩ : ∃ s, s = strOfNums noughts := ⟨_, rfl⟩
      rw [← hs1] at q1 q2 q3
      have hss : (s1.toList == s1.toList) = true := beq_self_eq_true _
      clear hA1 hA2 hA3 hal hw6 hg6 hs1
      go_region
      all_goals (go_wp2; go_ret; exact ⟨rfl, hfin.out⟩)
    · have hb0 : isByte (t.getD 3 0) := byte_at hby _
      rw [show toldF f p k (some t) = if subP (t.getD 3 0) f ∧ t = pgSec p k (t.getD 3 0) then t.getD 3 0 else f from if_neg hz]
      obtain ⟨b, hbb⟩ : ∃ b, b = t.getD 3 0 := ⟨_, rfl⟩
      rw [← hbb] at hb0 ⊢
      have HB := Lib.hid hbb
      have hiff := sub_and hb0 hf
      have hn0 := str_ne hby NBY hz
      obtain ⟨st, hst⟩ : ∃ s, s = strOfNums t := ⟨_, rfl⟩
      obtain ⟨s0, hs0⟩ : ∃ s, s = strOfNums noughts := ⟨_, rfl⟩
      rw [← hst, ← hs0] at hn0
      have HST := Lib.hid hst
      have HS0 := Lib.hid hs0
      have hbq : (b == b) = true := beq_self_eq_true _
      by_cases hsub : subP b f
      · have hqB := hiff.1 hsub
        have hsec : isByte b → ∀ z ∈ pgSec p k b, isByte z := fun h z hz => by
          unfold pgSec at hz
          rcases List.mem_append.1 hz with hz | hz
          · simp only [List.mem_cons, List.not_mem_nil, or_false] at hz
            rcases hz with rfl | rfl | rfl | rfl
            · exact ⟨by decide, by decide⟩
            · exact hpb.1
            · exact hpb.2
            · exact h
          · rw [List.eq_of_mem_replicate hz]
            exact ⟨by decide, by decide⟩
        have hse := strs_eq hby (hsec hb0)
        have SE := Lib.hid (fun w' : World => rsector_any p k b w' hpb.1 hpb.2)
        have hR : (if subP b f ∧ t = pgSec p k b then b else f) = if decide (t = pgSec p k b) = true then b else f := by
          by_cases h : t = pgSec p k b
          · rw [if_pos ⟨hsub, h⟩, if_pos (decide_eq_true h)]
          · rw [if_neg (fun h2 => h h2.2), if_neg (fun h2 => h (of_decide_eq_true h2))]
        rw [hR]
        obtain ⟨d, hd⟩ : ∃ d, d = decide (t = pgSec p k b) := ⟨_, rfl⟩
        rw [← hd] at hse ⊢
        obtain ⟨V, hV⟩ : ∃ V : Txt, V = pgSec p (k : Int) b := ⟨_, rfl⟩
        rw [← hV] at SE hse
        have HV := Lib.hid (show V.length = 32 by rw [hV]; exact pgSec_len _ _)
        obtain ⟨sv, hsv⟩ : ∃ s, s = strOfNums V := ⟨_, rfl⟩
        rw [← hsv, ← hst] at hse
        have HSV := Lib.hid hsv
        clear x hbel hq hs ht hp hk hc hat hu hun hgo hl hme hf hfu hf0 hL hpb hgl ht0 hi0 hn hz hb0 hbb hiff hst hs0 hsub hby NBY hsec hR hd hV hsv hnl
        cases d with
        | true =>
          rw [if_pos rfl]
          go_enter Try.func68, Try.ntmps68
          go_wp2_with fail
          rw [← hw1]
          clear hw1
          refine (FU.out _).mono ?_
          intro e w2 hout
          obtain ⟨A2, r2, rfl, hown, hb⟩ := hout.len rfl HL.out
          obtain ⟨g, rfl, _, hc, _, _⟩ := owns_int_at hown hkm2.out
          rw [← HF.out] at hc
          have B := Lib.hid (B.out.trans (hb.mono B.out.size))
          have X := Lib.hid (X.out.below hb)
          clear hb hown hout c0 c1 c2 c3 c4 c5 d0 d1 FU
          go_upto_region 2 with fail
          have keepX : ∀ wx, Below w2.heap.size w2 wx → wx.cell? ⟨w.heap.size, 0, none⟩ = some (.int .i64 P) ∧ wx.cell? ⟨w.heap.size, 1, none⟩ = some (.int .i64 T) ∧ wx.cell? ⟨w.heap.size, 2, none⟩ = some (.int .i64 A) ∧ wx.cell? ⟨w.heap.size, 3, none⟩ = some (.int .i64 M) ∧ wx.cell? ⟨w.heap.size, 4, none⟩ = some (.int .i64 W) ∧ wx.cell? ⟨w.heap.size, 5, none⟩ = some (.int .i64 Q) ∧ wx.cell? ⟨w.heap.size + 1, 0, none⟩ = some (.slice D nd cd) ∧ wx.cell? ⟨w.heap.size + 1, 1, none⟩ = some (.slice D' nd' cd') := fun wx hx => (X.out.below hx).cells
          have hcur : Below w2.heap.size w2 w2.drew := below_drewN (Below.refl _ _) 1
          have hkX := keepX _ hcur
          go_region_held3 (fun w' => w'.cell? ⟨w.heap.size, 0, none⟩ = some (.int .i64 P) ∧ w'.cell? ⟨w.heap.size, 1, none⟩ = some (.int .i64 T) ∧ w'.cell? ⟨w.heap.size, 2, none⟩ = some (.int .i64 A) ∧ w'.cell? ⟨w.heap.size, 3, none⟩ = some (.int .i64 M) ∧ w'.cell? ⟨w.heap.size, 4, none⟩ = some (.int .i64 W) ∧ w'.cell? ⟨w.heap.size, 5, none⟩ = some (.int .i64 Q) ∧ w'.cell? ⟨w.heap.size + 1, 0, none⟩ = some (.slice D nd cd) ∧ w'.cell? ⟨w.heap.size + 1, 1, none⟩ = some (.slice D' nd' cd'))
            (first | exact hkX | go_keep)
            (first | (go_at_call 42; (with_reducible refine (OF.out _).mono ?_); rintro e w3 ⟨rfl, hb3⟩; have hcur := hcur.trans (hb3.mono hcur.size); have hkX := keepX _ hcur) | (go_at_call 78; (with_reducible refine (GO.out _ (X.out.below hcur).dsk.dsk).mono ?_); rintro e w4 ⟨A4, r4, rfl, hown4, hb4⟩; have hcur := hcur.trans (hb4.mono hcur.size); have hkX := keepX _ hcur))
          have AR := Lib.hid ((Arg.own hown4).below (w' := w4) (Below.refl _ _))
          have B := Lib.hid (B.out.trans (hcur.mono B.out.size))
          clear keepX hkX hown4 hb4 hcur X OF GO
          go_upto_region 5 with fail
          have hm := make32 w4.drew
          have hA1 := AR.out.below (w' := w4.drew) (below_drewN (Below.refl _ _) 1)
          have hal : Below w4.drew.heap.size w4.drew (w4.drew.alloc (.cells (ints .u8 noughts).toArray 5)) := (Below.refl _ _).alloc (Nat.le_refl _) _
          have hA2 := hA1.below hal
          have hA3 := Arg.own (nown32 w4.drew)
          have hfin := Lib.hid (B.out.trans ((((below_drewN (Below.refl _ _) 1 : Below w4.heap.size w4 w4.drew)).trans (hal.mono (Nat.le_refl w4.heap.size))).mono B.out.size))
          obtain ⟨w6, hw6⟩ : ∃ x : World, x = w4.drew.alloc (.cells (ints .u8 noughts).toArray 5) := ⟨_, rfl⟩
          obtain ⟨g6, hg6⟩ : ∃ x : Nat, x = w4.drew.heap.size := ⟨_, rfl⟩
          rw [← hw6] at hm hA2 hA3 hfin
          rw [← hg6] at hm hA3
          have q1 := str_arg hA1
          have q2 := str_arg hA2
          have q3 := str_arg hA3
          rw [← HS0.out] at q3
          rw [← HST.out] at q1 q2
          have AR := Lib.hid hA2
          clear hA1 hA2 hA3 hal hw6 hg6
          first | go_region | fail
          go_upto_region 7 with fail
          have h6 := AR.out.seq.int (j := 3) (by rw [HN.out]; decide)
          obtain ⟨g7, o7, he7, hlt7, hc7⟩ := h6
          rw [← HB.out] at hc7
          subst he7
          have hc8 : w6.drew.cell? ⟨g7, o7 + 3, none⟩ = some (.int .u8 b) := hc7
          have hcur : Below w6.heap.size w6 w6.drew := below_drewN (Below.refl _ _) 1
          have q8 := str_arg (AR.out.below hcur)
          rw [← HST.out] at q8
          have hfin8 := Lib.hid (hfin.out.trans (hcur.mono hfin.out.size))
          clear q1 q2 q3 hm hc7
          rw [show Op.convert 22 9 (Operand.tmp 52) = cv53 from rfl]
          have hcv : cv53 = Op.convert 22 9 (Operand.tmp 52) := rfl
          have keepX : ∀ wx, Below w6.heap.size w6 wx → wx.cell? ⟨g7, o7 + 3, none⟩ = some (.int .u8 b) ∧ (convert 22 9 (.slice (some ⟨g7, o7, none⟩) 32 r4)).run Try.prog wx = .ok (.string st) wx := fun wx hx => ⟨(hx.cell (p := ⟨g7, o7 + 3, none⟩) hlt7).trans hc8, by have := str_arg (AR.out.below hx); rwa [← HST.out] at this⟩
          have hkX := keepX _ hcur
          clear q8 hc8
          go_region_held3 (fun w' => w'.cell? ⟨g7, o7 + 3, none⟩ = some (.int .u8 b) ∧ (convert 22 9 (.slice (some ⟨g7, o7, none⟩) 32 r4)).run Try.prog w' = .ok (.string st) w')
            (first | exact hkX | go_keep)
            (first | (go_at_call 41; (with_reducible refine (SE.out _).mono ?_); intro e w7 hout; obtain ⟨A7, r7, rfl, hown7, hb7⟩ := hout.len rfl HV.out; have hcur := hcur.trans (hb7.mono hcur.size); have hkX := keepX _ hcur; have q10 := str_arg (Arg.own hown7); rw [← HSV.out] at q10; have hfin8 := Lib.hid (hfin8.out.trans (hb7.mono hfin8.out.size)); clear hown7 hb7 hout))
          all_goals (obtain ⟨hc9, _⟩ := hkX; go_wp2; go_ret; exact ⟨rfl, hfin8.out⟩)
        | false =>
          rw [if_neg (by decide)]
          go_enter Try.func68, Try.ntmps68
          go_wp2_with fail
          rw [← hw1]
          clear hw1
          refine (FU.out _).mono ?_
          intro e w2 hout
          obtain ⟨A2, r2, rfl, hown, hb⟩ := hout.len rfl HL.out
          obtain ⟨g, rfl, _, hc, _, _⟩ := owns_int_at hown hkm2.out
          rw [← HF.out] at hc
          have B := Lib.hid (B.out.trans (hb.mono B.out.size))
          have X := Lib.hid (X.out.below hb)
          clear hb hown hout c0 c1 c2 c3 c4 c5 d0 d1 FU
          go_upto_region 2 with fail
          have keepX : ∀ wx, Below w2.heap.size w2 wx → wx.cell? ⟨w.heap.size, 0, none⟩ = some (.int .i64 P) ∧ wx.cell? ⟨w.heap.size, 1, none⟩ = some (.int .i64 T) ∧ wx.cell? ⟨w.heap.size, 2, none⟩ = some (.int .i64 A) ∧ wx.cell? ⟨w.heap.size, 3, none⟩ = some (.int .i64 M) ∧ wx.cell? ⟨w.heap.size, 4, none⟩ = some (.int .i64 W) ∧ wx.cell? ⟨w.heap.size, 5, none⟩ = some (.int .i64 Q) ∧ wx.cell? ⟨w.heap.size + 1, 0, none⟩ = some (.slice D nd cd) ∧ wx.cell? ⟨w.heap.size + 1, 1, none⟩ = some (.slice D' nd' cd') := fun wx hx => (X.out.below hx).cells
          have hcur : Below w2.heap.size w2 w2.drew := below_drewN (Below.refl _ _) 1
          have hkX := keepX _ hcur
          go_region_held3 (fun w' => w'.cell? ⟨w.heap.size, 0, none⟩ = some (.int .i64 P) ∧ w'.cell? ⟨w.heap.size, 1, none⟩ = some (.int .i64 T) ∧ w'.cell? ⟨w.heap.size, 2, none⟩ = some (.int .i64 A) ∧ w'.cell? ⟨w.heap.size, 3, none⟩ = some (.int .i64 M) ∧ w'.cell? ⟨w.heap.size, 4, none⟩ = some (.int .i64 W) ∧ w'.cell? ⟨w.heap.size, 5, none⟩ = some (.int .i64 Q) ∧ w'.cell? ⟨w.heap.size + 1, 0, none⟩ = some (.slice D nd cd) ∧ w'.cell? ⟨w.heap.size + 1, 1, none⟩ = some (.slice D' nd' cd'))
            (first | exact hkX | go_keep)
            (first | (go_at_call 42; (with_reducible refine (OF.out _).mono ?_); rintro e w3 ⟨rfl, hb3⟩; have hcur := hcur.trans (hb3.mono hcur.size); have hkX := keepX _ hcur) | (go_at_call 78; (with_reducible refine (GO.out _ (X.out.below hcur).dsk.dsk).mono ?_); rintro e w4 ⟨A4, r4, rfl, hown4, hb4⟩; have hcur := hcur.trans (hb4.mono hcur.size); have hkX := keepX _ hcur))
          have AR := Lib.hid ((Arg.own hown4).below (w' := w4) (Below.refl _ _))
          have B := Lib.hid (B.out.trans (hcur.mono B.out.size))
          clear keepX hkX hown4 hb4 hcur X OF GO
          go_upto_region 5 with fail
          have hm := make32 w4.drew
          have hA1 := AR.out.below (w' := w4.drew) (below_drewN (Below.refl _ _) 1)
          have hal : Below w4.drew.heap.size w4.drew (w4.drew.alloc (.cells (ints .u8 noughts).toArray 5)) := (Below.refl _ _).alloc (Nat.le_refl _) _
          have hA2 := hA1.below hal
          have hA3 := Arg.own (nown32 w4.drew)
          have hfin := Lib.hid (B.out.trans ((((below_drewN (Below.refl _ _) 1 : Below w4.heap.size w4 w4.drew)).trans (hal.mono (Nat.le_refl w4.heap.size))).mono B.out.size))
          obtain ⟨w6, hw6⟩ : ∃ x : World, x = w4.drew.alloc (.cells (ints .u8 noughts).toArray 5) := ⟨_, rfl⟩
          obtain ⟨g6, hg6⟩ : ∃ x : Nat, x = w4.drew.heap.size := ⟨_, rfl⟩
          rw [← hw6] at hm hA2 hA3 hfin
          rw [← hg6] at hm hA3
          have q1 := str_arg hA1
          have q2 := str_arg hA2
          have q3 := str_arg hA3
          rw [← HS0.out] at q3
          rw [← HST.out] at q1 q2
          have AR := Lib.hid hA2
          clear hA1 hA2 hA3 hal hw6 hg6
          first | go_region | fail
          go_upto_region 7 with fail
          have h6 := AR.out.seq.int (j := 3) (by rw [HN.out]; decide)
          obtain ⟨g7, o7, he7, hlt7, hc7⟩ := h6
          rw [← HB.out] at hc7
          subst he7
          have hc8 : w6.drew.cell? ⟨g7, o7 + 3, none⟩ = some (.int .u8 b) := hc7
          have hcur : Below w6.heap.size w6 w6.drew := below_drewN (Below.refl _ _) 1
          have q8 := str_arg (AR.out.below hcur)
          rw [← HST.out] at q8
          have hfin8 := Lib.hid (hfin.out.trans (hcur.mono hfin.out.size))
          clear q1 q2 q3 hm hc7
          rw [show Op.convert 22 9 (Operand.tmp 52) = cv53 from rfl]
          have hcv : cv53 = Op.convert 22 9 (Operand.tmp 52) := rfl
          have keepX : ∀ wx, Below w6.heap.size w6 wx → wx.cell? ⟨g7, o7 + 3, none⟩ = some (.int .u8 b) ∧ (convert 22 9 (.slice (some ⟨g7, o7, none⟩) 32 r4)).run Try.prog wx = .ok (.string st) wx := fun wx hx => ⟨(hx.cell (p := ⟨g7, o7 + 3, none⟩) hlt7).trans hc8, by have := str_arg (AR.out.below hx); rwa [← HST.out] at this⟩
          have hkX := keepX _ hcur
          clear q8 hc8
          go_region_held3 (fun w' => w'.cell? ⟨g7, o7 + 3, none⟩ = some (.int .u8 b) ∧ (convert 22 9 (.slice (some ⟨g7, o7, none⟩) 32 r4)).run Try.prog w' = .ok (.string st) w')
            (first | exact hkX | go_keep)
            (first | (go_at_call 41; (with_reducible refine (SE.out _).mono ?_); intro e w7 hout; obtain ⟨A7, r7, rfl, hown7, hb7⟩ := hout.len rfl HV.out; have hcur := hcur.trans (hb7.mono hcur.size); have hkX := keepX _ hcur; have q10 := str_arg (Arg.own hown7); rw [← HSV.out] at q10; have hfin8 := Lib.hid (hfin8.out.trans (hb7.mono hfin8.out.size)); clear hown7 hb7 hout))
          all_goals (obtain ⟨hc9, _⟩ := hkX; go_wp2; go_ret; exact ⟨rfl, hfin8.out⟩)
      · have hq1 : bits .and .u8 b f ≠ b := fun h => hsub (hiff.2 h)
        obtain ⟨y, hy⟩ : ∃ y, y = bits .and .u8 b f := ⟨_, rfl⟩
        rw [← hy] at hq1
        have hy2 : bits .and .u8 b f = y := hy.symm
        have hqq : (y == b) = false := beq_eq_false_iff_ne.2 hq1
        rw [if_neg (fun h2 => hsub h2.1)]
        clear x hbel hq hs ht hp hk hc hat hu hun hgo hl hme hf hfu hf0 hL hpb hgl ht0 hi0 hn hz hb0 hbb hiff hst hs0 hsub hby NBY hy hq1 hnl
        go_enter Try.func68, Try.ntmps68
        go_wp2_with fail
        rw [← hw1]
        clear hw1
        refine (FU.out _).mono ?_
        intro e w2 hout
        obtain ⟨A2, r2, rfl, hown, hb⟩ := hout.len rfl HL.out
        obtain ⟨g, rfl, _, hc, _, _⟩ := owns_int_at hown hkm2.out
        rw [← HF.out] at hc
        have B := Lib.hid (B.out.trans (hb.mono B.out.size))
        have X := Lib.hid (X.out.below hb)
        clear hb hown hout c0 c1 c2 c3 c4 c5 d0 d1 FU
        go_upto_region 2 with fail
        have keepX : ∀ wx, Below w2.heap.size w2 wx → wx.cell? ⟨w.heap.size, 0, none⟩ = some (.int .i64 P) ∧ wx.cell? ⟨w.heap.size, 1, none⟩ = some (.int .i64 T) ∧ wx.cell? ⟨w.heap.size, 2, none⟩ = some (.int .i64 A) ∧ wx.cell? ⟨w.heap.size, 3, none⟩ = some (.int .i64 M) ∧ wx.cell? ⟨w.heap.size, 4, none⟩ = some (.int .i64 W) ∧ wx.cell? ⟨w.heap.size, 5, none⟩ = some (.int .i64 Q) ∧ wx.cell? ⟨w.heap.size + 1, 0, none⟩ = some (.slice D nd cd) ∧ wx.cell? ⟨w.heap.size + 1, 1, none⟩ = some (.slice D' nd' cd') := fun wx hx => (X.out.below hx).cells
        have hcur : Below w2.heap.size w2 w2.drew := below_drewN (Below.refl _ _) 1
        have hkX := keepX _ hcur
        go_region_held3 (fun w' => w'.cell? ⟨w.heap.size, 0, none⟩ = some (.int .i64 P) ∧ w'.cell? ⟨w.heap.size, 1, none⟩ = some (.int .i64 T) ∧ w'.cell? ⟨w.heap.size, 2, none⟩ = some (.int .i64 A) ∧ w'.cell? ⟨w.heap.size, 3, none⟩ = some (.int .i64 M) ∧ w'.cell? ⟨w.heap.size, 4, none⟩ = some (.int .i64 W) ∧ w'.cell? ⟨w.heap.size, 5, none⟩ = some (.int .i64 Q) ∧ w'.cell? ⟨w.heap.size + 1, 0, none⟩ = some (.slice D nd cd) ∧ w'.cell? ⟨w.heap.size + 1, 1, none⟩ = some (.slice D' nd' cd'))
          (first | exact hkX | go_keep)
          (first | (go_at_call 42; (with_reducible refine (OF.out _).mono ?_); rintro e w3 ⟨rfl, hb3⟩; have hcur := hcur.trans (hb3.mono hcur.size); have hkX := keepX _ hcur) | (go_at_call 78; (with_reducible refine (GO.out _ (X.out.below hcur).dsk.dsk).mono ?_); rintro e w4 ⟨A4, r4, rfl, hown4, hb4⟩; have hcur := hcur.trans (hb4.mono hcur.size); have hkX := keepX _ hcur))
        have AR := Lib.hid ((Arg.own hown4).below (w' := w4) (Below.refl _ _))
        have B := Lib.hid (B.out.trans (hcur.mono B.out.size))
        clear keepX hkX hown4 hb4 hcur X OF GO
        go_upto_region 5 with fail
        have hm := make32 w4.drew
        have hA1 := AR.out.below (w' := w4.drew) (below_drewN (Below.refl _ _) 1)
        have hal : Below w4.drew.heap.size w4.drew (w4.drew.alloc (.cells (ints .u8 noughts).toArray 5)) := (Below.refl _ _).alloc (Nat.le_refl _) _
        have hA2 := hA1.below hal
        have hA3 := Arg.own (nown32 w4.drew)
        have hfin := Lib.hid (B.out.trans ((((below_drewN (Below.refl _ _) 1 : Below w4.heap.size w4 w4.drew)).trans (hal.mono (Nat.le_refl w4.heap.size))).mono B.out.size))
        obtain ⟨w6, hw6⟩ : ∃ x : World, x = w4.drew.alloc (.cells (ints .u8 noughts).toArray 5) := ⟨_, rfl⟩
        obtain ⟨g6, hg6⟩ : ∃ x : Nat, x = w4.drew.heap.size := ⟨_, rfl⟩
        rw [← hw6] at hm hA2 hA3 hfin
        rw [← hg6] at hm hA3
        have q1 := str_arg hA1
        have q2 := str_arg hA2
        have q3 := str_arg hA3
        rw [← HS0.out] at q3
        rw [← HST.out] at q1 q2
        have AR := Lib.hid hA2
        clear hA1 hA2 hA3 hal hw6 hg6
        first | go_region | fail
        go_upto_region 7 with fail
        have h6 := AR.out.seq.int (j := 3) (by rw [HN.out]; decide)
        obtain ⟨g7, o7, he7, hlt7, hc7⟩ := h6
        rw [← HB.out] at hc7
        subst he7
        have hc8 : w6.drew.cell? ⟨g7, o7 + 3, none⟩ = some (.int .u8 b) := hc7
        have hcur : Below w6.heap.size w6 w6.drew := below_drewN (Below.refl _ _) 1
        have q8 := str_arg (AR.out.below hcur)
        rw [← HST.out] at q8
        have hfin8 := Lib.hid (hfin.out.trans (hcur.mono hfin.out.size))
        clear q1 q2 q3 hm
        clear q8 hc8 hcur
        have hc9 : ∀ q, (w6.drewN q).cell? ⟨g7, o7 + 3, none⟩ = some (.int .u8 b) := fun q => ((below_drewN (Below.refl _ _) q : Below w6.heap.size w6 (w6.drewN q)).cell (p := ⟨g7, o7 + 3, none⟩) hlt7).trans hc7
        go_quiet (fail)
        go_wp2
        go_ret
        exact ⟨rfl, below_drewN hfin.out _⟩

end Go.Proofs.Ytiibmlbenamgcaa
