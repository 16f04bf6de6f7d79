/- Layer 15, the program's: frameOf, Read. No statement is proved here. -/
import Derived.Test.YtdgfofemogmmkaaFrP2
import Derived.Test.YtdgfofemogmmkaaCrcG
import Derived.Test.YtdgfofemogmmkaaFrR5
import Derived.Deep.RegionHeld3
import Derived.Deep.RegionWith
namespace Go.Proofs.Ytdgfofemogmmkaa
open Go.RowKit
set_option linter.unusedVariables false
set_option maxRecDepth 100000

theorem nums_frV (b : List Int) : numsTo (b.take 16) szFr 4 = [(frV b).1, (frV b).2.1, (frV b).2.2.1, (frV b).2.2.2.1] := by
  have e : numsTo (b.take 16) szFr 4 = [val (((b.take 16).drop 0).take 4), val (((b.take 16).drop 4).take 4), val (((b.take 16).drop 8).take 4), val (((b.take 16).drop 12).take 4)] := rfl
  rw [e]
  simp only [List.drop_take, List.take_take, List.drop_zero]
  rfl
theorem isV_frV {b : List Int} (hb : ∀ z ∈ b, isByte z) (hl : 16 ≤ b.length) : isV (frV b).1 ∧ isV (frV b).2.1 ∧ isV (frV b).2.2.1 ∧ isV (frV b).2.2.2.1 := by
  obtain ⟨_, h1, h2, h3, h4, _⟩ := frW_frV hb hl
  exact ⟨h1, h2, h3, h4⟩
theorem u32_isV {v : Int} (h : isV v) : IntKind.u32.wrap v = v := by
  obtain ⟨h0, h1⟩ := h
  rw [IntKind.wrap_u32]
  omega
/-- The bytes behind the first 16. -/
theorem arg_rest {w : World} {g m c : Nat} {b : List Int} (h : Arg w .u8 (some ⟨g, 0, none⟩) (m + 16) c b) : Arg w .u8 (some ⟨g, 16, none⟩) m (c - 16) (b.drop 16) := by
  refine ⟨?_, by rw [List.length_drop, h.len]; omega, by have := h.cap; omega, by have := h.max; omega⟩
  have hs : ints .u8 (b.drop 16) = (ints .u8 b).drop 16 := by simp [ints, List.map_drop]
  rw [hs]
  have := h.seq.drop 16
  rwa [Nat.zero_add] at this

set_option maxHeartbeats 6400000 in
theorem pframe15_any (g c m : Nat) (b : List Int) (w : World) (h : Arg w .u8 (some ⟨g, 0, none⟩) (m + 16) c b) (hby : ∀ z ∈ b, isByte z) (hm : m ≤ 1000) :
    Calls Try.prog 22 #[.slice (some ⟨g, 0, none⟩) (m + 16) c] w (FrmOut w (frV b).1 (frV b).2.1 (frV b).2.2.1 (frV b).2.2.2.1 (b.drop 16)) := by
  have hml : (1000000 : Nat) ≤ maxLen := by decide
  obtain ⟨x, hbel⟩ := box_frm w 0 0 0 0 none 0 0
  obtain ⟨w1, hw1⟩ : ∃ x : World, x = (w.alloc (.cells #[.int .u32 0, .int .u32 0, .int .u32 0, .int .u32 0, .slice none 0 0] 25)) := ⟨_, rfl⟩
  rw [← hw1] at x hbel
  have X := Lib.hid x
  have B := Lib.hid hbel
  have hcap := h.cap
  have hmax := h.max
  have hlen := h.len
  have V := isV_frV hby (by omega)
  have HNM := Lib.hid (nums_frV b)
  have HR := Lib.hid (h.below hbel)
  have H16 := Lib.hid (show (b.take 16).length = 16 by rw [List.length_take]; omega)
  have HBF := Lib.hid (show ∀ z ∈ b.take 16, isByte z from fun z hz => hby z (List.mem_of_mem_take hz))
  have HBD := Lib.hid (show ∀ z ∈ b.drop 16, isByte z from fun z hz => hby z (List.mem_of_mem_drop hz))
  have hdl : (b.drop 16).length = m := by rw [List.length_drop]; omega
  obtain ⟨v0, hv0⟩ : ∃ v, v = (frV b).1 := ⟨_, rfl⟩
  obtain ⟨v1, hv1⟩ : ∃ v, v = (frV b).2.1 := ⟨_, rfl⟩
  obtain ⟨v2, hv2⟩ : ∃ v, v = (frV b).2.2.1 := ⟨_, rfl⟩
  obtain ⟨v3, hv3⟩ : ∃ v, v = (frV b).2.2.2.1 := ⟨_, rfl⟩
  rw [← hv0, ← hv1, ← hv2, ← hv3] at HNM V ⊢
  have e0 := u32_isV V.1
  have e1 := u32_isV V.2.1
  have e2 := u32_isV V.2.2.1
  have e3 := u32_isV V.2.2.2
  have VV := Lib.hid V
  have hc16 : (16 : Int) ≤ (c : Int) := by omega
  have HD := Lib.hid hdl
  have HC := Lib.hid hcap
  have HM := Lib.hid hmax
  have HL := Lib.hid hlen
  unfold FrmOut
  obtain ⟨bd, hbd⟩ : ∃ v, v = b.drop 16 := ⟨_, rfl⟩
  have TW := Lib.hid (fun (Ax : Option Addr) (cx : Nat) (wx : World) (hx : Arg wx .u8 Ax m cx (b.drop 16)) => ptwin15_any v0 v1 v2 v3 Ax m cx (b.drop 16) wx hx (by omega))
  unfold FrmOut at TW
  rw [hdl] at TW ⊢
  have HAR := Lib.hid (show ∀ wx, Below w1.heap.size w1 wx → Arg wx .u8 (some ⟨g, 16, none⟩) m (c - 16) (b.drop 16) from fun wx hx => arg_rest (HR.out.below hx))
  have HA0 := Lib.hid (show ∀ wx, Below w1.heap.size w1 wx → Seq wx wx.heap.size (some ⟨g, 0, none⟩) (ints .u8 (b.take 16)) from fun wx hx => by
    have hs : ints .u8 (b.take 16) = (ints .u8 b).take 16 := by simp [ints, List.map_take]
    rw [hs]
    exact (HR.out.below hx).seq.take _)
  rw [← hbd] at TW HAR HD HBD ⊢
  clear x hbel h hby hdl V hv0 hv1 hv2 hv3 hmax hlen hbd
  go_enter Try.func22, Try.ntmps22
  go_upto_region 1 with fail
  rw [← hw1]
  clear hw1
  have hcur : Below w1.heap.size w1 w1.drew := below_drewN (Below.refl _ _) 1
  go_region_with ((first
    | (go_at_call 32; (with_reducible refine (fsizes_any _).mono ?_); rintro e wS ⟨gS, rfl, hAS, hbS⟩; have hcur := hcur.trans (hbS.mono hcur.size))
    | (go_at_call 34; (with_reducible refine (read_ok (some ⟨g, 0, none⟩) (some ⟨gS, 0, none⟩) 16 16 4 4 (b.take 16) szFr _ hAS.seq rfl okB_szFr (HA0.out _ hcur) H16.out rfl (by omega) (by omega) HBF.out).mono ?_); intro e w2 hout; have hM := hcur.size; obtain ⟨A2, c2, rfl, hown, hb⟩ := hout.len (zs' := [v0, v1, v2, v3]) (n := 4) HNM.out rfl; have hcur := hcur.trans (hb.mono hcur.size))))
  obtain ⟨w2', hw2⟩ : ∃ x : World, x = w2 := ⟨_, rfl⟩
  obtain ⟨gL, rfl, hgL, q0, _, _⟩ := owns_int_at (j := 0) hown (by decide)
  have hownL := hown
  have B2 := Lib.hid (B.out.trans (hcur.mono B.out.size))
  have X2 := Lib.hid (X.out.below hcur X.out.lt)
  have hW := hcur
  have keepB : ∀ (wx : World) (bs : Nat), wx.ownsRow bs 56 1 (.slice (some ⟨gL, 0, none⟩) 4 c2) 4 (ints .u64 [v0, v1, v2, v3]) → wx.cell? ⟨gL, 0, none⟩ = some (.int .u64 v0) ∧ wx.cell? ⟨gL, 1, none⟩ = some (.int .u64 v1) ∧ wx.cell? ⟨gL, 2, none⟩ = some (.int .u64 v2) ∧ wx.cell? ⟨gL, 3, none⟩ = some (.int .u64 v3) := fun wx bs hx => by
    obtain ⟨b0, e0, _, q0, _, _⟩ := owns_int_at (j := 0) hx (by decide)
    injection e0 with e0; injection e0 with e0; subst e0
    obtain ⟨b0, e0, _, q1, _, _⟩ := owns_int_at (j := 1) hx (by decide)
    injection e0 with e0; injection e0 with e0; subst e0
    obtain ⟨b0, e0, _, q2, _, _⟩ := owns_int_at (j := 2) hx (by decide)
    injection e0 with e0; injection e0 with e0; subst e0
    obtain ⟨b0, e0, _, q3, _, _⟩ := owns_int_at (j := 3) hx (by decide)
    injection e0 with e0; injection e0 with e0; subst e0
    exact ⟨q0, q1, q2, q3⟩
  have keepX : ∀ wx : World, Below w2.heap.size w2 wx → wx.cell? ⟨gL, 0, none⟩ = some (.int .u64 v0) ∧ wx.cell? ⟨gL, 1, none⟩ = some (.int .u64 v1) ∧ wx.cell? ⟨gL, 2, none⟩ = some (.int .u64 v2) ∧ wx.cell? ⟨gL, 3, none⟩ = some (.int .u64 v3) := fun wx hx => keepB wx _ (owns_below hownL hx)
  clear hown hb hcur hout hAS hbS q0 hw2 w2' hM
  go_upto_region 2 with fail
  have hcur : Below w2.heap.size w2 w2.drew := below_drewN (Below.refl _ _) 1
  have hkX := keepX _ hcur
  by_cases hlt : 16 < c
  · have hlt2 : (16 : Int) < (c : Int) := by omega
    have hne : ¬ c = 16 := by omega
    have hlo : (16 : Int) ≤ (m : Int) + 16 := by omega
    have hhi : (m : Int) + 16 ≤ (c : Int) := by omega
    go_region_held3 (fun w' => w'.cell? ⟨gL, 0, none⟩ = some (.int .u64 v0) ∧ w'.cell? ⟨gL, 1, none⟩ = some (.int .u64 v1) ∧ w'.cell? ⟨gL, 2, none⟩ = some (.int .u64 v2) ∧ w'.cell? ⟨gL, 3, none⟩ = some (.int .u64 v3))
      (first | (with_reducible exact hkX) | (with_reducible exact hk6) | go_keep)
      ((first
        | (go_at_call 16; (with_reducible refine (TW.out (some ⟨g, 16, none⟩) (c - 16) _ (HAR.out _ (hW.trans (hcur.mono hW.size)))).mono ?_); rintro e w3 ⟨A3, k3, rfl, hown3, hb3⟩; have hcur := hcur.trans (hb3.mono hcur.size); have hkX := keepX _ hcur; have X3 := X2.out.below hcur X2.out.lt; have O3 := owns_below hownL hcur; have hk6 := keepB _ _ (owns_frm O3 X3 (by decide) (.int .u32 v0) (.int .u32 v1) (.int .u32 v2) (.int .u32 v3) (.slice A3 m k3)); obtain ⟨d0, d1, d2, d3, d4⟩ := X3.frm; have f0 := X3.free 0; have f1 := X3.free 1; have f2 := X3.free 2; have f3 := X3.free 3; have f4 := X3.free 4)
        | fail))
    have B := Lib.hid (B2.out.trans (hcur.mono B2.out.size))
    have BF := Lib.hid (below_frm (g := w.heap.size) B.out (Nat.le_refl _) (.int .u32 v0) (.int .u32 v1) (.int .u32 v2) (.int .u32 v3) (.slice A3 m k3))
    have OF := Lib.hid (owns_frm (owns_base hown3 B2.out.size) X3 (by decide) (.int .u32 v0) (.int .u32 v1) (.int .u32 v2) (.int .u32 v3) (.slice A3 m k3))
    obtain ⟨z0, z1, z2, z3, z4⟩ := (X3.frm5 (.int .u32 v0) (.int .u32 v1) (.int .u32 v2) (.int .u32 v3) (.slice A3 m k3)).frm
    clear keepX keepB hkX hk6 hown3 hb3 hcur hownL O3 X3 d0 d1 d2 d3 d4 f0 f1 f2 f3 f4
    go_wp2
    refine bodyPost_ret (v := frmV v0 v1 v2 v3 A3 m k3) ?_ rfl ⟨A3, k3, rfl, OF.out, BF.out⟩
    simp [results, Try.f22, go_sem, z0, z1, z2, z3, z4]
  · have hc0 : c = 16 := by omega
    have hm0 : m = 0 := by omega
    subst hc0
    subst hm0
    obtain rfl : bd = [] := List.eq_nil_of_length_eq_zero HD.out
    have AN := Lib.hid (show ∀ wx : World, Arg wx .u8 (some ⟨g, 0, none⟩) 0 0 [] from fun wx => ⟨Seq.empty, rfl, Nat.le_refl _, by decide⟩)
    go_region_held3 (fun w' => w'.cell? ⟨gL, 0, none⟩ = some (.int .u64 v0) ∧ w'.cell? ⟨gL, 1, none⟩ = some (.int .u64 v1) ∧ w'.cell? ⟨gL, 2, none⟩ = some (.int .u64 v2) ∧ w'.cell? ⟨gL, 3, none⟩ = some (.int .u64 v3))
      (first | (with_reducible exact hkX) | (with_reducible exact hk6) | go_keep)
      ((first
        | (go_at_call 16; (with_reducible refine (TW.out (some ⟨g, 0, none⟩) 0 _ (AN.out _)).mono ?_); rintro e w3 ⟨A3, k3, rfl, hown3, hb3⟩; have hcur := hcur.trans (hb3.mono hcur.size); have hkX := keepX _ hcur; have X3 := X2.out.below hcur X2.out.lt; have O3 := owns_below hownL hcur; have hk6 := keepB _ _ (owns_frm O3 X3 (by decide) (.int .u32 v0) (.int .u32 v1) (.int .u32 v2) (.int .u32 v3) (.slice A3 0 k3)); obtain ⟨d0, d1, d2, d3, d4⟩ := X3.frm; have f0 := X3.free 0; have f1 := X3.free 1; have f2 := X3.free 2; have f3 := X3.free 3; have f4 := X3.free 4)
        | fail))
    have B := Lib.hid (B2.out.trans (hcur.mono B2.out.size))
    have BF := Lib.hid (below_frm (g := w.heap.size) B.out (Nat.le_refl _) (.int .u32 v0) (.int .u32 v1) (.int .u32 v2) (.int .u32 v3) (.slice A3 0 k3))
    have OF := Lib.hid (owns_frm (owns_base hown3 B2.out.size) X3 (by decide) (.int .u32 v0) (.int .u32 v1) (.int .u32 v2) (.int .u32 v3) (.slice A3 0 k3))
    obtain ⟨z0, z1, z2, z3, z4⟩ := (X3.frm5 (.int .u32 v0) (.int .u32 v1) (.int .u32 v2) (.int .u32 v3) (.slice A3 0 k3)).frm
    clear keepX keepB hkX hk6 hown3 hb3 hcur hownL O3 X3 d0 d1 d2 d3 d4 f0 f1 f2 f3 f4
    go_wp2
    refine bodyPost_ret (v := frmV v0 v1 v2 v3 A3 0 k3) ?_ rfl ⟨A3, k3, rfl, OF.out, BF.out⟩
    simp [results, Try.f22, go_sem, z0, z1, z2, z3, z4]
end Go.Proofs.Ytdgfofemogmmkaa
