/- Layer 8: the document's own May, Check, There, asked, Got, Read, Plan, Write. -/
import Derived.Test.YtiibmlbenamgcaaTrkP
import Derived.Test.YtiibmlbenamgcaaCellRp
import Derived.Test.YtiibmlbenamgcaaCrcT
namespace Go.Proofs.Ytiibmlbenamgcaa
open Go.RowKit
set_option linter.unusedVariables false

set_option maxRecDepth 100000 in
set_option maxHeartbeats 6400000 in
theorem rmayT_any (P T A M W Q : Int) (D : Option Addr) (n c : Nat) (D' : Option Addr) (n' c' : Nat) (S : List Sec) (C : List Pnd) (w : World) (hq : Dsk w D n c D' n' c' S C) (hs : SmallD S C) :
    Calls Try.prog 43 #[cfgV P T A M W Q, diskV D n c D' n' c'] w fun e w' => e = .returned (.bool (decide (mayT P T A M W Q S C))) ∧ Below w.heap.size w w' := by
  obtain ⟨x, hbel⟩ := TBox.new P T A M W Q hq
  obtain ⟨w0, hw0⟩ : ∃ x : World, x = (w.alloc (.cells #[.int .i64 P, .int .i64 T, .int .i64 A, .int .i64 M, .int .i64 W, .int .i64 Q] 27)).alloc (.cells #[.slice D n c, .slice D' n' c'] 37) := ⟨_, rfl⟩
  have hsz : w0.heap.size = w.heap.size + 1 + 1 := by rw [hw0]; simp
  rw [← hw0] at x hbel
  have X := Lib.hid x
  have B := Lib.hid hbel
  have MC := Lib.hid (fun w' : World => rmay_any P T A M W Q w')
  have MD := Lib.hid (fun wx hx => may_any D n c D' n' c' S C wx hx)
  have hsl := hq.secs.len
  obtain ⟨c0, c1, c2, c3, c4, c5, d0, d1⟩ := x.cells
  by_cases h1 : mayC P T A M W Q
  · have SZ := Lib.hid (fun w' : World => rsize_any P T A M W Q w' h1)
    rw [show decide (mayC P T A M W Q) = true from decide_eq_true h1] at MC
    obtain ⟨m, hm⟩ : ∃ m, m = fE P T A := ⟨_, rfl⟩
    rw [← hm] at SZ
    by_cases h3 : (n : Int) = m
    · obtain ⟨r, hr⟩ : ∃ r, r = mayD S C := ⟨_, rfl⟩
      have e : decide (mayT P T A M W Q S C) = r := by
        rw [hr]
        by_cases h2 : mayD S C = true
        · rw [h2]
          exact decide_eq_true ⟨h1, h2, by rw [hsl, ← hm]; exact h3⟩
        · rw [show mayD S C = false by simpa using h2]
          exact decide_eq_false (fun h => h2 h.2.1)
      rw [e]
      rw [← hr] at MD
      rw [← h3] at SZ
      have h4 : ((n : Int) == (n : Int)) = true := beq_self_eq_true _
      have h5 : decide ((n : Int) = (n : Int)) = true := decide_eq_true rfl
      clear hq hs x hbel h1 hm h3 hsl hr e hsz
      go_enter Try.func43, Try.ntmps43
      go_upto_region 1 with fail
      rw [← hw0]
      clear hw0
      have hcur : Below w0.heap.size w0 w0.drew := below_drewN (Below.refl _ _) 1
      have keepX : ∀ wx, Below w0.heap.size w0 wx → wx.cell? ⟨w.heap.size, 0, none⟩ = some (.int .i64 P) ∧ wx.cell? ⟨w.heap.size, 1, none⟩ = some (.int .i64 T) ∧ wx.cell? ⟨w.heap.size, 2, none⟩ = some (.int .i64 A) ∧ wx.cell? ⟨w.heap.size, 3, none⟩ = some (.int .i64 M) ∧ wx.cell? ⟨w.heap.size, 4, none⟩ = some (.int .i64 W) ∧ wx.cell? ⟨w.heap.size, 5, none⟩ = some (.int .i64 Q) ∧ wx.cell? ⟨w.heap.size + 1, 0, none⟩ = some (.slice D n c) ∧ wx.cell? ⟨w.heap.size + 1, 1, none⟩ = some (.slice D' n' c') := fun wx hx => (X.out.below hx).cells
      have hkX := keepX _ hcur
      go_region_held3 (fun w' => w'.cell? ⟨w.heap.size, 0, none⟩ = some (.int .i64 P) ∧ w'.cell? ⟨w.heap.size, 1, none⟩ = some (.int .i64 T) ∧ w'.cell? ⟨w.heap.size, 2, none⟩ = some (.int .i64 A) ∧ w'.cell? ⟨w.heap.size, 3, none⟩ = some (.int .i64 M) ∧ w'.cell? ⟨w.heap.size, 4, none⟩ = some (.int .i64 W) ∧ w'.cell? ⟨w.heap.size, 5, none⟩ = some (.int .i64 Q) ∧ w'.cell? ⟨w.heap.size + 1, 0, none⟩ = some (.slice D n c) ∧ w'.cell? ⟨w.heap.size + 1, 1, none⟩ = some (.slice D' n' c'))
        (first | exact hkX | go_keep)
        (first | (go_at_call 61; with_reducible refine (MC.out _).mono ?_; rintro e wM ⟨rfl, hbM⟩; have hcur := hcur.trans (hbM.mono hcur.size); have hkX := keepX _ hcur) | (go_at_call 66; with_reducible refine (SZ.out _).mono ?_; rintro e wM ⟨rfl, hbM⟩; have hcur := hcur.trans (hbM.mono hcur.size); have hkX := keepX _ hcur) | (go_at_call 67; with_reducible refine (MD.out _ (X.out.below hcur).dsk.dsk).mono ?_; rintro e wM ⟨rfl, hbM⟩; have hcur := hcur.trans (hbM.mono hcur.size); have hkX := keepX _ hcur))
      all_goals (have hfin := Lib.hid (B.out.trans (hcur.mono B.out.size)); clear keepX hkX; go_wp2; go_ret; exact ⟨rfl, hfin.out⟩)
    · have e : decide (mayT P T A M W Q S C) = false := decide_eq_false (fun h => h3 (by rw [← hsl, hm]; exact h.2.2))
      rw [e]
      have h4 : ((n : Int) == m) = false := beq_eq_false_iff_ne.2 h3
      have h5 : decide ((n : Int) = m) = false := decide_eq_false h3
      clear hq hs x hbel h1 hm h3 hsl e hsz MD
      go_enter Try.func43, Try.ntmps43
      go_upto_region 1 with fail
      rw [← hw0]
      clear hw0
      have hcur : Below w0.heap.size w0 w0.drew := below_drewN (Below.refl _ _) 1
      first | go_region_with (first | (go_at_call 61; refine (MC.out _).mono ?_; rintro e wM ⟨rfl, hbM⟩; have hcur := hcur.trans (hbM.mono hcur.size); obtain ⟨c0, c1, c2, c3, c4, c5, d0, d1⟩ := (X.out.below hcur).cells) | (go_at_call 66; refine (SZ.out _).mono ?_; rintro e wM ⟨rfl, hbM⟩; have hcur := hcur.trans (hbM.mono hcur.size); obtain ⟨c0, c1, c2, c3, c4, c5, d0, d1⟩ := (X.out.below hcur).cells)) | fail
      all_goals (have hfin := Lib.hid (B.out.trans (hcur.mono B.out.size)); go_wp2; go_ret; exact ⟨rfl, hfin.out⟩)
  · have e : decide (mayT P T A M W Q S C) = false := decide_eq_false (fun h => h1 h.1)
    rw [e]
    rw [show decide (mayC P T A M W Q) = false from decide_eq_false h1] at MC
    clear hq hs x hbel h1 hsl e hsz MD
    go_enter Try.func43, Try.ntmps43
    go_upto_region 1 with fail
    rw [← hw0]
    clear hw0
    have hcur : Below w0.heap.size w0 w0.drew := below_drewN (Below.refl _ _) 1
    first | go_region_with (first | (go_at_call 61; refine (MC.out _).mono ?_; rintro e wM ⟨rfl, hbM⟩; have hcur := hcur.trans (hbM.mono hcur.size); obtain ⟨c0, c1, c2, c3, c4, c5, d0, d1⟩ := (X.out.below hcur).cells)) | fail
    all_goals (have hfin := Lib.hid (B.out.trans (hcur.mono B.out.size)); go_wp2; go_ret; exact ⟨rfl, hfin.out⟩)

end Go.Proofs.Ytiibmlbenamgcaa
