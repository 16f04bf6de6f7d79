/- Layer 10: the law's begins, where it says yes. -/
import Derived.Test.YteapaoefgcnicaaJrnTW
import Derived.Deep.RegionHeld3
namespace Go.Proofs.Yteapaoefgcnicaa
open Go.RowKit
set_option linter.unusedVariables false

theorem Texts.first {w : World} {A : Option Addr} {n c k : Nat} {zss : List Txt} (h : Texts w A n c zss) (hk : k ≤ n) : Texts w A k c (zss.take k) := by
  refine ⟨by rw [List.length_take, h.len]; omega, Nat.le_trans hk h.cap, h.max, fun zs hz => h.byte zs (List.mem_of_mem_take hz), fun i hi => ?_⟩
  obtain ⟨b, o, Ai, ni, ci, e, hlt, hc, ha⟩ := h.at_ i (by omega)
  refine ⟨b, o, Ai, ni, ci, e, hlt, hc, ?_⟩
  rwa [List.getD_eq_getElem?_getD, List.getElem?_take, if_pos hi, ← List.getD_eq_getElem?_getD]

set_option maxRecDepth 100000 in
set_option maxHeartbeats 6400000 in
theorem begins_yes (Al : Option Addr) (n c : Nat) (l : List Txt) (Am : Option Addr) (m cm : Nat) (q : List Txt) (Ab : Option Addr) (nb cb : Nat) (b : Txt) (w : World) (hl : Texts w Al n c l) (hm : Texts w Am m cm q) (hb : Arg w .u8 Ab nb cb b) (h : begL l q b) (hn : n ≤ 1000) :
    Calls Try.prog 24 #[.slice Al n c, .slice Am m cm, .slice Ab nb cb] w fun e w' => e = .returned (.bool true) ∧ Below w.heap.size w w' := by
  obtain ⟨h1, h2, h3⟩ := h
  rw [hm.len] at h1 h2 h3
  rw [hl.len] at h1
  obtain ⟨g, o, Ai, ni, ci, rfl, hlt, hc, ha⟩ := hl.at_ m h1
  have e3 : l.getD m [] = b := by rw [List.getD_eq_getElem?_getD, h3]; rfl
  rw [e3] at ha
  have LF := Lib.hid (hl.first (k := m) (by omega))
  rw [h2] at LF
  have QF := Lib.hid hm
  have HA := Lib.hid ha
  have HB := Lib.hid hb
  have hcap : n ≤ c := hl.cap
  have hmax : c ≤ maxLen := hl.max
  unfold maxLen at hmax
  have q1 : ¬ (n : Int) ≤ (m : Int) := by omega
  have q2 : (m : Int) ≤ (c : Int) := by omega
  have q3 : (m : Int) < (n : Int) := by omega
  have hst : ((strOfNums b).toList == (strOfNums b).toList) = true := beq_self_eq_true _
  have keepX : ∀ wx, Below w.heap.size w wx → wx.cell? ⟨g, o + m, none⟩ = some (.slice Ai ni ci) ∧ (convert 36 9 (.slice Ai ni ci)).run Try.prog wx = .ok (.string (strOfNums b)) wx ∧ (convert 36 9 (.slice Ab nb cb)).run Try.prog wx = .ok (.string (strOfNums b)) wx := fun wx hx => ⟨(hx.cell (p := ⟨g, o + m, none⟩) hlt).trans hc, str_arg (HA.out.below hx), str_arg (HB.out.below hx)⟩
  clear hl hm hb h1 h2 h3 ha e3 hc
  go_enter Try.func24, Try.ntmps24
  go_upto_region 3 with fail
  have hcur : Below w.heap.size w w.drew := below_drewN (Below.refl _ _) 1
  have hkX := keepX _ hcur
  go_region_held3 (fun w' => w'.cell? ⟨g, o + m, none⟩ = some (.slice Ai ni ci) ∧ (convert 36 9 (.slice Ai ni ci)).run Try.prog w' = .ok (.string (strOfNums b)) w' ∧ (convert 36 9 (.slice Ab nb cb)).run Try.prog w' = .ok (.string (strOfNums b)) w')
    (first | exact hkX | go_keep)
    (first
      | (go_at_call 18; with_reducible refine (sam4_yes (some ⟨g, o, none⟩) m c Am m cm q _ (LF.out.below hcur) (QF.out.below hcur)).mono ?_; rintro e wM ⟨rfl, hbM⟩; have hcur := hcur.trans (hbM.mono hcur.size); have hkX := keepX _ hcur))
  have B := Lib.hid hcur
  clear keepX hkX hcur
  go_wp2
  go_ret
  exact ⟨rfl, B.out⟩

end Go.Proofs.Yteapaoefgcnicaa
