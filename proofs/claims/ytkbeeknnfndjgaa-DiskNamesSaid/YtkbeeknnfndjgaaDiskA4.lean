/- Layer 5: the chapter's example, from what the calls do. -/
import Derived.Test.YtkbeeknnfndjgaaDiskA3
import Derived.Deep.RegionWith
namespace Go.Proofs.Ytkbeeknnfndjgaa
open Go.RowKit
set_option linter.unusedVariables false

theorem lit_text (w : World) (b : Nat) (mk : Nat × Nat) (zs : List Int) (n : Nat) (hb : b = w.heap.size) (hn : zs.length = n) (hm : n ≤ maxLen) : Arg (w.alloc (.cells (ints .u8 zs).toArray 5 mk)) .u8 (some ⟨b, 0, none⟩) n n zs := by
  subst hb
  refine ⟨?_, hn, Nat.le_refl _, hm⟩
  refine Seq.of (by simp) fun j v hv => ?_
  have h1 : (w.alloc (.cells (ints .u8 zs).toArray 5 mk)).heap[w.heap.size]? = some (.cells (ints .u8 zs).toArray 5 mk) := heap_alloc_new w _
  rw [cell_of_row _ _ _ _ _ _ h1, Nat.zero_add]
  simpa using hv
theorem few_bytes (l : List Int) (h : l.all (fun z => decide (0 ≤ z ∧ z < 256)) = true) : ∀ z ∈ l, isByte z := by
  intro z hz
  have h1 := List.all_eq_true.1 h z hz
  exact (of_decide_eq_true h1 : 0 ≤ z ∧ z < 256)

theorem lit1 (w : World) : Arg (w.alloc (.cells #[.int .u8 1] 5)) .u8 (some ⟨w.heap.size, 0, none⟩) 1 1 [1] := lit_text w _ _ [1] 1 rfl rfl (by decide)
theorem lit12 (w : World) : Arg (w.alloc (.cells #[.int .u8 1, .int .u8 2] 5)) .u8 (some ⟨w.heap.size, 0, none⟩) 2 2 [1, 2] := lit_text w _ _ [1, 2] 2 rfl rfl (by decide)

set_option maxRecDepth 100000 in
set_option maxHeartbeats 6400000 in
theorem alive_of (P : DskDoes) (w : World) : Calls Try.prog 19 #[] w fun e w' => e = .returned (.bool true) ∧ Below w.heap.size w w' := by
  have hml : (1000 : Nat) ≤ maxLen := by decide
  have HML := Lib.hid (show 2 ≤ maxLen from by omega)
  have HM1 := Lib.hid (show 1 ≤ maxLen from by omega)
  have PP := Lib.hid P
  have N := Lib.hid (two_of P w)
  have hsm : SmallD twoS twoC := few_small (by kernel_rfl)
  have SM := Lib.hid hsm
  have L1 := Lib.hid (fun (A : Option Addr) (n c : Nat) (B : Option Addr) (m d : Nat) (w : World) ha hb => leaves_of P (F := [1]) (b := List.replicate 32 120) (few_bytes _ (by decide)) (by decide) (.inl ⟨by kernel_rfl, by kernel_rfl⟩) A n c B m d w ha hb)
  have L2 := Lib.hid (fun (A : Option Addr) (n c : Nat) (B : Option Addr) (m d : Nat) (w : World) ha hb => leaves_of P (F := []) (b := List.replicate 32 0) (few_bytes _ (by decide)) (by decide) (.inl ⟨by kernel_rfl, by kernel_rfl⟩) A n c B m d w ha hb)
  have L3 := Lib.hid (fun (A : Option Addr) (n c : Nat) (B : Option Addr) (m d : Nat) (w : World) ha hb => leaves_of P (F := [1, 2]) (b := []) (few_bytes _ (by decide)) (by decide) (.inr ⟨by kernel_rfl, rfl⟩) A n c B m d w ha hb)
  obtain ⟨R, hR⟩ : ∃ R, R = List.replicate 32 (121 : Int) := ⟨_, rfl⟩
  have hst : ((strOfNums R).toList == (strOfNums R).toList) = true := beq_self_eq_true _
  have HB : rdB twoS twoC 1 = R := by rw [hR]; kernel_rfl
  have HE : rdE twoS twoC 1 = 0 := by kernel_rfl
  have HRL : R.length = 32 := by rw [hR]; rfl
  have HR := Lib.hid hR
  have hst0 := Lib.hid hst
  have HB := Lib.hid HB
  have HE := Lib.hid HE
  have HRL := Lib.hid HRL
  clear P hml hsm hR hst
  go_enter Try.func19, Try.ntmps19
  go_wp2_with fail
  refine N.out.mono ?_
  rintro e w1 ⟨A1, c1, A1', c1', rfl, hown, hb1⟩
  have hb2 := hb1.alloc hb1.size (.cells #[.slice A1 2 c1, .slice A1' 2 c1'] 25)
  have x := DBox.new (Dsk.of_own hown)
  have BW := Lib.hid hb2
  have m2 := PP.out.read A1 2 c1 A1' 2 c1' twoS twoC 1 (w1.alloc (.cells #[.slice A1 2 c1, .slice A1' 2 c1'] 25)) x.dsk SM.out
  rw [HB.out, HE.out] at m2
  have M := Lib.hid m2
  obtain ⟨c0, c01⟩ := x.cells
  clear N hb2 hb1 hown x m2
  go_wp2_with fail
  refine M.out.mono ?_
  rintro e w3 ⟨A3, c3, rfl, hown, hb1⟩
  have BW := Lib.hid (BW.out.trans (hb1.mono BW.out.size))
  rw [HRL.out] at hown ⊢
  clear hb1 M c0 c01
  have OW := Lib.hid hown
  clear hown
  go_upto_region 3 with fail
  have hcur : Below w3.heap.size w3 w3.drew := below_drewN (Below.refl _ _) 1
  have keepX : ∀ wx, Below w3.heap.size w3 wx → (convert 31 9 (.slice A3 32 c3)).run Try.prog wx = .ok (.string (strOfNums R)) wx := fun wx hx => str_arg (Arg.own (owns_below OW.out hx))
  have hkX := keepX _ hcur
  have hst := hst0.out
  go_region_with ((first
      | (go_at_call 17; with_reducible refine (of_any 121 _).mono ?_; rintro e wO ⟨AO, rfl, hownO, hbO⟩; have hcur := hcur.trans (hbO.mono hcur.size); have hkX := keepX _ hcur; rw [← HR.out] at hownO; have k2 := str_arg (Arg.own hownO); clear hownO hbO)
      | (go_at_call 17; with_reducible refine (of_any 120 _).mono ?_; rintro e wP ⟨AP, rfl, hownP, hbP⟩; have hcur := hcur.trans (hbP.mono hcur.size))
      | (go_at_call 17; have hra := lit1 wO; have hcur := hcur.alloc hcur.size (.cells #[.int .u8 1] 5); with_reducible refine (of_any 120 _).mono ?_; rintro e wP ⟨AP, rfl, hownP, hbP⟩; have hra := hra.below hbP; have hcur := hcur.trans (hbP.mono hcur.size))
      | (go_at_call 17; with_reducible refine (of_any 0 _).mono ?_; rintro e wQ ⟨AQ, rfl, hownQ, hbQ⟩; have hcur := hcur.trans (hbQ.mono hcur.size))
      | (go_at_call 20; with_reducible refine (L1.out _ _ _ _ _ _ _ hra (Arg.own hownP)).mono ?_; rintro e wL ⟨rfl, hbL⟩; have hcur := hcur.trans (hbL.mono hcur.size))
      | (go_at_call 20; have hra := lit1 wP; have hownP := owns_below hownP ((Below.refl wP.heap.size wP).alloc (Nat.le_refl _) (.cells #[.int .u8 1] 5)); have hcur := hcur.alloc hcur.size (.cells #[.int .u8 1] 5); with_reducible refine (L1.out _ _ _ _ _ _ _ hra (Arg.own hownP)).mono ?_; rintro e wL ⟨rfl, hbL⟩; have hcur := hcur.trans (hbL.mono hcur.size))
      | (go_at_call 20; with_reducible refine (L2.out _ _ _ _ _ _ _ (Arg.nil _ _) (Arg.own hownQ)).mono ?_; rintro e wM ⟨rfl, hbM⟩; have hcur := hcur.trans (hbM.mono hcur.size))
      | (go_at_call 20; have hra := lit12 wM; have hcur := hcur.alloc hcur.size (.cells #[.int .u8 1, .int .u8 2] 5); with_reducible refine (L3.out _ _ _ _ _ _ _ hra (Arg.nil _ _)).mono ?_; rintro e wR ⟨rfl, hbR⟩; have hcur := hcur.trans (hbR.mono hcur.size))
      ))
  all_goals (
    have B9 := BW.out.trans (hcur.mono BW.out.size)
    go_wp2
    go_ret
    exact ⟨rfl, B9⟩)

end Go.Proofs.Ytkbeeknnfndjgaa
