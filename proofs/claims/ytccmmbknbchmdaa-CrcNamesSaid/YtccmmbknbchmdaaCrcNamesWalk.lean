/- Layer 2, CrcNames: the walk: the examples hold. -/
import Derived.Test.YtccmmbknbchmdaaCrcL
import Derived.Test.YtccmmbknbchmdaaCrcG
import Derived.Test.YtccmmbknbchmdaaCrcBackWalk
import Derived.Test.YtccmmbknbchmdaaBase2
namespace Go.Proofs.Ytccmmbknbchmdaa
open Go.RowKit Go.OpenShut
set_option linter.unusedVariables false

theorem sum_a : sum [97] = 3904355907 := by kernel_rfl
theorem sealed_a : sealed [97] = [97, 67, 190, 183, 232] := by
  unfold sealed
  rw [sum_a]
  rfl
theorem opE_abcd : opE [97, 98, 99, 100] = 20 := by kernel_rfl
theorem opE_abc : opE [97, 98, 99] = 10 := by kernel_rfl
theorem opB_four : opB (List.replicate 4 0) = [] := by unfold opB; rw [if_pos (by kernel_rfl)]; rfl
theorem opE_many (t : List Int) (h : t.length = 4101) : opE t = 4 := by unfold opE; rw [h]; rfl
theorem seE_many (t : List Int) (h : t.length = 4097) : seE t = 4 := by unfold seE; rw [h]; rfl
theorem seB_many (t : List Int) (h : t.length = 4097) : seB t = [] := by unfold seB; rw [h]; rfl
theorem opE_four : opE (List.replicate 4 0) = 0 := by kernel_rfl
theorem rep_byte (n : Nat) : ∀ z ∈ List.replicate n (0 : Int), isByte z := by
  intro z hz
  rw [(List.mem_replicate.1 hz).2]
  exact ⟨by omega, by omega⟩
theorem small_byte (l : List Int) (h : l.all (fun z => decide (0 ≤ z ∧ z < 256)) = true) : ∀ z ∈ l, isByte z := by
  intro z hz
  have h1 := List.all_eq_true.1 h z hz
  exact (of_decide_eq_true h1 : 0 ≤ z ∧ z < 256)
theorem rep_ints (n : Nat) : rep n (.int .u8 0) = (ints .u8 (List.replicate n 0)).toArray := by simp [rep, ints]
/-- A row that was just laid is one that may be handed in. -/
theorem Arg.laid (w : World) (t : TypeId) (mk : Nat × Nat) (k : IntKind) (zs : List Int) (n : Nat) (hn : zs.length = n) (hm : n ≤ maxLen) : Arg (w.alloc (.cells (ints k zs).toArray t mk)) k (some ⟨w.heap.size, 0, none⟩) n n zs :=
  ⟨lit_mark w t mk k zs _ _ _ rfl rfl (by simp), hn, Nat.le_refl _, hm⟩

set_option maxRecDepth 100000 in
set_option maxHeartbeats 3200000 in
theorem walk_CrcNames (w : World) :
    Calls Try.prog 3 #[] w fun e w' => e = .returned (.bool true) ∧ Below w.heap.size w w' := by
  obtain ⟨i0, hi0, hz0, hz1, hz2⟩ := info_parts byte_info
  have hmk := fun (n : Nat) (hn : n ≤ 5000) => run_make1 (P := Try.prog) 22 5 i0 _ Try.underlying22 hi0 hz0 hz1 rfl n (by rw [hz2]; omega) (by simp only [maxLen]; omega)
  have hm4 := hmk 4 (by omega)
  have hm5 := hmk 4097 (by omega)
  have hm6 := hmk 4101 (by omega)
  rw [rep_ints, show ((4 : Nat) : Int) = 4 from rfl] at hm4
  rw [rep_ints, show ((4097 : Nat) : Int) = 4097 from rfl] at hm5
  rw [rep_ints, show ((4101 : Nat) : Int) = 4101 from rfl] at hm6
  have kc := fun (w : World) (C : Array Value) (n c : Nat) => Lib.run_convert_bytes_const (P := Try.prog) w 22 5 C n c Try.underlying22 Try.underlying5
  have hml : (5000 : Nat) ≤ maxLen := by decide
  clear hmk hi0 hz0 hz1 hz2
  obtain ⟨r4, hr4⟩ : ∃ r, r = (ints .u8 (List.replicate 4 0)).toArray := ⟨_, rfl⟩
  obtain ⟨r5, hr5⟩ : ∃ r, r = (ints .u8 (List.replicate 4097 0)).toArray := ⟨_, rfl⟩
  obtain ⟨r6, hr6⟩ : ∃ r, r = (ints .u8 (List.replicate 4101 0)).toArray := ⟨_, rfl⟩
  rw [← hr4] at hm4
  rw [← hr5] at hm5
  rw [← hr6] at hm6
  have R4 := Lib.hid hr4
  have R5 := Lib.hid hr5
  have R6 := Lib.hid hr6
  clear hr4 hr5 hr6
  go_enter Try.func3, Try.ntmps3
  go_wp2_with fail
  have h1 := seal_gen _ 1 1 [97] _ (Arg.laid w 5 (1, 2) .u8 [97] 1 rfl (by omega)) (small_byte _ rfl)
  rw [seE_small (by decide), seB_small (by decide), sealed_a] at h1
  refine h1.mono ?_
  clear h1
  intro e w1 hout
  obtain ⟨A1, c1, rfl, hown, hbel⟩ := hout.len rfl (show ([97, 67, 190, 183, 232] : List Int).length = 5 from rfl)
  have O1 := Lib.hid hown
  have B1 := Lib.hid (((Below.refl _ _).alloc (Nat.le_refl _) _).trans (hbel.mono (by simp)))
  clear hown hbel hout
  go_wp2_with fail
  have h2 := open_gen _ 3 3 [97, 98, 99] _ (Arg.laid w1 5 (3, 4) .u8 [97, 98, 99] 3 rfl (by omega)) (small_byte _ rfl)
  rw [opB_not (by rw [opE_abc]; decide), opE_abc] at h2
  refine h2.mono ?_
  clear h2
  rintro e w2 ⟨A2, c2, rfl, hown, hbel⟩
  have O1 := Lib.hid (owns_below (O1.out.allocated (.cells (ints .u8 [97, 98, 99]).toArray 5 (3, 4))) hbel)
  have B2 := Lib.hid ((B1.out.alloc B1.out.size _).trans (hbel.mono (by have := B1.out.size; simp; omega)))
  clear hown hbel B1
  go_wp2_with fail
  have h3 := open_gen _ 4 4 [97, 98, 99, 100] _ (Arg.laid w2 5 (4, 5) .u8 [97, 98, 99, 100] 4 rfl (by omega)) (small_byte _ rfl)
  rw [opB_not (by rw [opE_abcd]; decide), opE_abcd] at h3
  refine h3.mono ?_
  clear h3
  rintro e w3 ⟨A3, c3, rfl, hown, hbel⟩
  have O1 := Lib.hid (owns_below (O1.out.allocated (.cells (ints .u8 [97, 98, 99, 100]).toArray 5 (4, 5))) hbel)
  have B3 := Lib.hid ((B2.out.alloc B2.out.size _).trans (hbel.mono (by have := B2.out.size; simp; omega)))
  clear hown hbel B2
  go_wp2_with fail
  have h4 := open_gen _ 4 4 (List.replicate 4 0) _ (Arg.laid w3 5 (0, 0) .u8 (List.replicate 4 0) 4 (by simp) (by omega)) (rep_byte 4)
  rw [opE_four, opB_four, ← R4.out] at h4
  refine h4.mono ?_
  clear h4
  rintro e w4 ⟨A4, c4, rfl, hown, hbel⟩
  have O1 := Lib.hid (owns_below (O1.out.allocated (.cells r4 5)) hbel)
  have B4 := Lib.hid ((B3.out.alloc B3.out.size _).trans (hbel.mono (by have := B3.out.size; simp; omega)))
  clear hown hbel B3
  go_wp2_with fail
  have h5 := seal_gen _ 4097 4097 (List.replicate 4097 0) _ (Arg.laid w4 5 (0, 0) .u8 (List.replicate 4097 0) 4097 List.length_replicate (by omega)) (rep_byte 4097)
  rw [seE_many _ List.length_replicate, seB_many _ List.length_replicate, ← R5.out] at h5
  refine h5.mono ?_
  clear h5
  rintro e w5 ⟨A5, c5, rfl, hown, hbel⟩
  have O1 := Lib.hid (owns_below (O1.out.allocated (.cells r5 5)) hbel)
  have B5 := Lib.hid ((B4.out.alloc B4.out.size _).trans (hbel.mono (by have := B4.out.size; simp; omega)))
  clear hown hbel B4
  go_wp2_with fail
  have h6 := open_gen _ 4101 4101 (List.replicate 4101 0) _ (Arg.laid w5 5 (0, 0) .u8 (List.replicate 4101 0) 4101 List.length_replicate (by omega)) (rep_byte 4101)
  have he6 := opE_many _ (List.length_replicate (n := 4101) (a := (0 : Int)))
  rw [opB_not (by rw [he6]; decide), he6, ← R6.out] at h6
  refine h6.mono ?_
  clear h6 he6
  rintro e w6 ⟨A6, c6, rfl, hown, hbel⟩
  have O1 := Lib.hid (owns_below (O1.out.allocated (.cells r6 5)) hbel)
  have B6 := Lib.hid ((B5.out.alloc B5.out.size _).trans (hbel.mono (by have := B5.out.size; simp; omega)))
  clear hown hbel B5 R4 R5 R6
  go_wp2_with fail
  refine (alive_any w6).mono ?_
  rintro e w7 ⟨rfl, hbel⟩
  have O1 := Lib.hid (owns_below O1.out hbel)
  have B7 := Lib.hid (B6.out.trans (hbel.mono B6.out.size))
  clear hbel B6
  go_wp2_with fail
  have h8 := sum_any _ 1 1 [97] _ _ (Arg.laid w7 5 (1, 2) .u8 [97] 1 rfl (by omega)).seq rfl (by omega) (small_byte _ rfl)
  rw [sum_a] at h8
  refine h8.mono ?_
  clear h8
  rintro e w' ⟨rfl, rfl⟩
  have O1 := Lib.hid (O1.out.allocated (.cells (ints .u8 [97]).toArray 5 (1, 2)))
  have hst := run_str (P := Try.prog) _ 22 9 5 Try.underlying22 Try.underlying5 Try.underlying9 (c := c1) (Arg.own O1.out).seq (show ([97, 67, 190, 183, 232] : List Int).length = 5 from rfl)
  have e1 : strOfNums [97, 67, 190, 183, 232] = ⟨#[97, 67, 190, 183, 232]⟩ := by decide
  rw [e1] at hst
  clear e1
  go_wp2
  go_ret
  exact ⟨rfl, B7.out.alloc B7.out.size _⟩

end Go.Proofs.Ytccmmbknbchmdaa
