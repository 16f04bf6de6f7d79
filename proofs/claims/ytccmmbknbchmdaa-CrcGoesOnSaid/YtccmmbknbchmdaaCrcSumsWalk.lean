/- Layer 2, CrcSums: the walk: the program's sums are the document's, and what is handed in stays. -/
import Derived.Test.YtccmmbknbchmdaaCrcR
import Derived.Test.YtccmmbknbchmdaaDup
namespace Go.Proofs.Ytccmmbknbchmdaa
open Go.RowKit Go.OpenShut
set_option linter.unusedVariables false

theorem u8_info : (Try.prog.info? 5).map (fun i => (i.zero, i.size, i.bytes)) = some (some (.int .u8 0), 1, 1) := by kernel_rfl
theorem info_of {P : Program} {t : TypeId} {z : Value} {s b : Nat} (h : (P.info? t).map (fun i => (i.zero, i.size, i.bytes)) = some (some z, s, b)) :
    ∃ i0, P.info? t = some i0 ∧ i0.zero = some z ∧ i0.size = s ∧ i0.bytes = b := by
  obtain ⟨i0, hi, hx⟩ := Option.map_eq_some_iff.1 h
  simp only [Prod.mk.injEq] at hx
  exact ⟨i0, hi, hx.1, hx.2.1, hx.2.2⟩
theorem wf_u32 {z : Int} (h : (Lit.int .u32 z).wf = true) : ∃ s : Nat, z = s ∧ s < 4294967296 := by
  have := bounds_u32 h
  exact ⟨z.toNat, by omega, by omega⟩

set_option maxHeartbeats 1600000 in
theorem walk_CrcSums (a0 : Option Addr) (len0 cap0 : Nat) (z0 : List Int) (a1 : Int) (w : World) (w0 : IsRow .u8 w a0 len0 cap0 z0) (w1 : (Lit.int .u32 a1).wf = true) :
    Calls Try.prog 4 #[.slice a0 len0 cap0, .int .u32 a1] w fun e w' => e = .returned (.bool true) ∧ Below w.heap.size w w' := by
  obtain ⟨l, hl, hlw⟩ := w0.arg
  obtain ⟨s, rfl, hs⟩ := wf_u32 w1
  have HLW := Lib.hid (fun z hz => wf_byte (hlw z hz))
  have HL := Lib.hid hl
  clear hl hlw w0 w1
  by_cases g0 : 2000 < len0
  · go_enter Try.func4, Try.ntmps4
    go_wp2
    go_ret
    exact ⟨rfl, Below.refl _ _⟩
  obtain ⟨i0, hi0, hz0, hz1, hz2⟩ := info_of u8_info
  have hml : (2000 : Nat) ≤ maxLen := by decide
  go_enter Try.func4, Try.ntmps4
  go_wp2_with (at_builtin; refine wpList_dup_g w rfl (.tmp 9) (.tmp 10) _ rfl 5 i0 _ 1 Try.underlying22 hi0 hz0 hz1 hz2 rfl rfl a0 len0 cap0 (ints .u8 l) rfl (by rw [ints_length, HL.out.len]) HL.out.seq (ints_one _ _) (by omega) (by omega) ?_; intro A1 c1 w1 hown hbel; have OWN := Lib.hid hown; have BEL := Lib.hid hbel; clear hown hbel)
  have X := Lib.hid (Arg.own OWN.out)
  have Y := Lib.hid (HL.out.below BEL.out)
  have S1 := sum_any A1 len0 c1 l w1 _ X.out.seq HL.out.len (by omega) HLW.out
  have S2 := rsum_any a0 len0 cap0 l w1 _ Y.out.seq HL.out.len (by omega) HLW.out
  have M1 := more_any s A1 len0 c1 l w1 _ X.out.seq HL.out.len (by omega) hs HLW.out
  have M2 := rmore_any s a0 len0 cap0 l w1 _ Y.out.seq HL.out.len (by omega) hs HLW.out
  have hst1 := run_str (P := Try.prog) w1 22 9 5 Try.underlying22 Try.underlying5 Try.underlying9 (c := c1) X.out.seq HL.out.len
  have hst2 := run_str (P := Try.prog) w1 22 9 5 Try.underlying22 Try.underlying5 Try.underlying9 (c := cap0) Y.out.seq HL.out.len
  obtain ⟨x, hx⟩ : ∃ x, x = sum l := ⟨_, rfl⟩
  obtain ⟨y, hy⟩ : ∃ y, y = more s l := ⟨_, rfl⟩
  rw [← hx] at S1 S2
  rw [← hy] at M1 M2
  have S1 := Lib.hid S1
  have S2 := Lib.hid S2
  have M1 := Lib.hid M1
  have M2 := Lib.hid M2
  clear hx hy hi0 hz0 hz1 hz2 hml
  refine S1.out.mono ?_
  rintro e w' ⟨rfl, rfl⟩
  go_wp2_with fail
  refine S2.out.mono ?_
  rintro e w' ⟨rfl, rfl⟩
  go_wp2_with fail
  refine M1.out.mono ?_
  rintro e w' ⟨rfl, rfl⟩
  go_wp2_with fail
  refine M2.out.mono ?_
  rintro e w' ⟨rfl, rfl⟩
  go_wp2
  go_ret
  exact ⟨rfl, BEL.out⟩

end Go.Proofs.Ytccmmbknbchmdaa
