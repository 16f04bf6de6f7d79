/- Layer 2, CrcGoesOn: the walk: a sum goes on. -/
import Derived.Test.YtccmmbknbchmdaaCrcL
import Derived.Test.YtccmmbknbchmdaaCrcSumsWalk
namespace Go.Proofs.Ytccmmbknbchmdaa
open Go.RowKit Go.OpenShut
set_option linter.unusedVariables false

set_option maxHeartbeats 1600000 in
theorem walk_CrcGoesOn (a0 : Option Addr) (len0 cap0 : Nat) (z0 : List Int) (a1 : Option Addr) (len1 cap1 : Nat) (z1 : List Int) (w : World) (w0 : IsRow .u8 w a0 len0 cap0 z0) (w1 : IsRow .u8 w a1 len1 cap1 z1) :
    Calls Try.prog 6 #[.slice a0 len0 cap0, .slice a1 len1 cap1] w fun e w' => e = .returned (.bool true) ∧ Below w.heap.size w w' := by
  obtain ⟨a, ha, haw⟩ := w0.arg
  obtain ⟨b, hb, hbw⟩ := w1.arg
  have HAW := Lib.hid (fun z hz => wf_byte (haw z hz))
  have HBW := Lib.hid (fun z hz => wf_byte (hbw z hz))
  have HA := Lib.hid ha
  have HB := Lib.hid hb
  clear ha hb haw hbw w0 w1
  have AL := Lib.hid (alive_any w)
  by_cases g0 : 2000 < len0
  · go_enter Try.func6, Try.ntmps6
    go_wp2_with fail
    refine AL.out.mono ?_
    rintro e w1 ⟨rfl, hb1⟩
    go_wp2
    go_ret
    exact ⟨rfl, hb1⟩
  by_cases g1 : 2000 < len1
  · go_enter Try.func6, Try.ntmps6
    go_wp2_with fail
    refine AL.out.mono ?_
    rintro e w1 ⟨rfl, hb1⟩
    go_wp2
    go_ret
    exact ⟨rfl, hb1⟩
  obtain ⟨i0, hi0, hz0, hz1, hz2⟩ := info_of u8_info
  have hml : (4000 : Nat) ≤ maxLen := by decide
  go_enter Try.func6, Try.ntmps6
  go_wp2_with fail
  refine AL.out.mono ?_
  rintro e w1 ⟨rfl, hb1⟩
  have B1 := Lib.hid hb1
  have X := Lib.hid (HA.out.below hb1)
  have Y := Lib.hid (HB.out.below hb1)
  clear hb1 AL
  have S1 := sum_any a0 len0 cap0 a w1 _ X.out.seq HA.out.len (by omega) HAW.out
  have M1 := more_any (sum a) a1 len1 cap1 b w1 _ Y.out.seq HB.out.len (by omega) (sum_w HAW.out) HBW.out
  rw [more_sum] at M1
  obtain ⟨x, hx⟩ : ∃ x, x = sum a := ⟨_, rfl⟩
  obtain ⟨y, hy⟩ : ∃ y, y = sum (a ++ b) := ⟨_, rfl⟩
  rw [← hx] at S1 M1
  rw [← hy] at M1
  have S1 := Lib.hid S1
  have M1 := Lib.hid M1
  have HY := Lib.hid hy
  clear hx hy
  go_wp2_with fail
  refine S1.out.mono ?_
  rintro e w' ⟨rfl, rfl⟩
  go_wp2_with fail
  refine M1.out.mono ?_
  rintro e w' ⟨rfl, rfl⟩
  go_wp2_with (first
    | (at_builtin; refine wpList_dup_g w1 rfl (.tmp 26) (.tmp 27) _ rfl 5 i0 _ 1 Try.underlying22 hi0 hz0 hz1 hz2 rfl rfl a0 len0 cap0 (ints .u8 a) rfl (by rw [ints_length, HA.out.len]) X.out.seq (ints_one _ _) (by omega) (by omega) ?_; intro A2 c2 w2 hown2 hbel2; have O2 := Lib.hid hown2; have B2 := Lib.hid hbel2; clear hown2 hbel2)
    | (at_builtin; refine wpList_behind_g w1 w2 rfl (.tmp 28) (.tmp 29) _ rfl w1.heap.size 5 i0 _ 1 Try.underlying22 hi0 hz0 hz1 hz2 rfl A2 len0 c2 (ints .u8 a) rfl O2.out _ a1 len1 cap1 (ints .u8 b) rfl (by rw [ints_length, HB.out.len]) (Y.out.below B2.out).seq (ints_one _ _) (by omega) (by omega) B2.out (Nat.le_refl _) ?_; intro A3 c3 w3 hown3 hbel3; have O3 := Lib.hid hown3; have B3 := Lib.hid hbel3; clear hown3 hbel3))
  have hl : (a ++ b).length = len0 + len1 := by rw [List.length_append, HA.out.len, HB.out.len]
  have hb3 : ∀ z ∈ a ++ b, isByte z := fun z hz => (List.mem_append.1 hz).elim (HAW.out z) (HBW.out z)
  have ho := O3.out
  rw [← ints_app] at ho
  have S3 := sum_any A3 (len0 + len1) c3 (a ++ b) w3 _ (Arg.own ho).seq hl (by omega) hb3
  rw [← HY.out] at S3
  have S3 := Lib.hid S3
  clear hl hb3 ho
  refine S3.out.mono ?_
  rintro e w' ⟨rfl, rfl⟩
  go_wp2
  go_ret
  exact ⟨rfl, B1.out.trans (B3.out.mono B1.out.size)⟩

end Go.Proofs.Ytccmmbknbchmdaa
