/- Layer 5: the document's own new disk; what DiskEnds asks of the calls. -/
import Derived.Test.YtkbeeknnfndjgaaDiskW
namespace Go.Proofs.Ytkbeeknnfndjgaa
open Go.RowKit
set_option linter.unusedVariables false

set_option maxHeartbeats 800000 in
theorem rnew_any (m : Int) (w : World) (hm : m ≤ 100 ∨ 1024 < m) : Calls Try.prog 34 #[.int .i64 m] w (DiskOut w (newS m) [] (newE m)) := by
  have hbel : Below w.heap.size w (w.alloc (.cells #[.slice none 0 0, .slice none 0 0] 25)) := (Below.refl _ _).alloc (Nat.le_refl _) _
  have x := Blk.new w 25 [.slice none 0 0, .slice none 0 0]
  have hsz : (w.alloc (.cells #[.slice none 0 0, .slice none 0 0] 25)).heap.size = w.heap.size + 1 := World.size_alloc _ _
  by_cases h1 : 1 ≤ m ∧ m ≤ 1024
  · have hE : newE m = 0 := by unfold newE; rw [if_pos h1]
    obtain ⟨n, rfl⟩ : ∃ n : Nat, m = n := ⟨m.toNat, by omega⟩
    have hI : newS (n : Int) = List.replicate n (false, noughts) := by unfold newS; rw [if_pos hE, Int.toNat_natCast]
    rw [hE, hI]
    have BD := Lib.hid (blank_disk n (by omega) (w.alloc (.cells #[.slice none 0 0, .slice none 0 0] 25)))
    have X := Lib.hid x
    have BEL := Lib.hid hbel
    have HSZ := Lib.hid hsz
    have hi1 : ¬ (n : Int) < 1 := by omega
    have hi2 : ¬ (1024 : Int) < (n : Int) := by omega
    clear hbel x hsz hE hI h1 hm
    go_enter Try.func34, Try.ntmps34
    go_wp2_with fail
    refine BD.out.mono ?_
    rintro e w2 ⟨B, d, rfl, hown, hb2⟩
    have x2 := X.out.below hb2 (by have := HSZ.out; omega)
    have e0 := x2.cell 0
    have e1 := x2.cell 1
    have g0 := x2.free 0
    have g1 := x2.free 1
    simp only [List.getElem?_cons_zero, List.getElem?_cons_succ] at e0 e1
    have X2 := Lib.hid x2
    have O2 := Lib.hid hown
    have B2 := Lib.hid (BEL.out.trans (hb2.mono BEL.out.size))
    clear x2 hown hb2
    go_wp2
    have z := X2.out.two (.slice B n d) (.slice none 0 0)
    have z0 := z.cell 0
    have z1 := z.cell 1
    simp only [List.getElem?_cons_zero, List.getElem?_cons_succ] at z0 z1
    have O3 := O2.out.two X2.out (.slice B n d) (.slice none 0 0)
    have hl : (List.replicate n ((false, noughts) : Sec)).length = n := List.length_replicate
    have hs := HSZ.out
    refine bodyPost_ret (v := .tuple #[diskV B n d none 0 0, .int .i64 0]) ?_ rfl ⟨B, d, none, 0, by rw [hl]; rfl, by rw [hl]; exact O3.lower (by omega), below_two B2.out (Nat.le_refl _) _ _⟩
    clear e0 e1 g0 g1
    simp [results, Try.f34, go_sem, z0, z1]
  · have hE : newE m = 2 := by unfold newE; rw [if_neg h1]
    have hI : newS m = [] := by unfold newS; rw [if_neg (by rw [hE]; decide)]
    rw [hE, hI]
    have e0 := x.cell 0
    have e1 := x.cell 1
    simp only [List.getElem?_cons_zero, List.getElem?_cons_succ] at e0 e1
    have E0 := Lib.hid e0
    have E1 := Lib.hid e1
    have BEL := Lib.hid hbel
    clear hbel x hsz hE hI e0 e1 hm
    by_cases h2 : m < 1
    · clear h1
      go_enter Try.func34, Try.ntmps34
      go_wp2
      refine bodyPost_ret (v := .tuple #[diskV none 0 0 none 0 0, .int .i64 2]) ?_ rfl ⟨none, 0, none, 0, rfl, OwnDsk.nil _ _, BEL.out⟩
      have z0 := E0.out
      have z1 := E1.out
      simp [results, Try.f34, go_sem, z0, z1]
    · have h3 : 1024 < m := by omega
      have h4 : 1 ≤ m := by omega
      clear h1 h2
      go_enter Try.func34, Try.ntmps34
      go_wp2
      refine bodyPost_ret (v := .tuple #[diskV none 0 0 none 0 0, .int .i64 2]) ?_ rfl ⟨none, 0, none, 0, rfl, OwnDsk.nil _ _, BEL.out⟩
      have z0 := E0.out
      have z1 := E1.out
      simp [results, Try.f34, go_sem, z0, z1]

theorem small_like {S S' : List Sec} {C C' : List Pnd} (hs : SmallD S C) {n m : Nat} (h1 : S'.length = n) (h2 : C'.length = m) (h3 : ∀ j, (S'.getD j (false, [])).2.length = (S.getD j (false, [])).2.length) (h4 : ∀ j, (C'.getD j (0, [])).2.length = (C.getD j (0, [])).2.length) (e1 : S.length = n) (e2 : C.length = m) : SmallD S' C' := by
  refine ⟨by rw [h1, ← e1]; exact hs.secs, by rw [h2, ← e2]; exact hs.pnds, fun s hm => ?_, fun p hm => ?_⟩
  · obtain ⟨k, hk, rfl⟩ := List.getElem_of_mem hm
    have := h3 k
    rw [List.getD_eq_getElem?_getD, List.getElem?_eq_getElem hk, Option.getD_some] at this
    rw [this]
    exact hs.sec_at k
  · obtain ⟨k, hk, rfl⟩ := List.getElem_of_mem hm
    have := h4 k
    rw [List.getD_eq_getElem?_getD, List.getElem?_eq_getElem hk, Option.getD_some] at this
    rw [this]
    exact hs.pnd_at k
theorem ends_flush (P : DskDoes) {S : List Sec} {C : List Pnd} (hs : SmallD S C) : ∃ (I : List Sec) (E : Int),
    (∀ A n c A' n' c' w, Dsk w A n c A' n' c' S C → Calls Try.prog 30 #[diskV A n c A' n' c'] w (DiskOut w I [] E)) ∧
    (∀ A n c A' n' c' w, Dsk w A n c A' n' c' S C → Calls Try.prog 31 #[diskV A n c A' n' c'] w (DiskOut w I [] E)) ∧ SmallD I [] :=
  ⟨_, _, fun A n c A' n' c' w h => P.flush A n c A' n' c' S C w h hs, fun A n c A' n' c' w h => flush_any A n c A' n' c' S C w h hs, cr_small hs _⟩
theorem ends_crash (P : DskDoes) {S : List Sec} {C : List Pnd} (hs : SmallD S C) {F : List Int} (hF : ∀ z ∈ F, isByte z) (hl : F.length ≤ 200) : ∃ (I : List Sec) (E : Int),
    (∀ A n c A' n' c' Af nf cf w, Dsk w A n c A' n' c' S C → Arg w .u8 Af nf cf F → Calls Try.prog 32 #[diskV A n c A' n' c', .slice Af nf cf] w (DiskOut w I [] E)) ∧
    (∀ A n c A' n' c' Af nf cf w, Dsk w A n c A' n' c' S C → Arg w .u8 Af nf cf F → Calls Try.prog 33 #[diskV A n c A' n' c', .slice Af nf cf] w (DiskOut w I [] E)) ∧ SmallD I [] :=
  ⟨_, _, fun A n c A' n' c' Af nf cf w h h2 => P.crash A n c A' n' c' S C Af nf cf F w h hs h2 hF hl, fun A n c A' n' c' Af nf cf w h h2 => crash_any A n c A' n' c' S C Af nf cf F w h hs h2 hF, cr_small hs _⟩
theorem ends_new (P : DskDoes) {m : Int} (hm : m ≤ 100 ∨ 1024 < m) : ∃ (I : List Sec) (E : Int),
    (∀ w, Calls Try.prog 13 #[.int .i64 m] w (DiskOut w I [] E)) ∧ (∀ w, Calls Try.prog 34 #[.int .i64 m] w (DiskOut w I [] E)) :=
  ⟨_, _, fun w => P.new m w hm, fun w => rnew_any m w hm⟩
theorem ends_same (P : DskDoes) {S T : List Sec} {C D : List Pnd} (hs : SmallD S C) (ht : SmallD T D) : ∃ V : Bool,
    (∀ A n c A' n' c' B m d B' m' d' w, Dsk w A n c A' n' c' S C → Dsk w B m d B' m' d' T D → Calls Try.prog 36 #[diskV A n c A' n' c', diskV B m d B' m' d'] w fun e w' => e = .returned (.bool V) ∧ Below w.heap.size w w') ∧
    (∀ A n c A' n' c' B m d B' m' d' w, Dsk w A n c A' n' c' S C → Dsk w B m d B' m' d' T D → Calls Try.prog 27 #[diskV A n c A' n' c', diskV B m d B' m' d'] w fun e w' => e = .returned (.bool V) ∧ Below w.heap.size w w') :=
  ⟨_, fun A n c A' n' c' B m d B' m' d' w h1 h2 => P.same A n c A' n' c' S C B m d B' m' d' T D w h1 h2 hs ht, fun A n c A' n' c' B m d B' m' d' w h1 h2 => same_any A n c A' n' c' S C B m d B' m' d' T D w h1 h2⟩
theorem psame_yes (P : DskDoes) {S : List Sec} {C : List Pnd} (hs : SmallD S C) (A : Option Addr) (n c : Nat) (A' : Option Addr) (n' c' : Nat) (B : Option Addr) (m d : Nat) (B' : Option Addr) (m' d' : Nat) (w : World) (ha : Dsk w A n c A' n' c' S C) (hb : Dsk w B m d B' m' d' S C) :
    Calls Try.prog 36 #[diskV A n c A' n' c', diskV B m d B' m' d'] w fun e w' => e = .returned (.bool true) ∧ Below w.heap.size w w' := by
  have := P.same A n c A' n' c' S C B m d B' m' d' S C w ha hb hs hs
  rwa [sameD_self] at this

end Go.Proofs.Ytkbeeknnfndjgaa
