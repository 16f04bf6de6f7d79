/- Layer 5: what the walks of the statements ask of the program; a disk in its box. -/
import Derived.Test.YtiibmlbenamgcaaDiskSp
namespace Go.Proofs.Ytiibmlbenamgcaa
open Go.RowKit
set_option linter.unusedVariables false

/-- The nine calls, at all arguments that the statements go through. -/
structure DskDoes : Prop where
  new : ∀ (m : Int) (w : World), m ≤ 100 ∨ 1024 < m → Calls Try.prog 12 #[.int .i64 m] w (DiskOut w (newS m) [] (newE m))
  check : ∀ (A : Option Addr) (n c : Nat) (A' : Option Addr) (n' c' : Nat) (S : List Sec) (C : List Pnd) (w : World), Dsk w A n c A' n' c' S C → SmallD S C → Calls Try.prog 35 #[diskV A n c A' n' c'] w fun e w' => e = .returned (.int .i64 (chkD S C)) ∧ Below w.heap.size w w'
  write : ∀ (A : Option Addr) (n c : Nat) (A' : Option Addr) (n' c' : Nat) (S : List Sec) (C : List Pnd) (at_ : Int) (Ab : Option Addr) (nb cb : Nat) (b : Txt) (w : World), Dsk w A n c A' n' c' S C → SmallD S C → Arg w .u8 Ab nb cb b → (∀ z ∈ b, isByte z) → b.length ≤ 100 →
    Calls Try.prog 13 #[diskV A n c A' n' c', .int .i64 at_, .slice Ab nb cb] w (DiskOut w (wrS S C at_ b) (wrC S C at_ b) (wrE S C at_ b))
  read : ∀ (A : Option Addr) (n c : Nat) (A' : Option Addr) (n' c' : Nat) (S : List Sec) (C : List Pnd) (at_ : Int) (w : World), Dsk w A n c A' n' c' S C → SmallD S C → Calls Try.prog 52 #[diskV A n c A' n' c', .int .i64 at_] w (BytesOut w (rdB S C at_) (rdE S C at_))
  flush : ∀ (A : Option Addr) (n c : Nat) (A' : Option Addr) (n' c' : Nat) (S : List Sec) (C : List Pnd) (w : World), Dsk w A n c A' n' c' S C → SmallD S C → Calls Try.prog 22 #[diskV A n c A' n' c'] w (DiskOut w (flS S C) [] (chkD S C))
  crash : ∀ (A : Option Addr) (n c : Nat) (A' : Option Addr) (n' c' : Nat) (S : List Sec) (C : List Pnd) (Af : Option Addr) (nf cf : Nat) (F : List Int) (w : World), Dsk w A n c A' n' c' S C → SmallD S C → Arg w .u8 Af nf cf F → (∀ z ∈ F, isByte z) → F.length ≤ 200 →
    Calls Try.prog 21 #[diskV A n c A' n' c', .slice Af nf cf] w (DiskOut w (crS S C F) [] (chkD S C))
  twin : ∀ (A : Option Addr) (n c : Nat) (A' : Option Addr) (n' c' : Nat) (S : List Sec) (C : List Pnd) (w : World), Dsk w A n c A' n' c' S C → SmallD S C → Calls Try.prog 37 #[diskV A n c A' n' c'] w fun e w' => ∃ B d B' d', e = .returned (diskV B n d B' n' d') ∧ OwnDsk w' w.heap.size B n d B' n' d' S C ∧ Below w.heap.size w w'

/-- A disk in its box. -/
structure DBox (w : World) (G : Nat) (A : Option Addr) (n c : Nat) (A' : Option Addr) (n' c' : Nat) (S : List Sec) (C : List Pnd) : Prop where
  blk : Blk w G 37 [.slice A n c, .slice A' n' c']
  dsk : Dsk w A n c A' n' c' S C
section
variable {w w' : World} {G : Nat} {A A' : Option Addr} {n c n' c' : Nat} {S : List Sec} {C : List Pnd}
theorem DBox.below (x : DBox w G A n c A' n' c' S C) (hb : Below w.heap.size w w') : DBox w' G A n c A' n' c' S C := ⟨x.blk.below hb x.blk.lt, x.dsk.below hb⟩
theorem DBox.new (t : Dsk w A n c A' n' c' S C) : DBox (w.alloc (.cells #[.slice A n c, .slice A' n' c'] 37)) w.heap.size A n c A' n' c' S C :=
  ⟨Blk.new w 37 [.slice A n c, .slice A' n' c'], t.below ((Below.refl _ _).alloc (Nat.le_refl _) _)⟩
theorem DBox.cells (x : DBox w G A n c A' n' c' S C) : w.cell? ⟨G, 0, none⟩ = some (.slice A n c) ∧ w.cell? ⟨G, 1, none⟩ = some (.slice A' n' c') := ⟨x.blk.cell 0, x.blk.cell 1⟩
theorem DBox.lt (x : DBox w G A n c A' n' c' S C) : G < w.heap.size := x.blk.lt
end
theorem sameD_self (S : List Sec) (C : List Pnd) : sameD S C S C = true := by simp [sameD]
theorem same_yes (A : Option Addr) (n c : Nat) (A' : Option Addr) (n' c' : Nat) (S : List Sec) (C : List Pnd) (B : Option Addr) (m d : Nat) (B' : Option Addr) (m' d' : Nat) (w : World) (ha : Dsk w A n c A' n' c' S C) (hb : Dsk w B m d B' m' d' S C) :
    Calls Try.prog 20 #[diskV A n c A' n' c', diskV B m d B' m' d'] w fun e w' => e = .returned (.bool true) ∧ Below w.heap.size w w' := by
  have := same_any A n c A' n' c' S C B m d B' m' d' S C w ha hb
  rwa [sameD_self] at this
theorem str_arg {w : World} {A : Option Addr} {n c : Nat} {zs : List Int} (h : Arg w .u8 A n c zs) : (convert 22 9 (.slice A n c)).run Try.prog w = .ok (.string (strOfNums zs)) w :=
  run_str (P := Try.prog) w 22 9 5 Try.underlying22 Try.underlying5 Try.underlying9 (c := c) h.seq h.len

theorem wr_small {S : List Sec} {C : List Pnd} (hs : SmallD S C) (at_ : Int) {b : Txt} (hb : b.length ≤ 100) : SmallD (wrS S C at_ b) (wrC S C at_ b) := by
  unfold wrS wrC
  by_cases h : wrE S C at_ b = 0
  · rw [if_pos h, if_pos h]
    have hl : C.length < 64 := by
      unfold wrE at h
      by_cases h0 : askE S C at_ = 0
      · rw [if_pos h0] at h
        by_cases h32 : b.length = 32
        · rw [if_pos h32] at h
          by_cases h64 : 64 ≤ C.length
          · rw [if_pos h64] at h; omega
          · omega
        · rw [if_neg h32] at h; omega
      · rw [if_neg h0] at h; exact absurd h h0
    refine ⟨hs.secs, by simp; omega, hs.long, fun p hp => ?_⟩
    rcases List.mem_append.1 hp with hp | hp
    · exact hs.wide p hp
    · rw [List.mem_singleton] at hp
      subst hp
      exact hb
  · rw [if_neg h, if_neg h]
    exact SmallD.nil
theorem fate_small {S : List Sec} (hs : ∀ s ∈ S, s.2.length ≤ 100) {p : Pnd} (hp : p.2.length ≤ 100) (f : Int) : ∀ s ∈ byFate S p f, s.2.length ≤ 100 := by
  intro s h
  unfold byFate at h
  split at h
  · rcases List.mem_or_eq_of_mem_set h with h | rfl
    · exact hs s h
    · exact hp
  · split at h
    · rcases List.mem_or_eq_of_mem_set h with h | rfl
      · exact hs s h
      · simp [noughts]
    · exact hs s h
theorem behind_small {S : List Sec} {C : List Pnd} (hs : SmallD S C) (F : List Int) : SmallD (behindS S C F) [] := by
  have h : ∀ k, ∀ s ∈ behindK S C F k, s.2.length ≤ 100 := fun k => by
    induction k with
    | zero => exact hs.long
    | succ k ih => exact fate_small ih (hs.pnd_at k) _
  exact ⟨by unfold behindS; rw [behindK_len]; exact hs.secs, by simp, h _, by simp⟩
theorem cr_small {S : List Sec} {C : List Pnd} (hs : SmallD S C) (F : List Int) : SmallD (crS S C F) [] := by
  unfold crS
  split
  · exact behind_small hs F
  · exact SmallD.nil
theorem rd_small {S : List Sec} {C : List Pnd} (hs : SmallD S C) (at_ : Int) : (rdB S C at_).length ≤ 100 := by
  unfold rdB
  split
  · unfold gotB lastW
    cases hf : C.reverse.find? fun p => decide (p.1 = at_) with
    | none => exact hs.sec_at _
    | some p => exact hs.wide p (List.mem_reverse.1 (List.mem_of_find?_eq_some hf))
  · simp
theorem rd_bytes {S : List Sec} {C : List Pnd} (h1 : ∀ s ∈ S, ∀ z ∈ s.2, isByte z) (h2 : ∀ p ∈ C, ∀ z ∈ p.2, isByte z) (at_ : Int) : ∀ z ∈ rdB S C at_, isByte z := by
  unfold rdB
  split
  · unfold gotB lastW
    cases hf : C.reverse.find? fun p => decide (p.1 = at_) with
    | none =>
      intro z hz
      change z ∈ (secAt S at_).2 at hz
      unfold secAt at hz
      rcases Nat.lt_or_ge at_.toNat S.length with hi | hi
      · rw [List.getD_eq_getElem?_getD, List.getElem?_eq_getElem hi] at hz
        exact h1 _ (List.getElem_mem hi) z hz
      · rw [List.getD_eq_getElem?_getD, List.getElem?_eq_none hi] at hz
        simp at hz
    | some p => exact h2 p (List.mem_reverse.1 (List.mem_of_find?_eq_some hf))
  · intro z hz; simp at hz

end Go.Proofs.Ytiibmlbenamgcaa
