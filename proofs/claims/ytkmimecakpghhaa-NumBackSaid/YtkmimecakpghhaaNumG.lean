/- Layer 1: Size, Write and Read, the program's and the document's, at all arguments: one answer, in plain words. -/
import Derived.Test.YtkmimecakpghhaaNumL
import Derived.OpenShut
namespace Go.Proofs.Ytkmimecakpghhaa
open Go.RowKit Go.OpenShut
set_option linter.unusedVariables false

def szE (s : List Int) : Int := if okB s = true then 0 else 2
def szN (s : List Int) : Int := if okB s = true then (atTo s s.length : Int) else 0
def rdE (b s : List Int) : Int := if okB s = true then (if b.length = atTo s s.length then 0 else 10) else 2
def rdL (b s : List Int) : List Int := if rdE b s = 0 then numsTo b s s.length else []
def wrE (l s : List Int) : Int := if okB s = true then (if l.length = s.length then (if fitsTo l s s.length = true then 0 else 4) else 2) else 2
def wrB (l s : List Int) : List Int := if wrE l s = 0 then rowTo l s s.length else []

theorem rdE_zero {b s : List Int} (h : rdE b s = 0) : okB s = true ∧ b.length = atTo s s.length := by
  unfold rdE at h
  split at h
  · split at h
    · exact ⟨‹_›, ‹_›⟩
    · cases h
  · cases h
theorem wrE_zero {l s : List Int} (h : wrE l s = 0) : okB s = true ∧ l.length = s.length ∧ fitsTo l s s.length = true := by
  unfold wrE at h
  split at h
  · split at h
    · split at h
      · exact ⟨‹_›, ‹_›, ‹_›⟩
      · cases h
    · cases h
  · cases h
theorem okB_okTo {s : List Int} (h : okB s = true) : okTo s s.length = true := by simp [okB] at h; exact h.2
theorem okB_16 {s : List Int} (h : okB s = true) : s.length ≤ 16 := by simp [okB] at h; exact h.1
theorem atTo_128 {s : List Int} (h : okB s = true) : atTo s s.length ≤ 128 := by
  have := atTo_le (okB_okTo h) (Nat.le_refl _)
  have := okB_16 h
  omega
theorem rdL_word {b s : List Int} (hb : ∀ z ∈ b, isByte z) : ∀ z ∈ rdL b s, isWord z := by
  unfold rdL
  split
  · rename_i h; exact numsTo_word b s s.length hb (okB_okTo (rdE_zero h).1)
  · simp
theorem rdL_length (b s : List Int) : (rdL b s).length ≤ 100 ∧ (rdE b s = 0 → (rdL b s).length = s.length) := by
  unfold rdL
  split
  · rename_i h; rw [numsTo_length]; exact ⟨by have := okB_16 (rdE_zero h).1; omega, fun _ => rfl⟩
  · rename_i h; exact ⟨by simp, fun h' => absurd h' h⟩
theorem wrB_byte (l s : List Int) : ∀ z ∈ wrB l s, isByte z := by
  unfold wrB
  split
  · exact rowTo_byte l s _
  · simp
theorem wrB_length (l s : List Int) : (wrB l s).length ≤ 128 := by
  unfold wrB
  split
  · rename_i h; rw [rowTo_length]; exact atTo_128 (wrE_zero h).1
  · simp

/-- One row of numbers that came in, or is the call's own: what the contracts ask of it. -/
structure Arg (w : World) (k : IntKind) (A : Option Addr) (n c : Nat) (zs : List Int) : Prop where
  seq : Seq w w.heap.size A (ints k zs)
  len : zs.length = n
  cap : n ≤ c
  max : c ≤ maxLen
theorem Arg.below {w w' : World} {k : IntKind} {A : Option Addr} {n c : Nat} {zs : List Int} (h : Arg w k A n c zs) (hb : Below w.heap.size w w') : Arg w' k A n c zs :=
  ⟨(h.seq.below hb).more hb.size, h.len, h.cap, h.max⟩
theorem Arg.nil (w : World) (k : IntKind) : Arg w k none 0 0 [] := ⟨Seq.empty, rfl, Nat.le_refl _, by decide⟩
theorem Arg.own {w : World} {k : IntKind} {base : Nat} {t : TypeId} {A : Option Addr} {n c : Nat} {zs : List Int} (h : w.ownsRow base t 1 (.slice A n c) n (ints k zs)) : Arg w k A n c zs := by
  refine ⟨Seq.own h, by have := h.1; rw [ints_length] at this; omega, ?_, ?_⟩
  · rcases h.2 with ⟨e, rfl⟩ | ⟨g, cap, cur, e, _, _, h1, h2, _⟩ <;> cases e
    · exact Nat.le_refl _
    · exact h1
  · rcases h.2 with ⟨e, rfl⟩ | ⟨g, cap, cur, e, _, _, h1, h2, _⟩ <;> cases e
    · decide
    · exact h2
theorem IsRow.arg {k : IntKind} {w : World} {a : Option Addr} {len cap : Nat} {zs : List Int} (h : IsRow k w a len cap zs) : ∃ l : List Int, Arg w k a len cap l ∧ ∀ z ∈ l, (Lit.int k z).wf = true := by
  obtain ⟨l, h1, h2, h3, h4, h5⟩ := h.read
  exact ⟨l, ⟨h4, h1, h2, h3⟩, h5⟩
theorem wf_byte {z : Int} (h : (Lit.int .u8 z).wf = true) : isByte z := by
  have := bounds_u8 h
  exact ⟨this.1, by omega⟩
theorem wf_word {z : Int} (h : (Lit.int .u64 z).wf = true) : isWord z := by
  have := bounds_u64 h
  exact ⟨this.1, by omega⟩

section
variable {A S : Option Addr} {n c m cs : Nat} {l b s : List Int} {w : World}
theorem size_gen (hs : Arg w .i64 S m cs s) (hm : m ≤ 1000) :
    Calls Try.prog 10 #[.slice S m cs] w fun e w' => e = .returned (.tuple #[.int .i64 (szN s), .int .i64 (szE s)]) ∧ w = w' := by
  rcases h : okB s with _ | _
  · refine (size_no S m cs s w _ hs.seq hs.len hm h).mono ?_
    rintro e w' ⟨rfl, rfl⟩
    exact ⟨by simp [szN, szE, h], rfl⟩
  · refine (size_ok S m cs s w _ hs.seq hs.len h).mono ?_
    rintro e w' ⟨rfl, rfl⟩
    exact ⟨by simp [szN, szE, h, hs.len], rfl⟩
theorem rsize_gen (hs : Arg w .i64 S m cs s) (hm : m ≤ 1000) :
    Calls Try.prog 12 #[.slice S m cs] w fun e w' => e = .returned (.tuple #[.int .i64 (szN s), .int .i64 (szE s)]) ∧ w = w' := by
  rcases h : okB s with _ | _
  · refine (rsize_no S m cs s w _ hs.seq hs.len hm h).mono ?_
    rintro e w' ⟨rfl, rfl⟩
    exact ⟨by simp [szN, szE, h], rfl⟩
  · refine (rsize_ok S m cs s w _ hs.seq hs.len h).mono ?_
    rintro e w' ⟨rfl, rfl⟩
    exact ⟨by simp [szN, szE, h, hs.len], rfl⟩
theorem read_gen (hb : Arg w .u8 A n c b) (hs : Arg w .i64 S m cs s) (hn : n ≤ 128) (hm : m ≤ 1000) (hby : ∀ z ∈ b, isByte z) :
    Calls Try.prog 9 #[.slice A n c, .slice S m cs] w (RowOut .u64 26 w (rdL b s) (rdE b s)) := by
  rcases h : okB s with _ | _
  · refine (read_arg A S n c m cs b s w _ hs.seq hs.len hm h).mono ?_
    rintro e w' ⟨rfl, rfl⟩
    have e1 : rdE b s = 2 := by simp [rdE, h]
    have e2 : rdL b s = [] := by simp [rdL, e1]
    rw [e1, e2]; exact RowOut.nil _ _ _ _
  · by_cases hl : b.length = atTo s s.length
    · refine (read_ok A S n c m cs b s w hs.seq hs.len h hb.seq hb.len (by rw [← hb.len, ← hs.len]; exact hl) hb.cap hb.max hby).mono ?_
      intro e w' hr
      have e1 : rdE b s = 0 := by simp [rdE, h, hl]
      have e2 : rdL b s = numsTo b s m := by simp [rdL, e1, hs.len]
      rw [e1, e2]; exact hr
    · refine (read_short A S n c m cs s w _ hs.seq hs.len h (by rw [← hb.len, ← hs.len]; exact hl) (by omega)).mono ?_
      rintro e w' ⟨rfl, rfl⟩
      have e1 : rdE b s = 10 := by simp [rdE, h, hl]
      have e2 : rdL b s = [] := by simp [rdL, e1]
      rw [e1, e2]; exact RowOut.nil _ _ _ _
theorem rread_gen (hb : Arg w .u8 A n c b) (hs : Arg w .i64 S m cs s) (hn : n ≤ 128) (hm : m ≤ 1000) (hby : ∀ z ∈ b, isByte z) :
    Calls Try.prog 14 #[.slice A n c, .slice S m cs] w (RowOut .u64 26 w (rdL b s) (rdE b s)) := by
  rcases h : okB s with _ | _
  · refine (rread_arg A S n c m cs s w _ hs.seq hs.len hm h).mono ?_
    rintro e w' ⟨rfl, rfl⟩
    have e1 : rdE b s = 2 := by simp [rdE, h]
    have e2 : rdL b s = [] := by simp [rdL, e1]
    rw [e1, e2]; exact RowOut.nil _ _ _ _
  · by_cases hl : b.length = atTo s s.length
    · refine (rread_ok A S n c m cs b s w hs.seq hs.len h hb.seq hb.len (by rw [← hb.len, ← hs.len]; exact hl) hb.cap hb.max hby).mono ?_
      intro e w' hr
      have e1 : rdE b s = 0 := by simp [rdE, h, hl]
      have e2 : rdL b s = numsTo b s m := by simp [rdL, e1, hs.len]
      rw [e1, e2]; exact hr
    · refine (rread_short A S n c m cs s w _ hs.seq hs.len h (by rw [← hb.len, ← hs.len]; exact hl) (by omega)).mono ?_
      rintro e w' ⟨rfl, rfl⟩
      have e1 : rdE b s = 10 := by simp [rdE, h, hl]
      have e2 : rdL b s = [] := by simp [rdL, e1]
      rw [e1, e2]; exact RowOut.nil _ _ _ _
theorem wrote_row {e : Ending} {w' : World} (h : okB s = true) (hl : l.length = s.length) (ho : WroteOut w l s e w') : RowOut .u8 5 w (wrB l s) (wrE l s) e w' := by
  rcases hf : fitsTo l s s.length with _ | _
  · obtain ⟨rfl, hb⟩ := ho.no hf
    have e1 : wrE l s = 4 := by simp [wrE, h, hl, hf]
    have e2 : wrB l s = [] := by simp [wrB, e1]
    rw [e1, e2]
    exact ⟨none, 0, rfl, World.ownsRow_nil _ _ _ _, hb⟩
  · have e1 : wrE l s = 0 := by simp [wrE, h, hl, hf]
    have e2 : wrB l s = rowTo l s s.length := by simp [wrB, e1]
    rw [e1, e2]
    exact ho.yes hf
theorem wrote_arg (h : okB s = false ∨ l.length ≠ s.length) : RowOut .u8 5 w (wrB l s) (wrE l s) (.returned (.tuple #[.slice none 0 0, .int .i64 2])) w := by
  have e1 : wrE l s = 2 := by
    rcases h with h | h
    · simp [wrE, h]
    · simp [wrE, h]
  have e2 : wrB l s = [] := by simp [wrB, e1]
  rw [e1, e2]; exact RowOut.nil _ _ _ _
theorem write_gen (hl : Arg w .u64 A n c l) (hs : Arg w .i64 S m cs s) (hn : n ≤ 1000) (hm : m ≤ 1000) (hw : ∀ z ∈ l, isWord z) :
    Calls Try.prog 8 #[.slice A n c, .slice S m cs] w (RowOut .u8 5 w (wrB l s) (wrE l s)) := by
  rcases h : okB s with _ | _
  · refine (write_arg A S n c m cs s w _ hs.seq hs.len hm h).mono ?_
    rintro e w' ⟨rfl, rfl⟩
    exact wrote_arg (.inl h)
  · by_cases hnm : n = m
    · refine (write_ok A S n c m cs l s w hs.seq hs.len h hl.seq hl.len hnm hw).mono ?_
      intro e w' ho
      exact wrote_row h (by rw [hl.len, hs.len, hnm]) ho
    · refine (write_many A S n c m cs s w _ hs.seq hs.len h hnm hn).mono ?_
      rintro e w' ⟨rfl, rfl⟩
      exact wrote_arg (.inr (by rw [hl.len, hs.len]; exact hnm))
theorem rwrite_gen (hl : Arg w .u64 A n c l) (hs : Arg w .i64 S m cs s) (hn : n ≤ 1000) (hm : m ≤ 1000) (hw : ∀ z ∈ l, isWord z) :
    Calls Try.prog 13 #[.slice A n c, .slice S m cs] w (RowOut .u8 5 w (wrB l s) (wrE l s)) := by
  rcases h : okB s with _ | _
  · refine (rwrite_arg A S n c m cs s w _ hs.seq hs.len hm h).mono ?_
    rintro e w' ⟨rfl, rfl⟩
    exact wrote_arg (.inl h)
  · by_cases hnm : n = m
    · refine (rwrite_ok A S n c m cs l s w hs.seq hs.len h hl.seq hl.len hnm hw).mono ?_
      intro e w' ho
      exact wrote_row h (by rw [hl.len, hs.len, hnm]) ho
    · refine (rwrite_many A S n c m cs s w _ hs.seq hs.len h hnm hn).mono ?_
      rintro e w' ⟨rfl, rfl⟩
      exact wrote_arg (.inr (by rw [hl.len, hs.len]; exact hnm))
end

end Go.Proofs.Ytkmimecakpghhaa
