/- One row of numbers that came in, or is the call's own. No statement is proved here. -/
import Derived.Test.YteinfkjlcpfeiaaBase
import Derived.Test.YteinfkjlcpfeiaaByteMath
import Derived.OpenShut
namespace Go.Proofs.Yteinfkjlcpfeiaa
open Go.RowKit Go.OpenShut
set_option linter.unusedVariables false

/-- One row of numbers that came in, or is the call's own: what the contracts ask of it. -/
structure Arg (w : World) (k : IntKind) (A : Option Addr) (n c : Nat) (zs : List Int) : Prop where
  seq : Seq w w.heap.size A (ints k zs)
  len : zs.length = n
  cap : n ≤ c
  max : c ≤ maxLen
theorem Arg.below {w w' : World} {k : IntKind} {A : Option Addr} {n c : Nat} {zs : List Int} (h : Arg w k A n c zs) (hb : Below w.heap.size w w') : Arg w' k A n c zs :=
  ⟨(h.seq.below hb).more hb.size, h.len, h.cap, h.max⟩
theorem Arg.nil (w : World) (k : IntKind) : Arg w k none 0 0 [] := ⟨Seq.empty, rfl, Nat.le_refl _, by decide⟩
theorem Arg.own {w : World} {k : IntKind} {base : Nat} {t : TypeId} {A : Option Addr} {n c : Nat} {zs : List Int} (h : w.ownsRow base t 1 (.slice A n c) n (ints k zs)) : Arg w k A n c zs := by
  refine ⟨Seq.own h, by have := h.1; rw [ints_length] at this; omega, ?_, ?_⟩
  · rcases h.2 with ⟨e, rfl⟩ | ⟨g, cap, cur, e, _, _, h1, h2, _⟩ <;> cases e
    · exact Nat.le_refl _
    · exact h1
  · rcases h.2 with ⟨e, rfl⟩ | ⟨g, cap, cur, e, _, _, h1, h2, _⟩ <;> cases e
    · decide
    · exact h2
theorem IsRow.arg {k : IntKind} {w : World} {a : Option Addr} {len cap : Nat} {zs : List Int} (h : IsRow k w a len cap zs) : ∃ l : List Int, Arg w k a len cap l ∧ ∀ z ∈ l, (Lit.int k z).wf = true := by
  obtain ⟨l, h1, h2, h3, h4, h5⟩ := h.read
  exact ⟨l, ⟨h4, h1, h2, h3⟩, h5⟩
theorem wf_byte {z : Int} (h : (Lit.int .u8 z).wf = true) : isByte z := by
  have := bounds_u8 h
  exact ⟨this.1, by omega⟩
theorem wf_word {z : Int} (h : (Lit.int .u64 z).wf = true) : isWord z := by
  have := bounds_u64 h
  exact ⟨this.1, by omega⟩
theorem wf_u32 {z : Int} (h : (Lit.int .u32 z).wf = true) : ∃ s : Nat, z = s ∧ s < 4294967296 := by
  have := bounds_u32 h
  exact ⟨z.toNat, by omega, by omega⟩
theorem byte_info : (Try.prog.info? 5).map (fun i => (i.zero, i.size, i.bytes)) = some (some (.int .u8 0), 1, 1) := by kernel_rfl
theorem byte_size : (Try.prog.info? 5).map (·.size) = some 1 := by kernel_rfl

end Go.Proofs.Yteinfkjlcpfeiaa
