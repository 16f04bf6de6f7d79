/- Layer 5: disks as lists. Nothing of the program. -/
import Derived.Test.YteinfkjlcpfeiaaByteMath
namespace Go.Proofs.Yteinfkjlcpfeiaa

abbrev Txt := List Int
/-- A sector: is it bad, and its bytes. -/
abbrev Sec := Bool × Txt
/-- A write that waits: of which sector, and its bytes. -/
abbrev Pnd := Int × Txt
def noughts : Txt := List.replicate 32 0
def secOk (s : Sec) : Bool := decide (s.2.length = 32) && (!s.1 || s.2.all (fun z => decide (z = 0)))
def pndOk (n : Nat) (p : Pnd) : Bool := decide (0 ≤ p.1) && decide (p.1 < (n : Int)) && decide (p.2.length = 32)
/-- A disk may be. -/
def mayD (S : List Sec) (C : List Pnd) : Bool := decide (1 ≤ S.length) && decide (S.length ≤ 1024) && decide (C.length ≤ 64) && S.all secOk && C.all (pndOk S.length)
def chkD (S : List Sec) (C : List Pnd) : Int := if mayD S C then 0 else 8
def askE (S : List Sec) (C : List Pnd) (at_ : Int) : Int := if mayD S C then (if at_ < 0 ∨ (S.length : Int) ≤ at_ then 2 else 0) else 8
def wrE (S : List Sec) (C : List Pnd) (at_ : Int) (b : Txt) : Int := if askE S C at_ = 0 then (if b.length = 32 then (if 64 ≤ C.length then 9 else 0) else 2) else askE S C at_
def wrS (S : List Sec) (C : List Pnd) (at_ : Int) (b : Txt) : List Sec := if wrE S C at_ b = 0 then S else []
def wrC (S : List Sec) (C : List Pnd) (at_ : Int) (b : Txt) : List Pnd := if wrE S C at_ b = 0 then C ++ [(at_, b)] else []
/-- Is a write of a sector there? -/
def pendB (C : List Pnd) (at_ : Int) : Bool := C.any fun p => decide (p.1 = at_)
/-- The last write of a sector. -/
def lastW (C : List Pnd) (at_ : Int) : Option Txt := (C.reverse.find? fun p => decide (p.1 = at_)).map (·.2)
def secAt (S : List Sec) (at_ : Int) : Sec := S.getD at_.toNat (false, [])
def gotB (S : List Sec) (C : List Pnd) (at_ : Int) : Txt := (lastW C at_).getD (secAt S at_).2
def gotOk (S : List Sec) (C : List Pnd) (at_ : Int) : Bool := (lastW C at_).isSome || !(secAt S at_).1
def rdE (S : List Sec) (C : List Pnd) (at_ : Int) : Int := if askE S C at_ = 0 then (if gotOk S C at_ then 0 else 50) else askE S C at_
def rdB (S : List Sec) (C : List Pnd) (at_ : Int) : Txt := if rdE S C at_ = 0 then gotB S C at_ else []
def waB (S : List Sec) (C : List Pnd) (at_ : Int) : Bool := if askE S C at_ = 0 then pendB C at_ else false
/-- One write, by its fate. -/
def byFate (S : List Sec) (p : Pnd) (f : Int) : List Sec := if f % 3 = 1 then S.set p.1.toNat (false, p.2) else if f % 3 = 2 then S.set p.1.toNat (true, noughts) else S
/-- The first k writes of the cache, by their fates. -/
def behindK (S : List Sec) (C : List Pnd) (F : List Int) : Nat → List Sec
  | 0 => S
  | k + 1 => byFate (behindK S C F k) (C.getD k (0, [])) (F.getD k 0)
def behindS (S : List Sec) (C : List Pnd) (F : List Int) : List Sec := behindK S C F (min C.length F.length)
def crS (S : List Sec) (C : List Pnd) (F : List Int) : List Sec := if mayD S C then behindS S C F else []
def flS (S : List Sec) (C : List Pnd) : List Sec := crS S C (List.replicate C.length 1)
def newE (m : Int) : Int := if 1 ≤ m ∧ m ≤ 1024 then 0 else 2
def newS (m : Int) : List Sec := if newE m = 0 then List.replicate m.toNat (false, noughts) else []
def sameD (S : List Sec) (C : List Pnd) (S' : List Sec) (C' : List Pnd) : Bool := decide (S = S' ∧ C = C')
/-- More than statements go through. -/
def greatD (S : List Sec) (C : List Pnd) (m : Int) : Bool := (S.take m.toNat).any (fun s => decide (100 < s.2.length)) || (C.take 100).any (fun p => decide (100 < p.2.length)) || decide (m < (S.length : Int)) || decide (100 < C.length)
structure SmallD (S : List Sec) (C : List Pnd) : Prop where
  secs : S.length ≤ 100
  pnds : C.length ≤ 100
  long : ∀ s ∈ S, s.2.length ≤ 100
  wide : ∀ p ∈ C, p.2.length ≤ 100
theorem SmallD.nil : SmallD [] [] := ⟨by simp, by simp, by simp, by simp⟩
theorem small_ofD {S : List Sec} {C : List Pnd} {m : Int} (hm0 : 0 ≤ m) (hm : m ≤ 100) (h : greatD S C m = false) : SmallD S C := by
  unfold greatD at h
  simp only [Bool.or_eq_false_iff, decide_eq_false_iff_not, List.any_eq_false, decide_eq_true_iff] at h
  obtain ⟨⟨⟨h1, h2⟩, h3⟩, h4⟩ := h
  refine ⟨by omega, by omega, fun s hs => ?_, fun p hp => ?_⟩
  · have := h1 s (by rw [List.take_of_length_le (by omega)]; exact hs)
    omega
  · have := h2 p (by rw [List.take_of_length_le (by omega)]; exact hp)
    omega
theorem mayD_iff (S : List Sec) (C : List Pnd) : mayD S C = true ↔ (1 ≤ S.length ∧ S.length ≤ 1024 ∧ C.length ≤ 64) ∧ (∀ s ∈ S, s.2.length = 32 ∧ (s.1 = true → ∀ z ∈ s.2, z = 0)) ∧ ∀ p ∈ C, 0 ≤ p.1 ∧ p.1 < (S.length : Int) ∧ p.2.length = 32 := by
  unfold mayD secOk pndOk
  simp only [Bool.and_eq_true, decide_eq_true_iff, List.all_eq_true, Bool.or_eq_true, Bool.not_eq_true']
  constructor
  · rintro ⟨⟨⟨⟨h1, h2⟩, h3⟩, h4⟩, h5⟩
    refine ⟨⟨h1, h2, h3⟩, fun s hs => ⟨(h4 s hs).1, fun hb => ?_⟩, fun p hp => ?_⟩
    · rcases (h4 s hs).2 with h | h
      · rw [hb] at h; cases h
      · exact h
    · obtain ⟨⟨a, b⟩, c⟩ := h5 p hp
      exact ⟨a, b, c⟩
  · rintro ⟨⟨h1, h2, h3⟩, h4, h5⟩
    refine ⟨⟨⟨⟨h1, h2⟩, h3⟩, fun s hs => ⟨(h4 s hs).1, ?_⟩⟩, fun p hp => ?_⟩
    · cases hb : s.1 with
      | true => exact .inr ((h4 s hs).2 hb)
      | false => exact .inl rfl
    · obtain ⟨a, b, c⟩ := h5 p hp
      exact ⟨⟨a, b⟩, c⟩

end Go.Proofs.Yteinfkjlcpfeiaa
