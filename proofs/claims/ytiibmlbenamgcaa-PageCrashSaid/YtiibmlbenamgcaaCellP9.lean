/- Layer 6: a part's text, in plain lists. Nothing of the program. -/
/- Layer 6, the program: a part's row and text. No statement is proved here. -/
/- Layer 6, the program: a row read, a part's text. No statement is proved here. -/
/- Layer 6, the program: a part's text. No statement is proved here. -/
/- Layer 6, the program: is a sector's text a part's. No statement is proved here. -/
/- Layer 6, the program: parts that follow one another, joined. No statement is proved here. -/
/- Layer 6, the program: what a slot holds: the deferred function. No statement is proved here. -/
/- Layer 6, the program: the parts of a slot: rows of them, and what is read of sectors. No statement is proved here. -/
/- Layer 6, the program: what a slot holds. No statement is proved here. -/
/- Layer 6, the program: what a cell holds. No statement is proved here. -/
import Derived.Test.YtiibmlbenamgcaaDiskQ
import Derived.Test.YtiibmlbenamgcaaNumW
import Derived.Test.YtiibmlbenamgcaaCopy
import Derived.Test.YtiibmlbenamgcaaDiskW
import Derived.Deep.RegionHeld3
import Derived.StillTailTactics
import Derived.Lib.EndianBits
import Derived.Test.YtiibmlbenamgcaaDiskR9
import Derived.Deep.RegionWith
import Derived.Test.YtiibmlbenamgcaaDskSm
import Derived.WalkLawsBesides
import Derived.Defers
import Derived.Recover
import Derived.Laws.Pointers
namespace Go.Proofs.Ytiibmlbenamgcaa
set_option linter.unusedVariables false

def sz4 : List Int := [4, 1, 1, 2]
/-- The row ahead of a part's bytes. -/
def rowT (v n m : Int) : Txt := rowTo [v, n, m, 0] sz4 4
/-- A part's text. -/
def partT (v n : Int) (b : Txt) : Txt := rowT v n b.length ++ b ++ List.replicate (24 - b.length) 0
def nums4 (t : Txt) : List Int := numsTo (t.take 8) sz4 4
def verOf (t : Txt) : Int := val (t.take 4)
def manyOf (t : Txt) : Int := t.getD 5 0

theorem okB_sz4 : okB sz4 = true := by decide
theorem at_sz4 : atTo sz4 4 = 8 := by decide
theorem rowT_length (v n m : Int) : (rowT v n m).length = 8 := by unfold rowT; rw [rowTo_length]; rfl
theorem rowT_byte (v n m : Int) : ∀ z ∈ rowT v n m, isByte z := rowTo_byte _ _ _
theorem partT_length (v n : Int) {b : Txt} (hb : b.length ≤ 24) : (partT v n b).length = 32 := by
  unfold partT
  simp only [List.length_append, rowT_length, List.length_replicate]
  omega
theorem partT_byte (v n : Int) {b : Txt} (hb : ∀ z ∈ b, isByte z) : ∀ z ∈ partT v n b, isByte z := by
  intro z hz
  unfold partT at hz
  simp only [List.mem_append] at hz
  rcases hz with (hz | hz) | hz
  · exact rowT_byte _ _ _ z hz
  · exact hb z hz
  · rw [List.eq_of_mem_replicate hz]; exact ⟨by decide, by decide⟩
theorem rowT_eq (v n m : Int) : rowT v n m = digs 4 v ++ [n % 256, m % 256, 0, 0] := by
  have h : rowT v n m = ((([] ++ digs 4 v) ++ digs 1 n) ++ digs 1 m) ++ digs 2 0 := rfl
  rw [h]
  simp [digs]
theorem fits4 {v n m : Int} (hv : 0 ≤ v ∧ v < 4294967296) (hn : 0 ≤ n ∧ n < 256) (hm : 0 ≤ m ∧ m < 256) : fitsTo [v, n, m, 0] sz4 4 = true := by
  have h1 : v / 256 ^ 4 = 0 := Int.ediv_eq_zero_of_lt hv.1 (by rw [show (256 : Int) ^ 4 = 4294967296 by decide]; exact hv.2)
  have h2 : n / 256 ^ 1 = 0 := Int.ediv_eq_zero_of_lt hn.1 (by omega)
  have h3 : m / 256 ^ 1 = 0 := Int.ediv_eq_zero_of_lt hm.1 (by omega)
  show (((true && decide (v / 256 ^ 4 = 0)) && decide (n / 256 ^ 1 = 0)) && decide (m / 256 ^ 1 = 0)) && decide ((0 : Int) / 256 ^ 2 = 0) = true
  rw [h1, h2, h3]
  decide
theorem nums4_eq (t : Txt) (ht : 8 ≤ t.length) : nums4 t = [verOf t, val ((t.drop 4).take 1), val ((t.drop 5).take 1), val ((t.drop 6).take 2)] := by
  have h : nums4 t = ((([] ++ [val (((t.take 8).drop 0).take 4)]) ++ [val (((t.take 8).drop 4).take 1)]) ++ [val (((t.take 8).drop 5).take 1)]) ++ [val (((t.take 8).drop 6).take 2)] := rfl
  rw [h]
  simp only [List.drop_take, List.take_take, List.drop_zero, List.nil_append, List.cons_append]
  rfl
theorem val_one {t : Txt} {k : Nat} (hk : k < t.length) : val ((t.drop k).take 1) = t.getD k 0 := by
  rw [List.getD_eq_getElem?_getD, List.getElem?_eq_getElem hk, List.drop_eq_getElem_cons hk, List.take_succ_cons, List.take_zero]
  show 0 * 256 + t[k] = t[k]
  rw [Int.zero_mul, Int.zero_add]
theorem ver_bounds {t : Txt} (ht : 4 ≤ t.length) (hb : ∀ z ∈ t, isByte z) : 0 ≤ verOf t ∧ verOf t < 4294967296 := by
  have h := val_bounds (t.take 4) fun z hz => hb z (List.mem_of_mem_take hz)
  rw [List.length_take, Nat.min_eq_left ht] at h
  have h4 : (256 : Int) ^ 4 = 4294967296 := by decide
  unfold verOf
  omega
theorem byte_getD {t : Txt} (hb : ∀ z ∈ t, isByte z) (k : Nat) : isByte (t.getD k 0) := by
  rcases Nat.lt_or_ge k t.length with h | h
  · rw [List.getD_eq_getElem?_getD, List.getElem?_eq_getElem h]
    exact hb _ (List.getElem_mem h)
  · rw [List.getD_eq_getElem?_getD, List.getElem?_eq_none h]
    exact ⟨by decide, by decide⟩
/-- The bytes of the part of which T may be the text. -/
def partB (T : Txt) : Txt := (T.drop 8).take (manyOf T).toNat
def partOk (n : Int) (T : Txt) : Bool := decide (verOf T ≠ 0) && decide (manyOf T ≤ 24) && decide (T = partT (verOf T) n (partB T))
theorem partB_length {T : Txt} (h : T.length = 32) (hb : ∀ z ∈ T, isByte z) (hm : manyOf T ≤ 24) : ((partB T).length : Int) = manyOf T := by
  have := byte_getD hb 5
  unfold isByte at this
  have e : manyOf T = T.getD 5 0 := rfl
  unfold partB
  rw [List.length_take, List.length_drop]
  omega
theorem partB_byte {T : Txt} (hb : ∀ z ∈ T, isByte z) : ∀ z ∈ partB T, isByte z := fun z hz => hb z (List.mem_of_mem_drop (List.mem_of_mem_take hz))

end Go.Proofs.Ytiibmlbenamgcaa

namespace Go.Proofs.Ytiibmlbenamgcaa
open Go.RowKit
set_option linter.unusedVariables false

abbrev rowV (v n m : Int) : Value := .agg #[.int .u32 v, .int .i64 n, .int .i64 m]

theorem nums_row (w : World) (v n m : Int) (b B : Nat) (hb : b = w.heap.size) (hB : w.heap.size < B) : Seq (w.alloc (.cells #[.int .u64 v, .int .u64 n, .int .u64 m, .int .u64 0] 131)) B (some ⟨b, 0, none⟩) (ints .u64 [v, n, m, 0]) := lit_row w 131 .u64 [v, n, m, 0] _ _ _ rfl hb hB

end Go.Proofs.Ytiibmlbenamgcaa

namespace Go.Proofs.Ytiibmlbenamgcaa
open Go.RowKit
set_option linter.unusedVariables false

theorem Arg.first {w : World} {k : IntKind} {A : Option Addr} {n c m : Nat} {zs : List Int} (h : Arg w k A n c zs) (hm : m ≤ n) : Arg w k A m c (zs.take m) := by
  refine ⟨?_, by rw [List.length_take, h.len]; omega, Nat.le_trans hm h.cap, h.max⟩
  have := h.seq.take m
  unfold ints at this ⊢
  rwa [← List.map_take] at this
theorem wrap_i64_byte {z : Int} (h : isByte z) : IntKind.i64.wrap z = z := by
  obtain ⟨k, rfl⟩ := Int.eq_ofNat_of_zero_le h.1
  have := h.2
  exact Lib.wrap_i64_small k (by omega)
theorem Blk.three {w : World} {g : Nat} {t : TypeId} {a b c : Value} (h : Blk w g t [a, b, c]) (x y z : Value) : Blk (((w.setCell ⟨g, 0, none⟩ x).setCell ⟨g, 1, none⟩ y).setCell ⟨g, 2, none⟩ z) g t [x, y, z] := ((h.set 0 x).set 1 y).set 2 z

end Go.Proofs.Ytiibmlbenamgcaa

namespace Go.Proofs.Ytiibmlbenamgcaa
open Go.RowKit
set_option linter.unusedVariables false

theorem splice_row (v n m : Int) : splice (ints .u8 noughts) 0 (ints .u8 (rowT v n m)) = ints .u8 (rowT v n m ++ List.replicate 24 0) := by
  have hl : (rowT v n m).length = 8 := rowT_length v n m
  simp [splice, ints, noughts, hl]
theorem splice_part (r b : Txt) (hr : r.length = 8) (hb : b.length ≤ 24) : splice (ints .u8 (r ++ List.replicate 24 0)) 8 (ints .u8 b) = ints .u8 (r ++ b ++ List.replicate (24 - b.length) 0) := by
  have e : 24 - b.length = 32 - (8 + b.length) := by omega
  have h1 : (ints .u8 (r ++ List.replicate 24 0)).take 8 = ints .u8 r := by
    unfold ints
    rw [← List.map_take, List.take_append_of_le_length (by omega), List.take_of_length_le (by omega)]
  have h2 : (ints .u8 (r ++ List.replicate 24 0)).drop (8 + (ints .u8 b).length) = ints .u8 (List.replicate (24 - b.length) 0) := by
    rw [ints_length]
    unfold ints
    rw [← List.map_drop, List.drop_append, List.drop_of_length_le (by omega), List.nil_append, List.drop_replicate, show 24 - (8 + b.length - r.length) = 24 - b.length from by omega]
  unfold splice
  rw [h1, h2]
  simp [ints]

end Go.Proofs.Ytiibmlbenamgcaa

namespace Go.Proofs.Ytiibmlbenamgcaa
open Go.RowKit
set_option linter.unusedVariables false

def Panics (w : World) (e : Ending) (w' : World) : Prop := (∃ v, e = .panicked [{ v := .iface 23 v, recovered := false }]) ∧ Below w.heap.size w w'
abbrev contV (v : Int) (A : Option Addr) (n c : Nat) : Value := .agg #[.int .u32 v, .slice A n c]

end Go.Proofs.Ytiibmlbenamgcaa

namespace Go.Proofs.Ytiibmlbenamgcaa
open Go.RowKit
set_option linter.unusedVariables false

abbrev Prt := Int × Txt
/-- May p stand behind last? -/
def follows (p last : Prt) : Prop := p.1 = last.1 ∧ (p.2.length = 0 ∨ 24 ≤ last.2.length)
instance (p last : Prt) : Decidable (follows p last) := by unfold follows; exact inferInstance

/-- Parts, as they are read. -/
structure Prts (w : World) (A : Option Addr) (n c : Nat) (ps : List Prt) : Prop where
  len : ps.length = n
  at_ : ∀ i, i < n → ∃ b Ai ni ci, A = some ⟨b, 0, none⟩ ∧ b < w.heap.size ∧ w.cell? ⟨b, i * 2, none⟩ = some (.int .u32 (ps.getD i (0, [])).1) ∧ w.cell? ⟨b, i * 2 + 1, none⟩ = some (.slice Ai ni ci) ∧ Arg w .u8 Ai ni ci (ps.getD i (0, [])).2

def joinV (ps : List Prt) : Int := ps.foldl (fun _ p => p.1) 0
def joinB (ps : List Prt) : Txt := (ps.map Prod.snd).flatten
theorem take_snoc {α : Type} {l : List α} {k : Nat} (h : k < l.length) (d : α) : l.take (k + 1) = l.take k ++ [l.getD k d] := by
  rw [List.take_add_one, List.getD_eq_getElem?_getD, List.getElem?_eq_getElem h]
  rfl
theorem joinV_snoc (ps : List Prt) (p : Prt) : joinV (ps ++ [p]) = p.1 := by simp [joinV, List.foldl_append]
theorem joinB_snoc (ps : List Prt) (p : Prt) : joinB (ps ++ [p]) = joinB ps ++ p.2 := by simp [joinB]
theorem joinB_length {ps : List Prt} {m : Nat} (h : ∀ p ∈ ps, p.2.length ≤ m) : (joinB ps).length ≤ m * ps.length := by
  induction ps with
  | nil => simp [joinB]
  | cons p t ih =>
    have h1 := ih fun q hq => h q (List.mem_cons_of_mem _ hq)
    have h2 := h p (List.mem_cons_self ..)
    have h3 : (joinB (p :: t)).length = p.2.length + (joinB t).length := by simp [joinB]
    rw [h3, List.length_cons, Nat.mul_succ]
    omega

end Go.Proofs.Ytiibmlbenamgcaa

namespace Go.Proofs.Ytiibmlbenamgcaa
open Go.RowKit
set_option linter.unusedVariables false

end Go.Proofs.Ytiibmlbenamgcaa

namespace Go.Proofs.Ytiibmlbenamgcaa
open Go.RowKit
set_option linter.unusedVariables false

def partO (n : Nat) : Option Txt → Option Prt
  | none => none
  | some T => if partOk n T then some (verOf T, partB T) else none
def heldTo (l : List (Option Txt)) : Nat → Option (List Prt)
  | 0 => some []
  | k + 1 => match heldTo l k with
    | none => none
    | some ps => match partO k (l.getD k none) with
      | none => none
      | some p => if k = 0 ∨ follows p (ps.getD (k - 1) (0, [])) then some (ps ++ [p]) else none
def slotV (l : List (Option Txt)) : Int := match heldTo l l.length with | none => 0 | some ps => joinV ps
def slotB (l : List (Option Txt)) : Txt := match heldTo l l.length with | none => [] | some ps => joinB ps
theorem heldTo_none {l : List (Option Txt)} {k n : Nat} (h : heldTo l k = none) (hn : k ≤ n) : heldTo l n = none := by
  induction n with
  | zero => rw [show k = 0 by omega] at h; exact h
  | succ n ih =>
    rcases Nat.lt_or_ge k (n + 1) with h1 | h1
    · rw [heldTo, ih (by omega)]
    · rw [show n + 1 = k by omega]; exact h
theorem partO_small {n : Nat} {t : Option Txt} {p : Prt} (h : partO n t = some p) : p.2.length ≤ 24 := by
  cases t with
  | none => cases h
  | some T =>
    unfold partO at h
    dsimp only at h
    split at h
    · rename_i hk
      injection h with h
      subst h
      simp only [partOk, Bool.and_eq_true, decide_eq_true_eq] at hk
      show (partB T).length ≤ 24
      unfold partB
      rw [List.length_take]
      omega
    · cases h
theorem heldTo_succ {l : List (Option Txt)} {k : Nat} {ps : List Prt} {p : Prt} (h : heldTo l k = some ps) (hp : partO k (l.getD k none) = some p) (hf : k = 0 ∨ follows p (ps.getD (k - 1) (0, []))) : heldTo l (k + 1) = some (ps ++ [p]) := by
  rw [heldTo, h]
  dsimp only
  rw [hp]
  dsimp only
  rw [if_pos hf]
theorem heldTo_stop {l : List (Option Txt)} {k : Nat} {ps : List Prt} (h : heldTo l k = some ps) (hp : partO k (l.getD k none) = none) : heldTo l (k + 1) = none := by
  rw [heldTo, h]
  dsimp only
  rw [hp]
theorem heldTo_stop2 {l : List (Option Txt)} {k : Nat} {ps : List Prt} {p : Prt} (h : heldTo l k = some ps) (hp : partO k (l.getD k none) = some p) (hf : ¬ (k = 0 ∨ follows p (ps.getD (k - 1) (0, [])))) : heldTo l (k + 1) = none := by
  rw [heldTo, h]
  dsimp only
  rw [hp]
  dsimp only
  rw [if_neg hf]
theorem heldTo_small {l : List (Option Txt)} {k : Nat} {ps : List Prt} (h : heldTo l k = some ps) : ps.length = k ∧ ∀ p ∈ ps, p.2.length ≤ 24 := by
  induction k generalizing ps with
  | zero => injection h with h; subst h; exact ⟨rfl, by simp⟩
  | succ k ih =>
    rw [heldTo] at h
    rcases h1 : heldTo l k with _ | qs
    · rw [h1] at h; cases h
    · rw [h1] at h
      dsimp only at h
      rcases h2 : partO k (l.getD k none) with _ | p
      · rw [h2] at h; cases h
      · rw [h2] at h
        dsimp only at h
        split at h
        · injection h with h
          subst h
          obtain ⟨h3, h4⟩ := ih h1
          refine ⟨by simp [h3], fun q hq => ?_⟩
          rcases List.mem_append.1 hq with hq | hq
          · exact h4 q hq
          · rw [List.mem_singleton] at hq
            subst hq
            exact partO_small h2
        · cases h

/-- A sector as it is read: nil if it can't be. -/
def OptArg (w : World) (A : Option Addr) (n c : Nat) : Option Txt → Prop
  | none => A = none ∧ n = 0 ∧ c = 0
  | some T => Arg w .u8 A n c T ∧ T.length = 32 ∧ ∀ z ∈ T, isByte z
theorem OptArg.below {w w' : World} {A : Option Addr} {n c : Nat} {t : Option Txt} (h : OptArg w A n c t) (hb : Below w.heap.size w w') : OptArg w' A n c t := by
  cases t with
  | none => exact h
  | some T => exact ⟨h.1.below hb, h.2⟩
structure Opts (w : World) (A : Option Addr) (n c : Nat) (l : List (Option Txt)) : Prop where
  len : l.length = n
  cap : n ≤ c
  max : c ≤ maxLen
  at_ : ∀ i, i < n → ∃ b o Ai ni ci, A = some ⟨b, o, none⟩ ∧ b < w.heap.size ∧ w.cell? ⟨b, o + i, none⟩ = some (.slice Ai ni ci) ∧ OptArg w Ai ni ci (l.getD i none)
theorem Opts.below {w w' : World} {A : Option Addr} {n c : Nat} {l : List (Option Txt)} (h : Opts w A n c l) (hb : Below w.heap.size w w') : Opts w' A n c l :=
  ⟨h.len, h.cap, h.max, fun i hi => by
    obtain ⟨b, o, Ai, ni, ci, e, hlt, hc, ha⟩ := h.at_ i hi
    exact ⟨b, o, Ai, ni, ci, e, Nat.lt_of_lt_of_le hlt hb.size, (hb.cell (p := ⟨b, _, none⟩) hlt).trans hc, ha.below hb⟩⟩

theorem arg_part {w : World} {b o c : Nat} {T : Txt} (hT : Arg w .u8 (some ⟨b, o, none⟩) 32 c T) (hm : manyOf T ≤ 24) : Arg w .u8 (some ⟨b, o + 8, none⟩) (partB T).length (c - 8) (partB T) := by
  have hcc := hT.cap
  have hmax := hT.max
  have hl : (partB T).length ≤ 24 := by unfold partB; rw [List.length_take]; omega
  refine ⟨?_, rfl, by omega, by omega⟩
  have h3 := (hT.seq.drop 8).take (manyOf T).toNat
  unfold partB
  unfold ints at h3 ⊢
  rwa [← List.map_drop, ← List.map_take] at h3

end Go.Proofs.Ytiibmlbenamgcaa

namespace Go.Proofs.Ytiibmlbenamgcaa
open Go.RowKit
set_option linter.unusedVariables false

end Go.Proofs.Ytiibmlbenamgcaa

namespace Go.Proofs.Ytiibmlbenamgcaa
open Go.RowKit
set_option linter.unusedVariables false

theorem Opts.sub {w : World} {b o n c m s : Nat} {l : List (Option Txt)} (h : Opts w (some ⟨b, o, none⟩) n c l) (hs : s + m ≤ n) : Opts w (some ⟨b, o + s, none⟩) m m ((l.drop s).take m) := by
  have hl := h.len
  have hc := h.cap
  have hm := h.max
  refine ⟨by rw [List.length_take, List.length_drop]; omega, Nat.le_refl _, by omega, fun i hi => ?_⟩
  obtain ⟨b', o', Ai, ni, ci, e, hlt, hcs, ha⟩ := h.at_ (s + i) (by omega)
  injection e with e
  injection e with e1 e2 _
  subst e1
  subst e2
  refine ⟨b, o + s, Ai, ni, ci, rfl, hlt, by rw [Nat.add_assoc]; exact hcs, ?_⟩
  have e3 : ((l.drop s).take m).getD i none = l.getD (s + i) none := by
    rw [List.getD_eq_getElem?_getD, List.getD_eq_getElem?_getD, List.getElem?_take_of_lt hi, List.getElem?_drop]
  rw [e3]
  exact ha
/-- What a cell holds of its sectors as they are read: version, bytes, and the slot that is free. -/
def hV (m : Nat) (l : List (Option Txt)) : Int := if slotV (l.take m) = 0 ∨ slotV (l.take m) < slotV (l.drop m) then slotV (l.drop m) else slotV (l.take m)
def hB (m : Nat) (l : List (Option Txt)) : Txt := if slotV (l.take m) = 0 ∨ slotV (l.take m) < slotV (l.drop m) then slotB (l.drop m) else slotB (l.take m)
def hF (m : Nat) (l : List (Option Txt)) : Int := if slotV (l.take m) = 0 ∨ slotV (l.take m) < slotV (l.drop m) then 0 else 1

end Go.Proofs.Ytiibmlbenamgcaa
