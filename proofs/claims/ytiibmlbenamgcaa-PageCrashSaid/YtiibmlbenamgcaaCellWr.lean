/- Layer 6, the program: is a cell busy, and its count. No statement is proved here. -/
/- Layer 6, the program: the texts of a slot, and their writes. No statement is proved here. -/
/- Layer 6, the program: the writes of a slot. No statement is proved here. -/
/- Layer 6, the program: Plan. No statement is proved here. -/
/- Layer 6, the program: Write. No statement is proved here. -/
import Derived.Test.YtiibmlbenamgcaaCellRd
import Derived.WalkSpells
import Derived.Test.YtiibmlbenamgcaaDskWr
namespace Go.Proofs.Ytiibmlbenamgcaa
open Go.RowKit
set_option linter.unusedVariables false

def busyTo (S : List Sec) (C : List Pnd) (at_ : Int) (n : Nat) : Bool := (List.range n).any fun i : Nat => waB S C (at_ + (i : Int))
theorem busy_no {S : List Sec} {C : List Pnd} {at_ : Int} {n : Nat} (h : ∀ i, i < n → waB S C (at_ + (i : Int)) = false) : busyTo S C at_ n = false := by
  unfold busyTo
  rw [List.any_eq_false]
  intro i hi
  rw [List.mem_range] at hi
  rw [h i hi]
  decide
theorem busy_yes {S : List Sec} {C : List Pnd} {at_ : Int} {n i : Nat} (hi : i < n) (h : waB S C (at_ + (i : Int)) = true) : busyTo S C at_ n = true := by
  unfold busyTo
  rw [List.any_eq_true]
  exact ⟨i, List.mem_range.2 hi, h⟩

/-- The greatest number at the front of what can be read. -/
def countTo (l : List (Option Txt)) : Nat → Int
  | 0 => 0
  | k + 1 => match l.getD k none with | none => countTo l k | some T => max (countTo l k) (verOf T)
theorem count_bounds {l : List (Option Txt)} {n : Nat} (h : ∀ i, i < n → ∀ T, l.getD i none = some T → 0 ≤ verOf T ∧ verOf T < 4294967296) : ∀ k, k ≤ n → 0 ≤ countTo l k ∧ countTo l k < 4294967296 := by
  intro k
  induction k with
  | zero => intro _; exact ⟨Int.le_refl 0, by show (0 : Int) < 4294967296; decide⟩
  | succ k ih =>
    intro hk
    have h1 := ih (by omega)
    rw [countTo]
    rcases h2 : l.getD k none with _ | T
    · exact h1
    · have h3 := h k (by omega) T h2
      dsimp only
      omega

end Go.Proofs.Ytiibmlbenamgcaa

namespace Go.Proofs.Ytiibmlbenamgcaa
open Go.RowKit
set_option linter.unusedVariables false

/-- The bytes of part number k. -/
def chunk (b : Txt) (k : Nat) : Txt := (b.drop (24 * k)).take 24
def textsOf (v : Int) (b : Txt) (m : Nat) : List Txt := (List.range m).map fun k : Nat => partT v k (chunk b k)
theorem textsOf_length (v : Int) (b : Txt) (m : Nat) : (textsOf v b m).length = m := by simp [textsOf]
theorem textsOf_get (v : Int) (b : Txt) {m k : Nat} (h : k < m) : (textsOf v b m).getD k [] = partT v k (chunk b k) := by
  rw [List.getD_eq_getElem?_getD, List.getElem?_eq_getElem (by rw [textsOf_length]; exact h)]
  simp [textsOf]

/-- The first k places of a row hold these texts, of the call's own. -/
def TxtsIn (w : World) (base : Nat) (vs : List Value) (l : List Txt) (k : Nat) : Prop := ∀ i, i < k → ∃ g, vs[i]? = some (.slice (some ⟨g, 0, none⟩) 32 32) ∧ OwnTxt w base (some ⟨g, 0, none⟩) 32 32 (l.getD i [])
theorem TxtsIn.below {w w' : World} {base : Nat} {vs : List Value} {l : List Txt} {k : Nat} (h : TxtsIn w base vs l k) (hb : Below w.heap.size w w') : TxtsIn w' base vs l k := fun i hi => by
  obtain ⟨g, e, ho⟩ := h i hi
  exact ⟨g, e, ho.below hb⟩
theorem TxtsIn.put {w : World} {base g : Nat} {vs : List Value} {l : List Txt} {k : Nat} (h : TxtsIn w base vs l k) (hb : Blk w g 22 vs) (hk : k < vs.length) {G : Nat} (ho : OwnTxt w base (some ⟨G, 0, none⟩) 32 32 (l.getD k [])) : TxtsIn (w.setCell ⟨g, k, none⟩ (.slice (some ⟨G, 0, none⟩) 32 32)) base (vs.set k (.slice (some ⟨G, 0, none⟩) 32 32)) l (k + 1) := fun i hi => by
  by_cases e : i = k
  · subst e
    exact ⟨G, by rw [List.getElem?_set_self hk], ho.box hb (by decide) _ _⟩
  · obtain ⟨g1, e1, h1⟩ := h i (by omega)
    exact ⟨g1, by rw [List.getElem?_set_ne (fun h => e h.symm)]; exact e1, h1.box hb (by decide) _ _⟩

end Go.Proofs.Ytiibmlbenamgcaa

namespace Go.Proofs.Ytiibmlbenamgcaa
open Go.RowKit
set_option linter.unusedVariables false

theorem make_pnds (n : Nat) (hn : n ≤ 1024) (w : World) :
    (Instr.makeSlice 35 (.int .i64 (n : Int)) (.int .i64 (n : Int))).run Try.prog w = .ok (.slice (some ⟨w.heap.size, 0, none⟩) n n) (w.alloc (.cells (madeCells #[.int .i64 0, .slice none 0 0] (n * 2)) 30)) := by
  obtain ⟨i, hi, hz, h1, hb⟩ := info_parts pnd_info
  have hr := run_make (P := Try.prog) w 35 30 i _ Try.underlying35 hi hz .i64 .i64 n n (by omega) (Int.le_refl _) (by rw [hb]; omega) (by omega)
  simp only [Int.toNat_natCast, h1] at hr
  exact hr
/-- The first k of n writes are these. -/
def someP (at_ : Int) (l : List Txt) (n k : Nat) : List Pnd := (List.range n).map fun i : Nat => if i < k then (at_ + (i : Int), l.getD i []) else (0, [])
theorem someP_len (at_ : Int) (l : List Txt) (n k : Nat) : (someP at_ l n k).length = n := by simp [someP]
theorem someP_at {at_ : Int} {l : List Txt} {n k i : Nat} (h : i < n) : (someP at_ l n k).getD i (0, []) = if i < k then (at_ + (i : Int), l.getD i []) else (0, []) := by
  rw [List.getD_eq_getElem?_getD, List.getElem?_eq_getElem (by rw [someP_len]; exact h)]
  simp [someP]
theorem someP_step {at_ : Int} {l : List Txt} {n k : Nat} (h : k < n) : (someP at_ l n k).set k (at_ + (k : Int), l.getD k []) = someP at_ l n (k + 1) := by
  have hg : ∀ j i, i < n → (someP at_ l n j)[i]? = some (if i < j then (at_ + (i : Int), l.getD i []) else (0, [])) := fun j i h => by
    rw [List.getElem?_eq_getElem (by rw [someP_len]; exact h)]
    simp [someP]
  apply List.ext_getElem?
  intro i
  rcases Nat.lt_or_ge i n with hi | hi
  · rw [hg (k + 1) i hi]
    by_cases e : k = i
    · subst e
      rw [List.getElem?_set_self (by rw [someP_len]; exact h), if_pos (Nat.lt_succ_self k)]
    · rw [List.getElem?_set_ne e, hg k i hi]
      by_cases h3 : i < k
      · rw [if_pos h3, if_pos (by omega)]
      · rw [if_neg h3, if_neg (by omega)]
  · rw [List.getElem?_eq_none (by rw [List.length_set, someP_len]; exact hi), List.getElem?_eq_none (by rw [someP_len]; exact hi)]
/-- The writes of texts, from a sector on. -/
def writesP (at_ : Int) (l : List Txt) (n : Nat) : List Pnd := someP at_ l n n
theorem made_pnds (at_ : Int) (l : List Txt) (n : Nat) (hn : n ≤ 1024) (w : World) : OwnPnds (w.alloc (.cells (madeCells #[.int .i64 0, .slice none 0 0] (n * 2)) 30)) w.heap.size (some ⟨w.heap.size, 0, none⟩) n n (someP at_ l n 0) := by
  have hml : (1024 : Nat) ≤ maxLen := by decide
  refine ⟨(madeCells #[.int .i64 0, .slice none 0 0] (n * 2)).toList, ⟨by simp [size_madeCells], .inr ⟨w.heap.size, n, madeCells #[.int .i64 0, .slice none 0 0] (n * 2), rfl, Nat.le_refl _, heap_alloc_new w _, Nat.le_refl _, by omega, size_madeCells _ _, ?_⟩⟩, someP_len _ _ n 0, ?_, fun i hi => ?_⟩
  · rw [List.take_of_length_le (by simp [size_madeCells])]
  · intro s hs
    unfold someP at hs
    obtain ⟨i, hi, rfl⟩ := List.mem_map.1 hs
    simp
  · rw [someP_at hi, if_neg (by omega)]
    refine ⟨none, 0, 0, ?_, ?_, OwnTxt.nil _ _⟩
    · simp [madeCells, show i * 2 + 1 < n * 2 by omega, Nat.mul_add_mod_self_right]
    · simp [madeCells, show i * 2 < n * 2 by omega]

end Go.Proofs.Ytiibmlbenamgcaa

namespace Go.Proofs.Ytiibmlbenamgcaa
open Go.RowKit
set_option linter.unusedVariables false

/-- What Plan answers: its error, and the writes. -/
def cpE (S : List Sec) (C : List Pnd) (at_ wd : Int) (b : Txt) : Int :=
  if cellE S C at_ wd = 0 then (if 24 * wd < (b.length : Int) then 4 else if busyTo S C at_ (2 * wd.toNat) = true then 60 else if countTo (optsOf S C at_ (2 * wd.toNat)) (2 * wd.toNat) = 4294967295 then 9 else 0) else cellE S C at_ wd
def cpT (S : List Sec) (C : List Pnd) (at_ wd : Int) (b : Txt) : List Txt := textsOf (countTo (optsOf S C at_ (2 * wd.toNat)) (2 * wd.toNat) + 1) b wd.toNat
def cpL (S : List Sec) (C : List Pnd) (at_ wd : Int) (b : Txt) : List Pnd :=
  if cpE S C at_ wd b = 0 then writesP (at_ + hF wd.toNat (optsOf S C at_ (2 * wd.toNat)) * wd) (cpT S C at_ wd b) wd.toNat else []
def PlanOut (w : World) (L : List Pnd) (E : Int) (e : Ending) (w' : World) : Prop :=
  ∃ A c, e = .returned (.tuple #[.slice A L.length c, .int .i64 E]) ∧ OwnPnds w' w.heap.size A L.length c L ∧ Below w.heap.size w w'
theorem PlanOut.none (w : World) (L : List Pnd) (E : Int) (w' : World) (hL : L = []) (hb : Below w.heap.size w w') : PlanOut w L E (.returned (.tuple #[.slice none 0 0, .int .i64 E])) w' := by
  subst hL
  exact ⟨Option.none, 0, rfl, OwnPnds.nil _ _, hb⟩
theorem hF_two (m : Nat) (l : List (Option Txt)) : hF m l = 0 ∨ hF m l = 1 := by
  unfold hF
  split
  · exact .inl rfl
  · exact .inr rfl
theorem textsOf_byte {v : Int} {b : Txt} {m : Nat} (hb : ∀ z ∈ b, isByte z) : ∀ t ∈ textsOf v b m, ∀ z ∈ t, isByte z := by
  intro t ht z hz
  unfold textsOf at ht
  obtain ⟨k, _, rfl⟩ := List.mem_map.1 ht
  exact partT_byte _ _ (fun y hy => hb y (List.mem_of_mem_drop (List.mem_of_mem_take hy))) z hz

end Go.Proofs.Ytiibmlbenamgcaa

namespace Go.Proofs.Ytiibmlbenamgcaa
open Go.RowKit
set_option linter.unusedVariables false

/-- What Write answers. -/
def cwE (S : List Sec) (C : List Pnd) (at_ wd : Int) (b : Txt) : Int := if cpE S C at_ wd b = 0 then (if 64 < C.length + (cpL S C at_ wd b).length then 9 else 0) else cpE S C at_ wd b
def cwS (S : List Sec) (C : List Pnd) (at_ wd : Int) (b : Txt) : List Sec := if cwE S C at_ wd b = 0 then S else []
def cwC (S : List Sec) (C : List Pnd) (at_ wd : Int) (b : Txt) : List Pnd := if cwE S C at_ wd b = 0 then C ++ cpL S C at_ wd b else []
theorem cpE_zero {S : List Sec} {C : List Pnd} {at_ wd : Int} {b : Txt} (h : cpE S C at_ wd b = 0) : cellE S C at_ wd = 0 ∧ (b.length : Int) ≤ 24 * wd ∧ busyTo S C at_ (2 * wd.toNat) = false ∧ countTo (optsOf S C at_ (2 * wd.toNat)) (2 * wd.toNat) ≠ 4294967295 := by
  unfold cpE at h
  split at h
  · rename_i h1
    split at h
    · cases h
    · rename_i h2
      split at h
      · cases h
      · rename_i h3
        split at h
        · cases h
        · rename_i h4
          exact ⟨h1, by omega, by simpa using h3, h4⟩
  · rename_i h1; exact absurd h h1
/-- The writes that Plan tells: how many, and that each may be. -/
theorem cpL_good {S : List Sec} {C : List Pnd} {at_ wd : Int} {b : Txt} (h : cpE S C at_ wd b = 0) (hb : ∀ z ∈ b, isByte z) : (cpL S C at_ wd b).length = wd.toNat ∧ 1 ≤ wd.toNat ∧ wd.toNat ≤ 4 ∧ mayD S C = true ∧
    ∀ p ∈ cpL S C at_ wd b, (0 ≤ p.1 ∧ p.1 < (S.length : Int) ∧ p.2.length = 32) ∧ ∀ z ∈ p.2, isByte z := by
  obtain ⟨hE, h24, _, _⟩ := cpE_zero h
  obtain ⟨hm, a, m, rfl, rfl, hm1, hm4, han⟩ := cellE_zero hE
  have hL : cpL S C a m b = writesP ((a : Int) + hF m (optsOf S C a (2 * m)) * (m : Int)) (cpT S C a m b) m := by unfold cpL; rw [if_pos h, Int.toNat_natCast]
  rw [hL, Int.toNat_natCast]
  refine ⟨someP_len _ _ _ _, hm1, hm4, hm, fun p hp => ?_⟩
  unfold writesP someP at hp
  obtain ⟨i, hi, rfl⟩ := List.mem_map.1 hp
  have hi := List.mem_range.1 hi
  rw [if_pos hi]
  have hT : (cpT S C a m b).getD i [] = partT (countTo (optsOf S C a (2 * m)) (2 * m) + 1) i (chunk b i) := by
    unfold cpT
    rw [Int.toNat_natCast]
    exact textsOf_get _ _ hi
  dsimp only
  rw [hT]
  have hf := hF_two m (optsOf S C a (2 * m))
  refine ⟨⟨?_, ?_, partT_length _ _ (by unfold chunk; rw [List.length_take]; omega)⟩, partT_byte _ _ (fun y hy => hb y (List.mem_of_mem_drop (List.mem_of_mem_take hy)))⟩
  · rcases hf with h | h <;> rw [h] <;> omega
  · rcases hf with h | h <;> rw [h] <;> omega
theorem may_more {S : List Sec} {C L : List Pnd} (hm : mayD S C = true) (hL : ∀ p ∈ L, (0 ≤ p.1 ∧ p.1 < (S.length : Int) ∧ p.2.length = 32) ∧ ∀ z ∈ p.2, isByte z) {k : Nat} (hk : k ≤ L.length) (h64 : C.length + k ≤ 64) : mayD S (C ++ L.take k) = true := by
  have h := (mayD_iff _ _).1 hm
  rw [mayD_iff]
  refine ⟨⟨h.1.1, h.1.2.1, by rw [List.length_append, List.length_take]; omega⟩, h.2.1, fun p hp => ?_⟩
  rcases List.mem_append.1 hp with hp | hp
  · exact h.2.2 p hp
  · exact (hL p (List.mem_of_mem_take hp)).1
theorem wr_next {S : List Sec} {C L : List Pnd} (hm : mayD S C = true) (hL : ∀ p ∈ L, (0 ≤ p.1 ∧ p.1 < (S.length : Int) ∧ p.2.length = 32) ∧ ∀ z ∈ p.2, isByte z) {k : Nat} (hk : k < L.length) (h64 : C.length + k ≤ 64) :
    wrE S (C ++ L.take k) (L.getD k (0, [])).1 (L.getD k (0, [])).2 = (if 64 ≤ C.length + k then 9 else 0) := by
  have hmm := may_more hm hL (Nat.le_of_lt hk) h64
  have hp := (hL (L.getD k (0, [])) (by rw [List.getD_eq_getElem?_getD, List.getElem?_eq_getElem hk]; exact List.getElem_mem hk)).1
  have ha : askE S (C ++ L.take k) (L.getD k (0, [])).1 = 0 := by rw [ask_may hmm, if_neg (by omega)]
  have hl : (C ++ L.take k).length = C.length + k := by rw [List.length_append, List.length_take]; omega
  unfold wrE
  rw [if_pos ha, if_pos hp.2.2, hl]
theorem wr_nextS {S : List Sec} {C L : List Pnd} {k : Nat} (hk : k < L.length) (h : wrE S (C ++ L.take k) (L.getD k (0, [])).1 (L.getD k (0, [])).2 = 0) : wrS S (C ++ L.take k) (L.getD k (0, [])).1 (L.getD k (0, [])).2 = S ∧ wrC S (C ++ L.take k) (L.getD k (0, [])).1 (L.getD k (0, [])).2 = C ++ L.take (k + 1) := by
  refine ⟨if_pos h, (if_pos h).trans ?_⟩
  rw [take_snoc hk ((0, []) : Pnd), List.append_assoc]
theorem small_more {S : List Sec} {C L : List Pnd} (hs : SmallD S C) (hL : ∀ p ∈ L, (0 ≤ p.1 ∧ p.1 < (S.length : Int) ∧ p.2.length = 32) ∧ ∀ z ∈ p.2, isByte z) {k : Nat} (h64 : C.length + k ≤ 64) : SmallD S (C ++ L.take k) :=
  ⟨hs.secs, by rw [List.length_append, List.length_take]; omega, hs.long, fun p hp => by
    rcases List.mem_append.1 hp with hp | hp
    · exact hs.wide p hp
    · have := (hL p (List.mem_of_mem_take hp)).1.2.2
      omega⟩

theorem DiskOut.as {w : World} {S S' : List Sec} {C C' : List Pnd} {E E' : Int} {e : Ending} {w' : World} (x : DiskOut w S C E e w') {n n' : Nat} (hS : S = S') (hC : C = C') (hE : E = E') (hn : S'.length = n) (hn' : C'.length = n') :
    ∃ A c A' c', e = .returned (.tuple #[diskV A n c A' n' c', .int .i64 E']) ∧ OwnDsk w' w.heap.size A n c A' n' c' S' C' ∧ Below w.heap.size w w' := by
  subst hS; subst hC; subst hE; subst hn; subst hn'; exact x

end Go.Proofs.Ytiibmlbenamgcaa
