/- Texts of bytes as strings: different bytes read as different strings. Nothing of the program. -/
/- Bytes of the call's own that lie anywhere in a block of bytes. No statement is proved here. -/
/- Rows of elements of two cells, of the call's own. No statement is proved here. -/
/- Layer 5: disks as lists. Nothing of the program. -/
/- Layer 5: rows of sectors: read, and of the call's own. No statement is proved here. -/
/- Layer 5: rows of writes that wait: read, and of the call's own. No statement is proved here. -/
/- Layer 5: a disk as a value: what a law's frame hands over, and its boxes. No statement is proved here. -/
import Derived.Test.YtibegaoegpanpaaBase3
import Derived.Lib.Bytes
import Derived.Test.YtibegaoegpanpaaCopy
import Derived.Deep.Matrix
import Derived.Lib.SmallJoins
import Derived.Test.YtibegaoegpanpaaByteMath
import Derived.Deep.SlicePairs
namespace Go.Proofs.Ytibegaoegpanpaa
open Go.RowKit
set_option linter.unusedVariables false

theorem bytes_inj : ∀ (x y : List Int), (∀ z ∈ x, isByte z) → (∀ z ∈ y, isByte z) → (x.map fun n => UInt8.ofNat n.toNat) = (y.map fun n => UInt8.ofNat n.toNat) → x = y := by
  intro x
  induction x with
  | nil => intro y _ _ h; cases y with
    | nil => rfl
    | cons b y => cases h
  | cons a x ih =>
    intro y hx hy h
    cases y with
    | nil => cases h
    | cons b y =>
      simp only [List.map_cons, List.cons.injEq] at h
      have ha := hx a (by simp)
      have hb := hy b (by simp)
      unfold isByte at ha hb
      have e : (UInt8.ofNat a.toNat).toNat = (UInt8.ofNat b.toNat).toNat := by rw [h.1]
      rw [UInt8.toNat_ofNat', UInt8.toNat_ofNat'] at e
      have e2 : a = b := by omega
      rw [e2, ih y (fun z hz => hx z (by simp [hz])) (fun z hz => hy z (by simp [hz])) h.2]
/-- The test of two texts that are read as strings. -/
theorem strs_eq {x y : List Int} (hx : ∀ z ∈ x, isByte z) (hy : ∀ z ∈ y, isByte z) : ((strOfNums x).toList == (strOfNums y).toList) = decide (x = y) := by
  by_cases h : x = y
  · subst h; simp
  · rw [decide_eq_false h, beq_eq_false_iff_ne]
    intro e
    rw [Lib.toList_data, Lib.toList_data, strOfNums_data, strOfNums_data] at e
    exact h (bytes_inj x y hx hy e)

end Go.Proofs.Ytibegaoegpanpaa

namespace Go.Proofs.Ytibegaoegpanpaa
open Go.RowKit Go.OpenShut
set_option linter.unusedVariables false

/-- A row stays where its block does. -/
theorem owns_keep {w w' : World} {base : Nat} {e : TypeId} {s : Nat} {v : Value} {n : Nat} {xs : List Value} (h : w.ownsRow base e s v n xs) (hk : ∀ (g : Nat) (cs : Array Value), base ≤ g → w.heap[g]? = some (.cells cs e (0, 0)) → w'.heap[g]? = w.heap[g]?) : w'.ownsRow base e s v n xs := by
  refine ⟨h.1, ?_⟩
  rcases h.2 with h2 | ⟨g, cap, cur, hv, hb, hg, r⟩
  · exact .inl h2
  · exact .inr ⟨g, cap, cur, hv, hb, (hk g cur hb hg).trans hg, r⟩
/-- A block of bytes, none frozen. -/
def U8 (w : World) (g : Nat) : Prop := ∃ cs, w.heap[g]? = some (.cells cs 5 (0, 0))
theorem U8.lt {w : World} {g : Nat} (h : U8 w g) : g < w.heap.size := by
  obtain ⟨cs, hc⟩ := h
  exact (Array.getElem?_eq_some_iff.1 hc).1
theorem u8_row {w : World} {g b : Nat} {e : TypeId} {s : Nat} {v : Value} {n : Nat} {xs : List Value} (he : 5 ≠ e) (h : U8 w g) (hr : w.ownsRow b e s v n xs) : v.ownBlock ≠ some g := fun e2 => by
  obtain ⟨cs, hc⟩ := h
  rcases hr.2 with ⟨rfl, _⟩ | ⟨g2, cap, cur, rfl, _, hg2, _⟩
  · simp [Value.ownBlock] at e2
  · have e3 : g2 = g := by simpa [Value.ownBlock] using e2
    subst e3
    rw [hg2] at hc
    simp at hc
    exact he hc.2.symm
theorem u8_blk {w : World} {g : Nat} {t : TypeId} {cs : List Value} (he : t ≠ 5) (h : U8 w g) (hb : Blk w g t cs) : False := by
  obtain ⟨cs', hc⟩ := h
  unfold Blk at hb
  rw [hb] at hc
  simp at hc
  exact he hc.2
theorem U8.set {w : World} {g g' k : Nat} {u : Value} (h : U8 w g) : U8 (w.setCell ⟨g', k, none⟩ u) g := by
  obtain ⟨cs, hc⟩ := h
  by_cases e : g = g'
  · subst e
    exact ⟨cs.setIfInBounds k u, by simp [World.setCell, Array.getElem?_modify, hc]⟩
  · exact ⟨cs, (Below.heap_setCell w _ u g e).trans hc⟩
theorem U8.of_owns {w : World} {base g n c : Nat} {o : Nat} {xs : List Value} (h : w.ownsRow base 5 1 (.slice (some ⟨g, o, none⟩) n c) n xs) : U8 w g := by
  rcases h.2 with ⟨e, h0⟩ | ⟨g', cap, cur, e, hb, hg, _⟩ <;> cases e
  exact ⟨cur, hg⟩

/-- A row of bytes in a block of the call's own, wherever it lies there. -/
def OwnTxt (w : World) (base : Nat) (A : Option Addr) (n c : Nat) (zs : List Int) : Prop :=
  zs.length = n ∧ n ≤ c ∧ c ≤ maxLen ∧ (n = 0 ∨ ∃ g o cs, A = some ⟨g, o, none⟩ ∧ base ≤ g ∧ w.heap[g]? = some (.cells cs 5 (0, 0)) ∧ ∀ j, j < n → cs[o + j]? = some (.int .u8 (zs.getD j 0)))
section
variable {w w' : World} {base base' : Nat} {A : Option Addr} {n c : Nat} {zs : List Int}
theorem OwnTxt.of (h : w.ownsRow base 5 1 (.slice A n c) n (ints .u8 zs)) : OwnTxt w base A n c zs := by
  have ha := Arg.own h
  refine ⟨ha.len, ha.cap, ha.max, ?_⟩
  rcases h.2 with ⟨e, h0⟩ | ⟨g, cap, cur, e, hb, hg, h1, h2, h3, h4⟩
  · exact .inl h0
  · cases e
    refine .inr ⟨g, 0, cur, rfl, hb, hg, fun j hj => ?_⟩
    have e2 := ints_getD .u8 zs j (by have := ha.len; omega)
    rw [← h4, List.getElem?_take, if_pos (by omega)] at e2
    simpa using e2
theorem OwnTxt.nil (w : World) (base : Nat) : OwnTxt w base none 0 0 [] := ⟨rfl, Nat.le_refl _, by decide, .inl rfl⟩
theorem OwnTxt.at_ (h : OwnTxt w base A n c zs) {j : Nat} (hj : j < n) : ∃ g o, A = some ⟨g, o, none⟩ ∧ base ≤ g ∧ U8 w g ∧ w.cell? ⟨g, o + j, none⟩ = some (.int .u8 (zs.getD j 0)) ∧ w.frozen? ⟨g, o + j, none⟩ = false := by
  obtain ⟨_, _, _, h0 | ⟨g, o, cs, e, hb, hg, hc⟩⟩ := h
  · omega
  · refine ⟨g, o, e, hb, ⟨cs, hg⟩, ?_, ?_⟩
    · have := cell_of_row w g (o + j) cs 5 (0, 0) hg
      rw [this]
      exact hc j hj
    · simp [World.frozen?, hg]
theorem OwnTxt.arg (h : OwnTxt w base A n c zs) : Arg w .u8 A n c zs := by
  refine ⟨fun j v hv => ?_, h.1, h.2.1, h.2.2.1⟩
  have hj : j < zs.length := by
    rcases Nat.lt_or_ge j zs.length with hj | hj
    · exact hj
    · rw [List.getElem?_eq_none (by rw [ints_length]; exact hj)] at hv; cases hv
  rw [ints_getD .u8 zs j hj] at hv
  injection hv with hv
  subst hv
  obtain ⟨g, o, e, hb, hu, hc, _⟩ := h.at_ (j := j) (by have := h.1; omega)
  exact ⟨g, o, e, hu.lt, hc⟩
theorem OwnTxt.keep (h : OwnTxt w base A n c zs) (hk : ∀ g, base ≤ g → U8 w g → w'.heap[g]? = w.heap[g]?) : OwnTxt w' base A n c zs := by
  obtain ⟨h1, h2, h3, h4⟩ := h
  refine ⟨h1, h2, h3, ?_⟩
  rcases h4 with h0 | ⟨g, o, cs, e, hb, hg, hc⟩
  · exact .inl h0
  · exact .inr ⟨g, o, cs, e, hb, (hk g hb ⟨cs, hg⟩).trans hg, hc⟩
theorem OwnTxt.below (h : OwnTxt w base A n c zs) (hb : Below w.heap.size w w') : OwnTxt w' base A n c zs := h.keep fun g _ hu => hb.block g hu.lt
theorem OwnTxt.lower (h : OwnTxt w base A n c zs) (hb : base' ≤ base) : OwnTxt w base' A n c zs := by
  obtain ⟨h1, h2, h3, h4⟩ := h
  refine ⟨h1, h2, h3, ?_⟩
  rcases h4 with h0 | ⟨g, o, cs, e, hg, r⟩
  · exact .inl h0
  · exact .inr ⟨g, o, cs, e, Nat.le_trans hb hg, r⟩
theorem OwnTxt.allocated (h : OwnTxt w base A n c zs) (o : Obj) : OwnTxt (w.alloc o) base A n c zs := h.below ((Below.refl _ _).alloc (Nat.le_refl _) o)
end
/-- What is left of a row of bytes where one byte of a block is written over. -/
def touchL (A : Option Addr) (g k : Nat) (z : Int) (zs : List Int) : List Int :=
  match A with
  | some a => if a.block = g ∧ a.off ≤ k then zs.set (k - a.off) z else zs
  | none => zs
theorem touchL_len (A : Option Addr) (g k : Nat) (z : Int) (zs : List Int) : (touchL A g k z zs).length = zs.length := by
  unfold touchL
  split
  · split
    · rw [List.length_set]
    · rfl
  · rfl
theorem touchL_byte (A : Option Addr) (g k : Nat) {z : Int} (hz : isByte z) {zs : List Int} (h : ∀ y ∈ zs, isByte y) : ∀ y ∈ touchL A g k z zs, isByte y := by
  unfold touchL
  split
  · split
    · intro y hy
      rcases List.mem_or_eq_of_mem_set hy with hy | rfl
      · exact h y hy
      · exact hz
    · exact h
  · exact h
theorem OwnTxt.touch {w : World} {base g k : Nat} {A : Option Addr} {n c : Nat} {zs : List Int} (h : OwnTxt w base A n c zs) (z : Int) : OwnTxt (w.setCell ⟨g, k, none⟩ (.int .u8 z)) base A n c (touchL A g k z zs) := by
  obtain ⟨h1, h2, h3, h4⟩ := h
  refine ⟨(touchL_len ..).trans h1, h2, h3, ?_⟩
  rcases h4 with h0 | ⟨g', o, cs, rfl, hb, hg, hc⟩
  · exact .inl h0
  · refine .inr ?_
    by_cases e : g' = g
    · subst e
      refine ⟨g', o, cs.setIfInBounds k (.int .u8 z), rfl, hb, by simp [World.setCell, Array.getElem?_modify, hg], fun j hj => ?_⟩
      have hcj := hc j hj
      by_cases ek : k = o + j
      · subst ek
        have hlt : o + j < cs.size := (Array.getElem?_eq_some_iff.1 hcj).1
        simp [touchL, hlt, h1, hj]
      · rw [Array.getElem?_setIfInBounds_ne ek, hcj]
        unfold touchL
        dsimp only
        by_cases ho : o ≤ k
        · rw [if_pos ⟨rfl, ho⟩, List.getD_eq_getElem?_getD, List.getD_eq_getElem?_getD, List.getElem?_set_ne (by omega)]
        · rw [if_neg (fun h => ho h.2)]
    · refine ⟨g', o, cs, rfl, hb, (Below.heap_setCell w _ _ g' e).trans hg, fun j hj => ?_⟩
      unfold touchL
      dsimp only
      rw [if_neg (fun h => e h.1)]
      exact hc j hj

end Go.Proofs.Ytibegaoegpanpaa

namespace Go.Proofs.Ytibegaoegpanpaa
open Go.RowKit Go.OpenShut Go.ChangeShapes Go.WideShapes Go.Deep
set_option linter.unusedVariables false

/-- A cell of a row of the call's own. -/
theorem owns_cell {w : World} {base : Nat} {e : TypeId} {s : Nat} {A : Option Addr} {n c j : Nat} {xs : List Value} {v : Value} (h : w.ownsRow base e s (.slice A n c) n xs) (hj : xs[j]? = some v) :
    ∃ g, A = some ⟨g, 0, none⟩ ∧ g < w.heap.size ∧ w.cell? ⟨g, j, none⟩ = some v := by
  have hl := h.1
  have hjl := (List.getElem?_eq_some_iff.1 hj).1
  rcases h.2 with ⟨e, h0⟩ | ⟨g, cap, cur, hv, hb, hg, _⟩
  · rw [h0, Nat.zero_mul] at hl; omega
  · cases hv
    exact ⟨g, rfl, (Array.getElem?_eq_some_iff.1 hg).1, (h.cellAt j (by rw [← hl]; exact hjl)).trans hj⟩
theorem owns_at2 {w : World} {base : Nat} {e : TypeId} {A : Option Addr} {n c k : Nat} {xs : List Value} (h : w.ownsRow base e 2 (.slice A n c) n xs) (hk : k < n * 2) :
    ∃ g v, A = some ⟨g, 0, none⟩ ∧ base ≤ g ∧ w.cell? ⟨g, k, none⟩ = some v ∧ w.frozen? ⟨g, k, none⟩ = false ∧ ∀ u, (w.setCell ⟨g, k, none⟩ u).ownsRow base e 2 (.slice A n c) n (xs.set k u) := by
  have hl := h.1
  rcases h.2 with ⟨_, h0⟩ | ⟨g, cap, cur, hv, hb, _⟩
  · omega
  · cases hv
    have hkl : k < xs.length := by omega
    exact ⟨g, xs[k], rfl, hb, by rw [h.cellAt k (by omega), List.getElem?_eq_getElem hkl], h.frozenAt k, fun u => (h.stored k u).1⟩
theorem owns_other2 {w : World} {e e' : TypeId} (he : e ≠ e') {b b' : Nat} {v v' : Value} {k k' s s' : Nat} {xs xs' : List Value} (h : w.ownsRow b e s v k xs) (h' : w.ownsRow b' e' s' v' k' xs') : v.ownBlock = none ∨ v.ownBlock ≠ v'.ownBlock := by
  rcases h.2 with ⟨rfl, _⟩ | ⟨g, cap, cur, rfl, _, hg, _⟩
  · exact .inl rfl
  rcases h'.2 with ⟨rfl, _⟩ | ⟨g', cap', cur', rfl, _, hg', _⟩
  · exact .inr (by simp [Value.ownBlock])
  · refine .inr fun e2 => ?_
    have e3 : g = g' := by simpa [Value.ownBlock] using e2
    rw [e3, hg'] at hg
    simp at hg
    exact he hg.2.symm
theorem owns_under {w w' : World} {base : Nat} {e : TypeId} {s : Nat} {v : Value} {k : Nat} {xs : List Value} (hx : w.ownsRow base e s v k xs) {row : Option Nat} (hg : w.grownBy w' row) (hr : ∀ g, row = some g → g < base) : w'.ownsRow base e s v k xs := hx.kept hg (by
  rcases hy : v.ownBlock with _ | gc
  · exact .inl rfl
  · refine .inr (fun e2 => ?_)
    have h1 := (hx.lt gc hy).1
    have h2 := hr gc e2.symm
    omega)
theorem owns_other_box {w : World} {e t : TypeId} {base g s : Nat} {v : Value} {k : Nat} {xs cs : List Value} (h : w.ownsRow base e s v k xs) (hb : Blk w g t cs) (ht : t ≠ e) (i : Nat) (u : Value) : (w.setCell ⟨g, i, none⟩ u).ownsRow base e s v k xs := by
  refine h.kept (grownBy_set w g i u) ?_
  rcases h.2 with ⟨rfl, _⟩ | ⟨g', cap, cur, rfl, _, hg, _⟩
  · exact .inl rfl
  · refine .inr fun e2 => ?_
    have e3 : g' = g := by simpa [Value.ownBlock] using e2
    unfold Blk at hb
    rw [e3, hb] at hg
    simp at hg
    exact ht hg.2
theorem ownsRow_some {W : World} {base : Nat} {e : TypeId} {size : Nat} {v : Value} {k : Nat} {xs : List Value} (h : W.ownsRow base e size v (k + 1) xs) : ∃ g cap, v = .slice (some ⟨g, 0, none⟩) (k + 1) cap := by
  rcases h.2 with ⟨_, h0⟩ | ⟨g, cap, _, rfl, _⟩
  · omega
  · exact ⟨g, cap, rfl⟩
/-- append(out, a literal of one element of two cells). -/
theorem run_app2 {P : Program} (w : World) (base : Nat) (t ty e : TypeId) (i : TypeInfo) (z : Value) (bytes : Nat) (ht : P.underlying t = some (.slice e)) (hi : P.info? e = some i) (hz : i.zero = some z)
    (hsize : i.size = 2) (hby : i.bytes = bytes) (hzs : z.cells.size = 2) (v : Value) (n : Nat) (xs : List Value) (hown : w.ownsRow base e 2 v n xs)
    (b : Nat) (x y : Value) (hlit : Blk w b e [x, y]) (h1 : x.oneCell' = true) (h2 : y.oneCell' = true)
    (h63 : n + 1 ≤ maxLen) (hbytes : (n + 1) * bytes ≤ 140737488355328) (hbase : base ≤ w.heap.size) :
    ∃ v' w', (Builtin.append_ #[t, t] ty #[v, .slice (some ⟨b, 0, none⟩) 1 1]).run P w = .ok v' w' ∧ w'.ownsRow base e 2 v' (n + 1) (xs ++ [x, y]) ∧ w.grownBy w' v.ownBlock ∧ (v'.ownBlock = v.ownBlock ∨ v'.ownBlock = some w.heap.size) := by
  have hcs : ∀ j u, [x, y][j]? = some u → w.cell? ((⟨b, 0, none⟩ : Addr).add j) = some u := by
    intro j u hu
    have e2 : (⟨b, 0, none⟩ : Addr).add j = ⟨b, 0 + j, none⟩ := by unfold Addr.add; split <;> simp_all
    rw [e2, Nat.zero_add, hlit.cell j]
    exact hu
  obtain ⟨v', w', h, r2, r3, _, r5⟩ := run_append_own_at (P := P) w base t ty e i z 2 bytes ht hi hz hsize hby hzs (by omega) v n xs hown ⟨b, 0, none⟩ 1 1 [x, y] rfl hcs (by intro u hu; simp at hu; rcases hu with rfl | rfl <;> assumption) h63 hbytes hbase
  exact ⟨v', w', h, r2, r3, r5⟩

end Go.Proofs.Ytibegaoegpanpaa

namespace Go.Proofs.Ytibegaoegpanpaa

abbrev Txt := List Int
/-- A sector: is it bad, and its bytes. -/
abbrev Sec := Bool × Txt
/-- A write that waits: of which sector, and its bytes. -/
abbrev Pnd := Int × Txt
def noughts : Txt := List.replicate 32 0
def secOk (s : Sec) : Bool := decide (s.2.length = 32) && (!s.1 || s.2.all (fun z => decide (z = 0)))
def pndOk (n : Nat) (p : Pnd) : Bool := decide (0 ≤ p.1) && decide (p.1 < (n : Int)) && decide (p.2.length = 32)
/-- A disk may be. -/
def mayD (S : List Sec) (C : List Pnd) : Bool := decide (1 ≤ S.length) && decide (S.length ≤ 1024) && decide (C.length ≤ 64) && S.all secOk && C.all (pndOk S.length)
def chkD (S : List Sec) (C : List Pnd) : Int := if mayD S C then 0 else 8
def askE (S : List Sec) (C : List Pnd) (at_ : Int) : Int := if mayD S C then (if at_ < 0 ∨ (S.length : Int) ≤ at_ then 2 else 0) else 8
def wrE (S : List Sec) (C : List Pnd) (at_ : Int) (b : Txt) : Int := if askE S C at_ = 0 then (if b.length = 32 then (if 64 ≤ C.length then 9 else 0) else 2) else askE S C at_
def wrS (S : List Sec) (C : List Pnd) (at_ : Int) (b : Txt) : List Sec := if wrE S C at_ b = 0 then S else []
def wrC (S : List Sec) (C : List Pnd) (at_ : Int) (b : Txt) : List Pnd := if wrE S C at_ b = 0 then C ++ [(at_, b)] else []
/-- Is a write of a sector there? -/
def pendB (C : List Pnd) (at_ : Int) : Bool := C.any fun p => decide (p.1 = at_)
/-- The last write of a sector. -/
def lastW (C : List Pnd) (at_ : Int) : Option Txt := (C.reverse.find? fun p => decide (p.1 = at_)).map (·.2)
def secAt (S : List Sec) (at_ : Int) : Sec := S.getD at_.toNat (false, [])
def gotB (S : List Sec) (C : List Pnd) (at_ : Int) : Txt := (lastW C at_).getD (secAt S at_).2
def gotOk (S : List Sec) (C : List Pnd) (at_ : Int) : Bool := (lastW C at_).isSome || !(secAt S at_).1
def rdE (S : List Sec) (C : List Pnd) (at_ : Int) : Int := if askE S C at_ = 0 then (if gotOk S C at_ then 0 else 50) else askE S C at_
def rdB (S : List Sec) (C : List Pnd) (at_ : Int) : Txt := if rdE S C at_ = 0 then gotB S C at_ else []
def waB (S : List Sec) (C : List Pnd) (at_ : Int) : Bool := if askE S C at_ = 0 then pendB C at_ else false
/-- One write, by its fate. -/
def byFate (S : List Sec) (p : Pnd) (f : Int) : List Sec := if f % 3 = 1 then S.set p.1.toNat (false, p.2) else if f % 3 = 2 then S.set p.1.toNat (true, noughts) else S
/-- The first k writes of the cache, by their fates. -/
def behindK (S : List Sec) (C : List Pnd) (F : List Int) : Nat → List Sec
  | 0 => S
  | k + 1 => byFate (behindK S C F k) (C.getD k (0, [])) (F.getD k 0)
def behindS (S : List Sec) (C : List Pnd) (F : List Int) : List Sec := behindK S C F (min C.length F.length)
def crS (S : List Sec) (C : List Pnd) (F : List Int) : List Sec := if mayD S C then behindS S C F else []
def flS (S : List Sec) (C : List Pnd) : List Sec := crS S C (List.replicate C.length 1)
def newE (m : Int) : Int := if 1 ≤ m ∧ m ≤ 1024 then 0 else 2
def newS (m : Int) : List Sec := if newE m = 0 then List.replicate m.toNat (false, noughts) else []
def sameD (S : List Sec) (C : List Pnd) (S' : List Sec) (C' : List Pnd) : Bool := decide (S = S' ∧ C = C')
/-- More than statements go through. -/
def greatD (S : List Sec) (C : List Pnd) (m : Int) : Bool := (S.take m.toNat).any (fun s => decide (100 < s.2.length)) || (C.take 100).any (fun p => decide (100 < p.2.length)) || decide (m < (S.length : Int)) || decide (100 < C.length)
structure SmallD (S : List Sec) (C : List Pnd) : Prop where
  secs : S.length ≤ 300
  pnds : C.length ≤ 100
  long : ∀ s ∈ S, s.2.length ≤ 100
  wide : ∀ p ∈ C, p.2.length ≤ 100
theorem SmallD.nil : SmallD [] [] := ⟨by simp, by simp, by simp, by simp⟩
theorem small_ofD {S : List Sec} {C : List Pnd} {m : Int} (hm0 : 0 ≤ m) (hm : m ≤ 300) (h : greatD S C m = false) : SmallD S C := by
  unfold greatD at h
  simp only [Bool.or_eq_false_iff, decide_eq_false_iff_not, List.any_eq_false, decide_eq_true_iff] at h
  obtain ⟨⟨⟨h1, h2⟩, h3⟩, h4⟩ := h
  refine ⟨by omega, by omega, fun s hs => ?_, fun p hp => ?_⟩
  · have := h1 s (by rw [List.take_of_length_le (by omega)]; exact hs)
    omega
  · have := h2 p (by rw [List.take_of_length_le (by omega)]; exact hp)
    omega
theorem mayD_iff (S : List Sec) (C : List Pnd) : mayD S C = true ↔ (1 ≤ S.length ∧ S.length ≤ 1024 ∧ C.length ≤ 64) ∧ (∀ s ∈ S, s.2.length = 32 ∧ (s.1 = true → ∀ z ∈ s.2, z = 0)) ∧ ∀ p ∈ C, 0 ≤ p.1 ∧ p.1 < (S.length : Int) ∧ p.2.length = 32 := by
  unfold mayD secOk pndOk
  simp only [Bool.and_eq_true, decide_eq_true_iff, List.all_eq_true, Bool.or_eq_true, Bool.not_eq_true']
  constructor
  · rintro ⟨⟨⟨⟨h1, h2⟩, h3⟩, h4⟩, h5⟩
    refine ⟨⟨h1, h2, h3⟩, fun s hs => ⟨(h4 s hs).1, fun hb => ?_⟩, fun p hp => ?_⟩
    · rcases (h4 s hs).2 with h | h
      · rw [hb] at h; cases h
      · exact h
    · obtain ⟨⟨a, b⟩, c⟩ := h5 p hp
      exact ⟨a, b, c⟩
  · rintro ⟨⟨h1, h2, h3⟩, h4, h5⟩
    refine ⟨⟨⟨⟨h1, h2⟩, h3⟩, fun s hs => ⟨(h4 s hs).1, ?_⟩⟩, fun p hp => ?_⟩
    · cases hb : s.1 with
      | true => exact .inr ((h4 s hs).2 hb)
      | false => exact .inl rfl
    · obtain ⟨a, b, c⟩ := h5 p hp
      exact ⟨⟨a, b⟩, c⟩

end Go.Proofs.Ytibegaoegpanpaa

namespace Go.Proofs.Ytibegaoegpanpaa
open Go.RowKit Go.OpenShut Go.ChangeShapes Go.WideShapes Go.Deep
set_option linter.unusedVariables false

/-- Rows of sectors, as they are read. -/
structure Secs (w : World) (A : Option Addr) (n c : Nat) (ss : List Sec) : Prop where
  len : ss.length = n
  cap : n ≤ c
  max : c ≤ maxLen
  byte : ∀ s ∈ ss, ∀ z ∈ s.2, isByte z
  at_ : ∀ i, i < n → ∃ b o Ai ni ci, A = some ⟨b, o, none⟩ ∧ b < w.heap.size ∧ w.cell? ⟨b, o + i * 2, none⟩ = some (.slice Ai ni ci) ∧ w.cell? ⟨b, o + i * 2 + 1, none⟩ = some (.bool (ss.getD i (false, [])).1) ∧ Arg w .u8 Ai ni ci (ss.getD i (false, [])).2
section
variable {w w' : World} {A : Option Addr} {n c : Nat} {ss : List Sec}
theorem Secs.below (h : Secs w A n c ss) (hb : Below w.heap.size w w') : Secs w' A n c ss :=
  ⟨h.len, h.cap, h.max, h.byte, fun i hi => by
    obtain ⟨b, o, Ai, ni, ci, e, hlt, hc, hx, ha⟩ := h.at_ i hi
    exact ⟨b, o, Ai, ni, ci, e, Nat.lt_of_lt_of_le hlt hb.size, (hb.cell (p := ⟨b, _, none⟩) hlt).trans hc, (hb.cell (p := ⟨b, _, none⟩) hlt).trans hx, ha.below hb⟩⟩
theorem Secs.nil (w : World) : Secs w none 0 0 [] := ⟨rfl, Nat.le_refl _, by decide, by simp, fun i hi => by omega⟩
theorem Secs.byte_at (h : Secs w A n c ss) (i : Nat) : ∀ z ∈ (ss.getD i (false, [])).2, isByte z := by
  rcases Nat.lt_or_ge i ss.length with hi | hi
  · rw [List.getD_eq_getElem?_getD, List.getElem?_eq_getElem hi]
    exact h.byte _ (List.getElem_mem hi)
  · rw [List.getD_eq_getElem?_getD, List.getElem?_eq_none hi]
    simp
end

section
variable {w w' : World} {base base' : Nat} {A : Option Addr} {n c : Nat} {ss : List Sec}
end

end Go.Proofs.Ytibegaoegpanpaa

namespace Go.Proofs.Ytibegaoegpanpaa
open Go.RowKit Go.OpenShut Go.ChangeShapes Go.WideShapes Go.Deep
set_option linter.unusedVariables false

/-- Rows of writes that wait, as they are read. -/
structure Pnds (w : World) (A : Option Addr) (n c : Nat) (ss : List Pnd) : Prop where
  len : ss.length = n
  cap : n ≤ c
  max : c ≤ maxLen
  byte : ∀ s ∈ ss, ∀ z ∈ s.2, isByte z
  at_ : ∀ i, i < n → ∃ b o Ai ni ci, A = some ⟨b, o, none⟩ ∧ b < w.heap.size ∧ w.cell? ⟨b, o + i * 2 + 1, none⟩ = some (.slice Ai ni ci) ∧ w.cell? ⟨b, o + i * 2, none⟩ = some (.int .i64 (ss.getD i (0, [])).1) ∧ Arg w .u8 Ai ni ci (ss.getD i (0, [])).2
section
variable {w w' : World} {A : Option Addr} {n c : Nat} {ss : List Pnd}
theorem Pnds.below (h : Pnds w A n c ss) (hb : Below w.heap.size w w') : Pnds w' A n c ss :=
  ⟨h.len, h.cap, h.max, h.byte, fun i hi => by
    obtain ⟨b, o, Ai, ni, ci, e, hlt, hc, hx, ha⟩ := h.at_ i hi
    exact ⟨b, o, Ai, ni, ci, e, Nat.lt_of_lt_of_le hlt hb.size, (hb.cell (p := ⟨b, _, none⟩) hlt).trans hc, (hb.cell (p := ⟨b, _, none⟩) hlt).trans hx, ha.below hb⟩⟩
theorem Pnds.nil (w : World) : Pnds w none 0 0 [] := ⟨rfl, Nat.le_refl _, by decide, by simp, fun i hi => by omega⟩
theorem Pnds.byte_at (h : Pnds w A n c ss) (i : Nat) : ∀ z ∈ (ss.getD i (0, [])).2, isByte z := by
  rcases Nat.lt_or_ge i ss.length with hi | hi
  · rw [List.getD_eq_getElem?_getD, List.getElem?_eq_getElem hi]
    exact h.byte _ (List.getElem_mem hi)
  · rw [List.getD_eq_getElem?_getD, List.getElem?_eq_none hi]
    simp
end

section
variable {w w' : World} {base base' : Nat} {A : Option Addr} {n c : Nat} {ss : List Pnd}
end

end Go.Proofs.Ytibegaoegpanpaa

namespace Go.Proofs.Ytibegaoegpanpaa
open Go.RowKit Go.OpenShut Go.ChangeShapes Go.WideShapes Go.Deep Go.Joins
set_option linter.unusedVariables false

/-- A disk's value. -/
abbrev diskV (A : Option Addr) (n c : Nat) (A' : Option Addr) (n' c' : Nat) : Value := .agg #[.slice A n c, .slice A' n' c']
/-- A disk, as it is read. -/
structure Dsk (w : World) (A : Option Addr) (n c : Nat) (A' : Option Addr) (n' c' : Nat) (S : List Sec) (C : List Pnd) : Prop where
  secs : Secs w A n c S
  pnds : Pnds w A' n' c' C
section
variable {w w' : World} {base base' : Nat} {A A' : Option Addr} {n c n' c' : Nat} {S : List Sec} {C : List Pnd}
theorem Dsk.below (h : Dsk w A n c A' n' c' S C) (hb : Below w.heap.size w w') : Dsk w' A n c A' n' c' S C := ⟨h.secs.below hb, h.pnds.below hb⟩
end
/-- A block of two cells written whole. -/
theorem Blk.two {w : World} {g : Nat} {t : TypeId} {a b : Value} (h : Blk w g t [a, b]) (x y : Value) : Blk ((w.setCell ⟨g, 0, none⟩ x).setCell ⟨g, 1, none⟩ y) g t [x, y] := (h.set 0 x).set 1 y
theorem below_two {B : Nat} {w0 w : World} (h : Below B w0 w) {g : Nat} (hg : B ≤ g) (x y : Value) : Below B w0 ((w.setCell ⟨g, 0, none⟩ x).setCell ⟨g, 1, none⟩ y) :=
  (h.setCell (p := ⟨g, 0, none⟩) hg x).setCell (p := ⟨g, 1, none⟩) hg y
theorem below_base {B B' : Nat} {w w' : World} (h : Below B w w') (hb : B' ≤ B) : Below B' w w' := h.mono hb

/-- What a law's frame hands over: a row of bytes. -/
theorem open_text {H : Type} {enc : TypeId × Value → H} {W : World} {fuel : Nat} {v : Value} {y : DataW H × List MemPlace} (h : DataW.trod enc Try.prog W 0 (fun _ => true) true fuel 26 [v] = some y) :
    ∃ A n c zs, v = .slice A n c ∧ Arg W .u8 A n c zs ∧ ∀ z ∈ zs, isByte z := by
  rcases open_ints Try.underlying26 Try.underlying5 (by kernel_rfl) h with ⟨hcs, _⟩ | ⟨x, l, c, zs, hcs, _, hl, hm, hz, _, hcell, hwz⟩
  · have hv : v = .slice none 0 0 := by simpa using hcs
    exact ⟨none, 0, 0, [], hv, Arg.nil _ _, by simp⟩
  · have hv : v = .slice (some x) l c := by simpa using hcs
    have hrow : IsRow .u8 W (some x) l c zs := .inr ⟨_, rfl, hl, hm, by simpa using hz, hcell, hwz⟩
    obtain ⟨ls, h1, h2⟩ := hrow.arg
    exact ⟨some x, l, c, ls, hv, h1, fun z hz => wf_byte (h2 z hz)⟩

theorem add_none (b o i : Nat) : (⟨b, o, none⟩ : Addr).add i = ⟨b, o + i, none⟩ := by unfold Addr.add; split <;> simp_all

end Go.Proofs.Ytibegaoegpanpaa
