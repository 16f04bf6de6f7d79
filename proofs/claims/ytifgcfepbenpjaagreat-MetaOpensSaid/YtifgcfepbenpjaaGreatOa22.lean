/- Texts of layers 1 to 12, joined. -/
import Derived.Test.YtifgcfepbenpjaaGreatOa16
import Derived.Test.YtifgcfepbenpjaaGreatOa21
import Derived.Deep.CutBlock
import Derived.Laws.StructEq
import Derived.Maps.AppendAt
import Derived.Deep.Slices
set_option maxRecDepth 100000
set_option maxHeartbeats 12800000
set_option linter.unusedVariables false
namespace Go.Proofs.YtifgcfepbenpjaaGreat
open Go.RowKit
structure TBox (w : World) (G : Nat) (P T A M W Q : Int) (D : Option Addr) (n c : Nat) (D' : Option Addr) (n' c' : Nat) (S : List Sec) (C : List Pnd) : Prop where
 cfg : Blk w G 36 [.int .i64 P, .int .i64 T, .int .i64 A, .int .i64 M, .int .i64 W, .int .i64 Q]
 dsk : DBox w (G + 1) D n c D' n' c' S C
section
variable {w w' : World} {G : Nat} {P T A M W Q : Int} {D D' : Option Addr} {n c n' c' : Nat} {S : List Sec} {C : List Pnd}
theorem TBox.below (x : TBox w G P T A M W Q D n c D' n' c' S C) (hb : Below w.heap.size w w') : TBox w' G P T A M W Q D n c D' n' c' S C := ⟨x.cfg.below hb x.cfg.lt, x.dsk.below hb⟩
theorem TBox.new (P T A M W Q : Int) (t : Dsk w D n c D' n' c' S C) :
  TBox ((w.alloc (.cells #[.int .i64 P, .int .i64 T, .int .i64 A, .int .i64 M, .int .i64 W, .int .i64 Q] 36)).alloc (.cells #[.slice D n c, .slice D' n' c'] 25)) w.heap.size P T A M W Q D n c D' n' c' S C ∧
  Below w.heap.size w ((w.alloc (.cells #[.int .i64 P, .int .i64 T, .int .i64 A, .int .i64 M, .int .i64 W, .int .i64 Q] 36)).alloc (.cells #[.slice D n c, .slice D' n' c'] 25)) := by
 obtain ⟨x, hb⟩ := box_cfg w P T A M W Q
 have y := DBox.new (t.below hb)
 rw [World.size_alloc] at y
 exact ⟨⟨x.grown (World.grownBy_alloc _ _ none) (by simp), y⟩, hb.alloc hb.size _⟩
theorem TBox.cells (x : TBox w G P T A M W Q D n c D' n' c' S C) : w.cell? ⟨G, 0, none⟩ = some (.int .i64 P) ∧ w.cell? ⟨G, 1, none⟩ = some (.int .i64 T) ∧ w.cell? ⟨G, 2, none⟩ = some (.int .i64 A) ∧ w.cell? ⟨G, 3, none⟩ = some (.int .i64 M) ∧ w.cell? ⟨G, 4, none⟩ = some (.int .i64 W) ∧ w.cell? ⟨G, 5, none⟩ = some (.int .i64 Q) ∧
  w.cell? ⟨G + 1, 0, none⟩ = some (.slice D n c) ∧ w.cell? ⟨G + 1, 1, none⟩ = some (.slice D' n' c') :=
 ⟨x.cfg.cell 0, x.cfg.cell 1, x.cfg.cell 2, x.cfg.cell 3, x.cfg.cell 4, x.cfg.cell 5, x.dsk.cells.1, x.dsk.cells.2⟩
end
theorem tcheck_any (P T A M W Q : Int) (D : Option Addr) (n c : Nat) (D' : Option Addr) (n' c' : Nat) (S : List Sec) (C : List Pnd) (w : World) (hq : Dsk w D n c D' n' c' S C) (hs : SmallD S C) :
  Calls Tryz.prog 66 #[cfgV P T A M W Q, diskV D n c D' n' c'] w fun e w' => e = .returned (.int .i64 (tcE P T A M W Q S C)) ∧ Below w.heap.size w w' := by
 obtain ⟨x, hbel⟩ := TBox.new P T A M W Q hq
 obtain ⟨w1, hw1⟩ : ∃ x : World, x = (w.alloc (.cells #[.int .i64 P, .int .i64 T, .int .i64 A, .int .i64 M, .int .i64 W, .int .i64 Q] 36)).alloc (.cells #[.slice D n c, .slice D' n' c'] 25) := ⟨_, rfl⟩
 rw [← hw1] at x hbel
 have X := Lh x
 have B := Lh hbel
 have PS := Lh (fun w' : World => psectors_any P T A M W Q w')
 have CK := Lh (fun wx hx => dsk_does.check D n c D' n' c' S C wx hx hs)
 have hsl := hq.secs.len
 obtain ⟨c0, c1, c2, c3, c4, c5, d0, d1⟩ := x.cells
 clear hq hs x hbel
 unfold tcE
 by_cases h1 : mayC P T A M W Q
 ·rw [show secN P T A M W Q = fE P T A from if_pos h1, show chkC P T A M W Q = 0 from if_pos h1] at PS
  obtain ⟨m, hm⟩ : ∃ m, m = fE P T A := ⟨_, rfl⟩
  rw [← hm] at PS
  by_cases h2 : mayD S C = true
  ·rw [show chkD S C = 0 from if_pos h2] at CK
   by_cases h3 : (n : Int) = m
   ·rw [if_pos (show mayT P T A M W Q S C from ⟨h1, h2, by rw [hsl, ← hm]; exact h3⟩)]
    have h4 : ((n : Int) == m) = true := beq_iff_eq.2 h3
    have h5 : ((n : Int) != m) = false := by rw [h3]; exact bne_self_eq_false _
    clear h1 h2 h3 hm hsl
    go_enter Tryz.func66, Tryz.ntmps66
    go_wp2_with fail
    rw [← hw1]
    clear hw1
    refine (PS.out _).mono ?_
    rintro e w2 ⟨rfl, hb⟩
    have B := Lh (B.out.trans (hb.mono B.out.size))
    have X := Lh (X.out.below hb)
    clear hb c0 c1 c2 c3 c4 c5 d0 d1
    obtain ⟨c0, c1, c2, c3, c4, c5, d0, d1⟩ := X.out.cells
    go_wp2_with fail
    refine (CK.out _ X.out.dsk.dsk).mono ?_
    rintro e w3 ⟨rfl, hb⟩
    have B := Lh (B.out.trans (hb.mono B.out.size))
    have X := Lh (X.out.below hb)
    clear hb c0 c1 c2 c3 c4 c5 d0 d1
    obtain ⟨c0, c1, c2, c3, c4, c5, d0, d1⟩ := X.out.cells
    go_wp2
    go_ret
    exact ⟨rfl, B.out⟩
   ·rw [if_neg (fun h : mayT P T A M W Q S C => h3 (by rw [← hsl, hm]; exact h.2.2))]
    have h4 : ((n : Int) == m) = false := beq_eq_false_iff_ne.2 h3
    have h5 : ((n : Int) != m) = true := bne_iff_ne.2 h3
    clear h1 h2 h3 hm hsl
    go_enter Tryz.func66, Tryz.ntmps66
    go_wp2_with fail
    rw [← hw1]
    clear hw1
    refine (PS.out _).mono ?_
    rintro e w2 ⟨rfl, hb⟩
    have B := Lh (B.out.trans (hb.mono B.out.size))
    have X := Lh (X.out.below hb)
    clear hb c0 c1 c2 c3 c4 c5 d0 d1
    obtain ⟨c0, c1, c2, c3, c4, c5, d0, d1⟩ := X.out.cells
    go_wp2_with fail
    refine (CK.out _ X.out.dsk.dsk).mono ?_
    rintro e w3 ⟨rfl, hb⟩
    have B := Lh (B.out.trans (hb.mono B.out.size))
    have X := Lh (X.out.below hb)
    clear hb c0 c1 c2 c3 c4 c5 d0 d1
    obtain ⟨c0, c1, c2, c3, c4, c5, d0, d1⟩ := X.out.cells
    go_wp2
    go_ret
    exact ⟨rfl, B.out⟩
  ·rw [show chkD S C = 8 from if_neg h2] at CK
   rw [if_neg (fun h : mayT P T A M W Q S C => h2 h.2.1)]
   clear h1 h2 hm hsl
   go_enter Tryz.func66, Tryz.ntmps66
   go_wp2_with fail
   rw [← hw1]
   clear hw1
   refine (PS.out _).mono ?_
   rintro e w2 ⟨rfl, hb⟩
   have B := Lh (B.out.trans (hb.mono B.out.size))
   have X := Lh (X.out.below hb)
   clear hb c0 c1 c2 c3 c4 c5 d0 d1
   obtain ⟨c0, c1, c2, c3, c4, c5, d0, d1⟩ := X.out.cells
   go_wp2_with fail
   refine (CK.out _ X.out.dsk.dsk).mono ?_
   rintro e w3 ⟨rfl, hb⟩
   have B := Lh (B.out.trans (hb.mono B.out.size))
   clear hb c0 c1 c2 c3 c4 c5 d0 d1
   go_wp2
   go_ret
   exact ⟨rfl, B.out⟩
 ·rw [show chkC P T A M W Q = 8 from if_neg h1] at PS
  rw [if_neg (fun h : mayT P T A M W Q S C => h1 h.1)]
  obtain ⟨m, hm⟩ : ∃ m, m = secN P T A M W Q := ⟨_, rfl⟩
  rw [← hm] at PS
  clear h1 hm hsl
  go_enter Tryz.func66, Tryz.ntmps66
  go_wp2_with fail
  rw [← hw1]
  clear hw1
  refine (PS.out _).mono ?_
  rintro e w2 ⟨rfl, hb⟩
  have B := Lh (B.out.trans (hb.mono B.out.size))
  clear hb c0 c1 c2 c3 c4 c5 d0 d1
  go_wp2
  go_ret
  exact ⟨rfl, B.out⟩
end Go.Proofs.YtifgcfepbenpjaaGreat
namespace Go.Proofs.YtifgcfepbenpjaaGreat
open Go.RowKit Go.OpenShut Go.ChangeShapes Go.WideShapes Go.Deep Go.Joins
abbrev recV (r : Rc) : Value := .agg #[.int .i64 r.p, .int .u32 r.b, .int .u32 r.e, .int .i64 r.l, .int .u8 r.h, .int .i64 r.f, .bool r.q, .bool r.a]
abbrev recL (r : Rc) : List Value := [.int .i64 r.p, .int .u32 r.b, .int .u32 r.e, .int .i64 r.l, .int .u8 r.h, .int .i64 r.f, .bool r.q, .bool r.a]
theorem eq_rec (r s : Rc) (w : World) : (Op.equalIn 10000 64 (recV r) (recV s)).run Tryz.prog w = .ok (decide (r = s)) w := by
 have u1 := Tryz.underlying26
 have u2 := Tryz.underlying3
 have u3 := Tryz.underlying5
 have u4 := Tryz.underlying4
 have hS : Tryz.prog.underlying 64 = some (.struct (Tryz.prog.fieldsOf 64)) := by kernel_rfl
 have hp : Tryz.prog.stoodInHeld 64 = false := by kernel_rfl
 have e : decide (r = s) = (r.p == s.p && r.b == s.b && r.e == s.e && r.l == s.l && r.h == s.h && r.f == s.f && r.q == s.q && r.a == s.a) := by
  rw [Bool.eq_iff_iff]
  simp [Rc.eq_iff, and_assoc]
 rw [e, show (10000 : Nat) = 9999 + 1 from rfl, run_equalIn_agg w 9999 64 _ _ hS hp]
 simp only [Program.fieldsOf, Tryz.underlying64]
 go_simp
 by_cases h1 : r.p = s.p <;> by_cases h2 : r.b = s.b <;> by_cases h3 : r.e = s.e <;> by_cases h4 : r.l = s.l <;> by_cases h5 : r.h = s.h <;> by_cases h6 : r.f = s.f <;> by_cases h7 : r.q = s.q <;> by_cases h8 : r.a = s.a <;> simp [h1, h2, h3, h4, h5, h6, h7, h8]
theorem rec_info : (Tryz.prog.info? 64).map (fun i => (i.zero, i.size, i.bytes)) = some (some (recV zR), 8, 48) := by kernel_rfl
def recsV (L : List Rc) : List Value := L.flatMap recL
theorem recsV_length (L : List Rc) : (recsV L).length = L.length * 8 := by
 induction L with
 | nil => rfl
 | cons r L ih => unfold recsV at ih ⊢; rw [List.flatMap_cons, List.length_append, ih]; simp; omega
theorem recsV_at {L : List Rc} {i j : Nat} (hi : i < L.length) (hj : j < 8) : (recsV L)[i * 8 + j]? = (recL (L.getD i zR))[j]? := by
 induction L generalizing i with
 | nil => exact absurd hi (Nat.not_lt_zero _)
 | cons r L ih =>
  have e : recsV (r :: L) = recL r ++ recsV L := rfl
  rw [e]
  cases i with
  | zero =>
   rw [Nat.zero_mul, Nat.zero_add, List.getElem?_append_left (by simpa using hj)]
   rfl
  | succ i =>
   rw [List.getElem?_append_right (by simp; omega), show (i + 1) * 8 + j - (recL r).length = i * 8 + j by simp; omega, ih (by simpa using hi)]
   rfl
theorem recsV_app (L M : List Rc) : recsV (L ++ M) = recsV L ++ recsV M := List.flatMap_append
theorem recsV_one (r : Rc) : recsV [r] = recL r := by simp [recsV]
theorem one_rec (r : Rc) : ∀ v ∈ recL r, v.oneCell' = true := by intro v hv; simp at hv; rcases hv with rfl | rfl | rfl | rfl | rfl | rfl | rfl | rfl <;> rfl
theorem one_recs (L : List Rc) : ∀ v ∈ recsV L, v.oneCell' = true := fun v hv => by
 obtain ⟨r, _, h⟩ := List.mem_flatMap.1 hv
 exact one_rec r v h
structure Recs (w : World) (A : Option Addr) (n c : Nat) (L : List Rc) : Prop where
 len : L.length = n
 cap : n ≤ c
 max : c ≤ maxLen
 is : allR L
 at_ : ∀ i, i < n → ∃ b o, A = some ⟨b, o, none⟩ ∧ b < w.heap.size ∧ ∀ j v, (recL (L.getD i zR))[j]? = some v → w.cell? ⟨b, o + i * 8 + j, none⟩ = some v
section
variable {w w' : World} {A : Option Addr} {n c : Nat} {L : List Rc}
theorem Recs.below (h : Recs w A n c L) (hb : Below w.heap.size w w') : Recs w' A n c L :=
 ⟨h.len, h.cap, h.max, h.is, fun i hi => by
  obtain ⟨b, o, e, hlt, hc⟩ := h.at_ i hi
  exact ⟨b, o, e, Nat.lt_of_lt_of_le hlt hb.size, fun j v hv => (hb.cell (p := ⟨b, _, none⟩) hlt).trans (hc j v hv)⟩⟩
theorem Recs.nil (w : World) : Recs w none 0 0 [] := ⟨rfl, Nat.le_refl _, by decide, (fun r hr => by cases hr), fun i hi => by omega⟩
theorem Recs.row (h : Recs w A n c L) {i : Nat} (hi : i < n) : ∃ b o, A = some ⟨b, o, none⟩ ∧ b < w.heap.size ∧ w.cell? ⟨b, o + i * 8, none⟩ = some (.int .i64 (L.getD i zR).p) ∧ w.cell? ⟨b, o + i * 8 + 1, none⟩ = some (.int .u32 (L.getD i zR).b) ∧ w.cell? ⟨b, o + i * 8 + 2, none⟩ = some (.int .u32 (L.getD i zR).e) ∧
  w.cell? ⟨b, o + i * 8 + 3, none⟩ = some (.int .i64 (L.getD i zR).l) ∧ w.cell? ⟨b, o + i * 8 + 4, none⟩ = some (.int .u8 (L.getD i zR).h) ∧ w.cell? ⟨b, o + i * 8 + 5, none⟩ = some (.int .i64 (L.getD i zR).f) ∧ w.cell? ⟨b, o + i * 8 + 6, none⟩ = some (.bool (L.getD i zR).q) ∧ w.cell? ⟨b, o + i * 8 + 7, none⟩ = some (.bool (L.getD i zR).a) := by
 obtain ⟨b, o, e, hlt, hc⟩ := h.at_ i hi
 exact ⟨b, o, e, hlt, hc 0 _ rfl, hc 1 _ rfl, hc 2 _ rfl, hc 3 _ rfl, hc 4 _ rfl, hc 5 _ rfl, hc 6 _ rfl, hc 7 _ rfl⟩
theorem Recs.is_at (h : Recs w A n c L) {i : Nat} (hi : i < n) : isR (L.getD i zR) := by
 have := h.len
 rw [gtD, geE (by omega)]
 exact h.is _ (List.getElem_mem _)
theorem Recs.seq (h : Recs w A n c L) : Seq w w.heap.size A (recsV L) := fun k v hv => by
 have hk : k < L.length * 8 := by
  rcases Nat.lt_or_ge k (recsV L).length with hk | hk
  ·rwa [recsV_length] at hk
  ·rw [List.getElem?_eq_none hk] at hv; cases hv
 have e : k = (k / 8) * 8 + k % 8 := by omega
 obtain ⟨b, o, ea, hlt, hc⟩ := h.at_ (k / 8) (by have := h.len; omega)
 have h2 := recsV_at (L := L) (i := k / 8) (j := k % 8) (by omega) (by omega)
 rw [← e] at h2
 have h3 := hc (k % 8) v (by rw [← h2]; exact hv)
 refine ⟨b, o, ea, hlt, ?_⟩
 rw [Nat.add_assoc, ← e] at h3
 exact h3
end
def OwnRecs (w : World) (base : Nat) (A : Option Addr) (n c : Nat) (L : List Rc) : Prop := w.ownsRow base 64 8 (.slice A n c) n (recsV L) ∧ L.length = n ∧ allR L
section
variable {w w' : World} {base base' : Nat} {A : Option Addr} {n c : Nat} {L : List Rc}
theorem Recs.of_own (h : OwnRecs w base A n c L) : Recs w A n c L := by
 obtain ⟨hown, hl, ha⟩ := h
 refine ⟨hl, ?_, ?_, ha, fun i hi => ?_⟩
 ·rcases hown.2 with ⟨e, h0⟩ | ⟨g, cap, cur, e, _, _, h1, h2, _⟩ <;> cases e
  ·exact Nat.le_refl _
  ·exact h1
 ·rcases hown.2 with ⟨e, h0⟩ | ⟨g, cap, cur, e, _, _, h1, h2, _⟩ <;> cases e
  ·decide
  ·exact h2
 ·have h0 : (recsV L)[i * 8 + 0]? = some (.int .i64 (L.getD i zR).p) := by rw [recsV_at (by omega) (by omega)]; rfl
  obtain ⟨b, e, hlt, _⟩ := owns_cell hown h0
  refine ⟨b, 0, e, hlt, fun j v hv => ?_⟩
  have hj : j < 8 := by
   rcases Nat.lt_or_ge j 8 with hj | hj
   ·exact hj
   ·rw [List.getElem?_eq_none (by simpa using hj)] at hv; cases hv
  have h1 : (recsV L)[i * 8 + j]? = some v := by rw [recsV_at (by omega) hj]; exact hv
  obtain ⟨b', e', _, hc⟩ := owns_cell hown h1
  rw [e] at e'
  cases e'
  rw [Nat.zero_add]
  exact hc
theorem OwnRecs.below (h : OwnRecs w base A n c L) (hb : Below w.heap.size w w') : OwnRecs w' base A n c L := ⟨owns_below h.1 hb, h.2.1, h.2.2⟩
theorem OwnRecs.lower (h : OwnRecs w base A n c L) (hb : base' ≤ base) : OwnRecs w base' A n c L := ⟨owns_base h.1 hb, h.2.1, h.2.2⟩
theorem OwnRecs.nil (w : World) (base : Nat) : OwnRecs w base none 0 0 [] := ⟨World.ownsRow_nil _ _ _ _, rfl, fun r hr => by cases hr⟩
theorem OwnRecs.keep (h : OwnRecs w base A n c L) (hk : ∀ (g : Nat) (cs : Array Value), base ≤ g → w.heap[g]? = some (.cells cs 64 (0, 0)) → w'.heap[g]? = w.heap[g]?) : OwnRecs w' base A n c L :=
 ⟨owns_keep h.1 fun g cs hg hc => hk g cs hg hc, h.2.1, h.2.2⟩
theorem OwnRecs.away (h : OwnRecs w base A n c L) {g : Nat} (hg : g < base) (i : Nat) (u : Value) : OwnRecs (w.setCell ⟨g, i, none⟩ u) base A n c L :=
 h.keep fun g' _ hb hc => (grownBy_set w g i u).block g' (Array.getElem?_eq_some_iff.1 hc).1 (fun e => by injection e with e; omega)
theorem run_recs (w0 w : World) (ty : TypeId) (A0 : Option Addr) (n0 c0 : Nat) (M : List Rc) (hown : OwnRecs w base A0 n0 c0 M) (r : Rc) (hr : isR r) (h63 : n0 + 1 ≤ 100000) (hbel : Below base w0 w) (hw0 : base ≤ w0.heap.size) :
  ∃ A' c' w', (Builtin.append_ #[30, 30] ty #[.slice A0 n0 c0, .slice (some ⟨w.heap.size, 0, none⟩) 1 1]).run Tryz.prog (w.alloc (.cells (recL r).toArray 64)) = .ok (.slice A' (n0 + 1) c') w' ∧ OwnRecs w' base A' (n0 + 1) c' (M ++ [r]) ∧ Below base w0 w' ∧ (w.alloc (.cells (recL r).toArray 64)).grownBy w' (Value.slice A0 n0 c0).ownBlock := by
 obtain ⟨i, hi, hz, hsize, hby⟩ := info_parts rec_info
 have hml : (100000 : Nat) ≤ maxLen := by decide
 have hbase : base ≤ w.heap.size := Nat.le_trans hw0 hbel.size
 have hlit := Blk.new w 64 (recL r)
 have hcs : ∀ j u, (recL r)[j]? = some u → (w.alloc (.cells (recL r).toArray 64)).cell? ((⟨w.heap.size, 0, none⟩ : Addr).add j) = some u := by
  intro j u hu
  have e2 : (⟨w.heap.size, 0, none⟩ : Addr).add j = ⟨w.heap.size, 0 + j, none⟩ := by unfold Addr.add; split <;> simp_all
  rw [e2, Nat.zero_add, hlit.cell j]
  exact hu
 obtain ⟨v', w', h, r2, r3, _, _⟩ := run_append_own_at (P := Tryz.prog) (w.alloc (.cells (recL r).toArray 64)) base 30 ty 64 i _ 8 48 Tryz.underlying30 hi hz hsize hby rfl (by omega) _ n0 (recsV M) (hown.1.alloc _) ⟨w.heap.size, 0, none⟩ 1 1 (recL r) rfl hcs (one_rec r) (by omega) (by omega) (by simp; omega)
 obtain ⟨g', c', rfl⟩ := ownsRow_some r2
 refine ⟨some ⟨g', 0, none⟩, c', w', h, ⟨by rw [recsV_app, recsV_one]; exact r2, by simp [hown.2.1], fun s hs => ?_⟩, (hbel.alloc hbase _).grown r3 (by simp; omega) (fun g e => (hown.1.lt g e).1), r3⟩
 rcases List.mem_append.1 hs with hs | hs
 ·exact hown.2.2 s hs
 ·rw [List.mem_singleton.1 hs]; exact hr
end
theorem wpList_recs (w0 w : World) {ops : Array Oper} {rest : List Oper} {o : Oper} {a : Act} {Q : Exit → Act → World → Prop} (hw : Region.wanted o (yielded ops a.tmps) = true) (s x : Operand)
  (ho : o.op = .call { callee := .builtin .append, args := #[s, x], argTypes := #[30, 30] }) (base : Nat) (A0 : Option Addr) (n c0 : Nat) (M : List Rc) (hs : a.eval s = .slice A0 n c0) (hown : OwnRecs w base A0 n c0 M)
  (r : Rc) (hr : isR r) (hx : a.eval x = .slice (some ⟨w.heap.size, 0, none⟩) 1 1) (h63 : n + 1 ≤ 100000) (hbel : Below base w0 w) (hw0 : base ≤ w0.heap.size)
  (h : ∀ A' c' w', OwnRecs w' base A' (n + 1) c' (M ++ [r]) → Below base w0 w' → wpList Tryz.prog ops Q rest (a.put o.dst (.slice A' (n + 1) c')) w') : wpList Tryz.prog ops Q (o :: rest) a (w.alloc (.cells (recL r).toArray 64)) := by
 refine wpList_want hw fun K hK => ?_
 obtain ⟨A', c', w', hrun, h2, h3, _⟩ := run_recs w0 w o.type A0 n c0 M hown r hr h63 hbel hw0
 unfold Oper.wp execOp
 simp only [ho, resolve, invoke, builtin, Sem.run_bind, Sem.run_pure, Result.andThen_ok, List.map_toArray, List.map_cons, List.map_nil, hs, hx, hrun]
 exact hK _ _ (h A' c' w' h2 h3)
end Go.Proofs.YtifgcfepbenpjaaGreat
namespace Go.Proofs.YtifgcfepbenpjaaGreat
open Go.RowKit
theorem wpList_dup_recs (w : World) {ops : Array Oper} {rest : List Oper} {o : Oper} {a : Act} {Q : Exit → Act → World → Prop} (hw : Region.wanted o (yielded ops a.tmps) = true) (s x : Operand)
  (ho : o.op = .call { callee := .builtin .append, args := #[s, x], argTypes := #[30, 30] }) (hs : a.eval s = .slice (some ⟨w.heap.size, 0, none⟩) 0 0)
  (A : Option Addr) (m c : Nat) (L : List Rc) (hx : a.eval x = .slice A m c) (hr : Recs w A m c L) (h63 : m ≤ 100000)
  (h : ∀ A' c' w', OwnRecs w' w.heap.size A' m c' L → Below w.heap.size w w' → wpList Tryz.prog ops Q rest (a.put o.dst (.slice A' m c')) w') : wpList Tryz.prog ops Q (o :: rest) a (w.alloc (.cells #[] 64)) := by
 refine wpList_want hw fun K hK => ?_
 obtain ⟨i, hi, hz, hsize, hby⟩ := info_parts rec_info
 have hml : (100000 : Nat) ≤ maxLen := by decide
 have hb1 : Below w.heap.size w (w.alloc (.cells #[] 64)) := (Below.refl _ _).alloc (Nat.le_refl _) _
 have hlit : (w.alloc (.cells #[] 64)).ownsRow w.heap.size 64 8 (.slice (some ⟨w.heap.size, 0, none⟩) 0 0) 0 [] := ⟨rfl, .inr ⟨w.heap.size, 0, #[], rfl, Nat.le_refl _, heap_alloc_new w _, Nat.le_refl _, by decide, rfl, rfl⟩⟩
 have key : ∃ A' c' w', (Builtin.append_ #[30, 30] o.type #[.slice (some ⟨w.heap.size, 0, none⟩) 0 0, .slice A m c]).run Tryz.prog (w.alloc (.cells #[] 64)) = .ok (.slice A' m c') w' ∧ OwnRecs w' w.heap.size A' m c' L ∧ Below w.heap.size w w' := by
  cases A with
  | none =>
   have hm0 : m = 0 := by
    rcases Nat.eq_zero_or_pos m with h0 | h0
    ·exact h0
    ·obtain ⟨_, _, e, _⟩ := hr.at_ 0 h0
     cases e
   subst hm0
   have hL : L = [] := List.eq_nil_of_length_eq_zero hr.len
   subst hL
   refine ⟨some ⟨w.heap.size, 0, none⟩, 0, _, ?_, ⟨hlit, rfl, fun r hr => by cases hr⟩, hb1⟩
   simp [Builtin.append_, run_underlying Tryz.underlying30, sizeOf, typeInfo, hi, Builtin.lenOf, Builtin.firstCells, storeCells]
  | some ad =>
   have hsq := (hr.below hb1).seq
   have hcs : ∀ j u, (recsV L)[j]? = some u → (w.alloc (.cells #[] 64)).cell? (ad.add j) = some u := by
    intro j u hu
    obtain ⟨b, o', e, _, hc⟩ := hsq j u hu
    have e := Option.some.inj e
    subst e
    have e2 : (⟨b, o', none⟩ : Addr).add j = ⟨b, o' + j, none⟩ := by unfold Addr.add; split <;> simp_all
    rw [e2]
    exact hc
   obtain ⟨v', w', hrun, h2, h3, _, h5⟩ := run_append_own_at (P := Tryz.prog) (w.alloc (.cells #[] 64)) w.heap.size 30 o.type 64 i _ 8 48 Tryz.underlying30 hi hz hsize hby rfl (by omega) _ 0 [] hlit ad m c (recsV L) (by rw [recsV_length, hr.len]) hcs (one_recs L) (by omega) (by omega) (by simp)
   rw [Nat.zero_add, List.nil_append] at h2
   have hv : ∃ A' c', v' = .slice A' m c' := by
    rcases h2.2 with ⟨rfl, rfl⟩ | ⟨g, cap, cur, rfl, _⟩
    ·exact ⟨_, _, rfl⟩
    ·exact ⟨_, _, rfl⟩
   obtain ⟨A', c', rfl⟩ := hv
   exact ⟨A', c', w', hrun, ⟨h2, hr.len, hr.is⟩, hb1.grown h3 hb1.size (fun g e => by have e : some w.heap.size = some g := e; injection e with e; omega)⟩
 obtain ⟨A', c', w', hrun, h2, h3⟩ := key
 unfold Oper.wp execOp
 simp only [ho, resolve, invoke, builtin, Sem.run_bind, Sem.run_pure, Result.andThen_ok, List.map_toArray, List.map_cons, List.map_nil, hs, hx, hrun]
 exact hK _ _ (h A' c' w' h2 h3)
end Go.Proofs.YtifgcfepbenpjaaGreat
namespace Go.Proofs.YtifgcfepbenpjaaGreat
section
variable {P T A M W Q : Int} {S S' : List Sec}
end
section
variable {P T A M W Q : Int} {S : List Sec} {m : Mt} {b : Txt} {t' : List Rc} {B V : Int}
end
theorem actsA_length (L : List Pnd) : (actsA L).length = L.length + 1 := by simp [actsA, wrA]
section
variable {P T A M W Q : Int} {S : List Sec} {m : Mt} {b : Txt} {t' : List Rc} {B V : Int}
end
end Go.Proofs.YtifgcfepbenpjaaGreat
