/- Texts of layers 1 to 12, joined. -/
import Derived.Test.YtifgcfepbenpjaaGreatOa34
import Derived.Test.YtifgcfepbenpjaaGreatOa40
import Derived.Maps.AppendAt
import Derived.Deep.Slices
set_option maxRecDepth 100000
set_option maxHeartbeats 12800000
set_option linter.unusedVariables false
namespace Go.Proofs.YtifgcfepbenpjaaGreat
open Go.RowKit
theorem met_box (w : World) (v a g n u : Int) (B : Option Addr) (k c : Nat) : Blk (w.alloc (.cells #[.int .u32 v, .int .i64 a, .int .u64 g, .int .i64 n, .int .i64 u, .slice B k c] 32)) w.heap.size 32 (metL v a g n u B k c) ∧ Below w.heap.size w (w.alloc (.cells #[.int .u32 v, .int .i64 a, .int .u64 g, .int .i64 n, .int .i64 u, .slice B k c] 32)) := ⟨Blk.new w 32 (metL v a g n u B k c), (Below.refl _ _).alloc (Nat.le_refl _) _⟩
theorem Blk.met {w : World} {G : Nat} {v a g n u : Int} {B : Option Addr} {k c : Nat} (x : Blk w G 32 (metL v a g n u B k c)) : w.cell? ⟨G, 0, none⟩ = some (.int .u32 v) ∧ w.cell? ⟨G, 1, none⟩ = some (.int .i64 a) ∧ w.cell? ⟨G, 2, none⟩ = some (.int .u64 g) ∧ w.cell? ⟨G, 3, none⟩ = some (.int .i64 n) ∧ w.cell? ⟨G, 4, none⟩ = some (.int .i64 u) ∧ w.cell? ⟨G, 5, none⟩ = some (.slice B k c) := ⟨x.cell 0, x.cell 1, x.cell 2, x.cell 3, x.cell 4, x.cell 5⟩
theorem Blk.sixM {w : World} {G : Nat} {t : TypeId} {v' a' g' n' u' : Int} {B' : Option Addr} {k' c' : Nat} (h : Blk w G t (metL v' a' g' n' u' B' k' c')) (v a g n u : Int) (B : Option Addr) (k c : Nat) : Blk ((((((w.setCell ⟨G, 0, none⟩ (.int .u32 v)).setCell ⟨G, 1, none⟩ (.int .i64 a)).setCell ⟨G, 2, none⟩ (.int .u64 g)).setCell ⟨G, 3, none⟩ (.int .i64 n)).setCell ⟨G, 4, none⟩ (.int .i64 u)).setCell ⟨G, 5, none⟩ (.slice B k c)) G t (metL v a g n u B k c) :=
 (((((h.set 0 _).set 1 _).set 2 _).set 3 _).set 4 _).set 5 _
theorem below_sixM {B0 : Nat} {w0 w : World} (h : Below B0 w0 w) {G : Nat} (hg : B0 ≤ G) (v a g n u : Int) (B : Option Addr) (k c : Nat) : Below B0 w0 ((((((w.setCell ⟨G, 0, none⟩ (.int .u32 v)).setCell ⟨G, 1, none⟩ (.int .i64 a)).setCell ⟨G, 2, none⟩ (.int .u64 g)).setCell ⟨G, 3, none⟩ (.int .i64 n)).setCell ⟨G, 4, none⟩ (.int .i64 u)).setCell ⟨G, 5, none⟩ (.slice B k c)) :=
 (((((h.setCell (p := ⟨G, 0, none⟩) hg _).setCell (p := ⟨G, 1, none⟩) hg _).setCell (p := ⟨G, 2, none⟩) hg _).setCell (p := ⟨G, 3, none⟩) hg _).setCell (p := ⟨G, 4, none⟩) hg _).setCell (p := ⟨G, 5, none⟩) hg _
theorem OwnRecs.sixM {w : World} {base : Nat} {A : Option Addr} {m d : Nat} {L : List Rc} (h : OwnRecs w base A m d L) {G : Nat} (hg : G < base) (v a g n u : Int) (B : Option Addr) (k c : Nat) : OwnRecs ((((((w.setCell ⟨G, 0, none⟩ (.int .u32 v)).setCell ⟨G, 1, none⟩ (.int .i64 a)).setCell ⟨G, 2, none⟩ (.int .u64 g)).setCell ⟨G, 3, none⟩ (.int .i64 n)).setCell ⟨G, 4, none⟩ (.int .i64 u)).setCell ⟨G, 5, none⟩ (.slice B k c)) base A m d L :=
 (((((h.away hg 0 _).away hg 1 _).away hg 2 _).away hg 3 _).away hg 4 _).away hg 5 _
theorem rtwin12_any (v a g n u : Int) (B : Option Addr) (k c : Nat) (t : List Rc) (w : World) (ht : Recs w B k c t) (hk : k ≤ 100000) :
  Calls Tryz.prog 20 #[metV v a g n u B k c] w fun e w' => ∃ A' c', e = .returned (metV v a g n u A' k c') ∧ OwnRecs w' w.heap.size A' k c' t ∧ Below w.heap.size w w' := by
 obtain ⟨x, hb⟩ := met_box w v a g n u B k c
 obtain ⟨w0, hw0⟩ : ∃ w0, w0 = w.alloc (.cells #[.int .u32 v, .int .i64 a, .int .u64 g, .int .i64 n, .int .i64 u, .slice B k c] 32) := ⟨_, rfl⟩
 rw [← hw0] at x hb
 have hs0 : w0.heap.size = w.heap.size + 1 := by rw [hw0, World.size_alloc]
 obtain ⟨y, hb1⟩ := met_box w0 0 0 0 0 0 none 0 0
 obtain ⟨w1, hw1⟩ : ∃ w1, w1 = w0.alloc (.cells #[.int .u32 0, .int .i64 0, .int .u64 0, .int .i64 0, .int .i64 0, .slice none 0 0] 32) := ⟨_, rfl⟩
 rw [← hw1, hs0] at y
 rw [← hw1] at hb1
 have x := x.below hb1 x.lt
 have hs1 : w1.heap.size = w.heap.size + 2 := by rw [hw1, World.size_alloc, hs0]
 have hb := hb.trans (hb1.mono hb.size)
 have T := Lh (ht.below hb)
 have BB := Lh hb
 have X := Lh x
 have Y := Lh y
 obtain ⟨d0, d1, d2, d3, d4, d5⟩ := x.met
 have HS1 := Lh hs1
 clear x y hb hb1 ht hs1
 go_enter Tryz.func20, Tryz.ntmps20
 go_wp2_with (at_builtin; rw [← hw0, ← hw1]; refine wpList_dup_recs w1 rfl (.tmp 3) (.tmp 5) rfl (by rw [HS1.out]; rfl) B k c t rfl T.out hk ?_; clear hw0 hw1 d0 d1 d2 d3 d4 d5; intro A' c' w2 hO hb2; have O := Lh hO; have X2 := Lh (X.out.below hb2 X.out.lt); have Y2 := Lh (Y.out.below hb2 Y.out.lt); have BB2 := Lh (BB.out.trans (hb2.mono BB.out.size)); clear hO hb2; obtain ⟨d0, d1, d2, d3, d4, d5⟩ := X2.out.met; obtain ⟨e0, e1, e2, e3, e4, e5⟩ := Y2.out.met; have fx : ∀ i, w2.frozen? ⟨w.heap.size, i, none⟩ = false := fun i => X2.out.free i; have fy : ∀ i, w2.frozen? ⟨w.heap.size + 1, i, none⟩ = false := fun i => Y2.out.free i)
 have z := ((Y2.out.away (g' := w.heap.size) (by omega) 5 (.slice A' k c')).sixM v a g n u A' k c').met
 obtain ⟨z0, z1, z2, z3, z4, z5⟩ := z
 go_wp2
 refine bodyPost_ret (v := metV v a g n u A' k c') ?_ rfl ⟨A', c', rfl, OwnRecs.lower (OwnRecs.sixM (OwnRecs.away O.out (g := w.heap.size) (by rw [HS1.out]; omega) 5 (.slice A' k c')) (G := w.heap.size + 1) (by rw [HS1.out]; omega) v a g n u A' k c') (by rw [HS1.out]; omega), below_sixM (BB2.out.setCell (p := ⟨w.heap.size, 5, none⟩) (Nat.le_refl _) _) (Nat.le_succ _) v a g n u A' k c'⟩
 simp [results, Tryz.f20, go_sem, z0, z1, z2, z3, z4, z5]
structure MBox (w : World) (G : Nat) (P T A M W Q : Int) (D : Option Addr) (nd d : Nat) (D' : Option Addr) (nd' d' : Nat) (S : List Sec) (C : List Pnd) (v a g n u : Int) (B : Option Addr) (k c : Nat) (t : List Rc) : Prop where
 two : TBox w G P T A M W Q D nd d D' nd' d' S C
 met : Blk w (G + 2) 32 (metL v a g n u B k c)
 tab : Recs w B k c t
section
variable {w w' : World} {G : Nat} {P T A M W Q v a g n u : Int} {D D' B : Option Addr} {nd d nd' d' k c : Nat} {S : List Sec} {C : List Pnd} {t : List Rc}
theorem MBox.below (x : MBox w G P T A M W Q D nd d D' nd' d' S C v a g n u B k c t) (hb : Below w.heap.size w w') : MBox w' G P T A M W Q D nd d D' nd' d' S C v a g n u B k c t := ⟨x.two.below hb, x.met.below hb x.met.lt, x.tab.below hb⟩
theorem MBox.new (P T A M W Q v a g n u : Int) (q : Dsk w D nd d D' nd' d' S C) (h : Recs w B k c t) : MBox (((w.alloc (.cells #[.int .i64 P, .int .i64 T, .int .i64 A, .int .i64 M, .int .i64 W, .int .i64 Q] 36)).alloc (.cells #[.slice D nd d, .slice D' nd' d'] 25)).alloc (.cells #[.int .u32 v, .int .i64 a, .int .u64 g, .int .i64 n, .int .i64 u, .slice B k c] 32)) w.heap.size P T A M W Q D nd d D' nd' d' S C v a g n u B k c t ∧ Below w.heap.size w (((w.alloc (.cells #[.int .i64 P, .int .i64 T, .int .i64 A, .int .i64 M, .int .i64 W, .int .i64 Q] 36)).alloc (.cells #[.slice D nd d, .slice D' nd' d'] 25)).alloc (.cells #[.int .u32 v, .int .i64 a, .int .u64 g, .int .i64 n, .int .i64 u, .slice B k c] 32)) := by
 obtain ⟨x, hb⟩ := TBox.new P T A M W Q q
 obtain ⟨y, hk⟩ := met_box ((w.alloc (.cells #[.int .i64 P, .int .i64 T, .int .i64 A, .int .i64 M, .int .i64 W, .int .i64 Q] 36)).alloc (.cells #[.slice D nd d, .slice D' nd' d'] 25)) v a g n u B k c
 rw [World.size_alloc, World.size_alloc] at y
 have hb2 := hb.trans (hk.mono hb.size)
 exact ⟨⟨x.below hk, y, h.below hb2⟩, hb2⟩
theorem MBox.cells (x : MBox w G P T A M W Q D nd d D' nd' d' S C v a g n u B k c t) :
  (w.cell? ⟨G, 0, none⟩ = some (.int .i64 P) ∧ w.cell? ⟨G, 1, none⟩ = some (.int .i64 T) ∧ w.cell? ⟨G, 2, none⟩ = some (.int .i64 A) ∧ w.cell? ⟨G, 3, none⟩ = some (.int .i64 M) ∧ w.cell? ⟨G, 4, none⟩ = some (.int .i64 W) ∧ w.cell? ⟨G, 5, none⟩ = some (.int .i64 Q) ∧ w.cell? ⟨G + 1, 0, none⟩ = some (.slice D nd d) ∧ w.cell? ⟨G + 1, 1, none⟩ = some (.slice D' nd' d')) ∧
  w.cell? ⟨G + 2, 0, none⟩ = some (.int .u32 v) ∧ w.cell? ⟨G + 2, 1, none⟩ = some (.int .i64 a) ∧ w.cell? ⟨G + 2, 2, none⟩ = some (.int .u64 g) ∧ w.cell? ⟨G + 2, 3, none⟩ = some (.int .i64 n) ∧ w.cell? ⟨G + 2, 4, none⟩ = some (.int .i64 u) ∧ w.cell? ⟨G + 2, 5, none⟩ = some (.slice B k c) := ⟨x.two.cells, x.met.met⟩
end
def boE (P T A M W Q : Int) (S : List Sec) (C : List Pnd) (m : Mt) : Int := if mayT P T A M W Q S C ∧ mayM P T A M W Q m then 0 else 8
theorem rboth12_any (P T A M W Q v a g n u : Int) (D : Option Addr) (nd d : Nat) (D' : Option Addr) (nd' d' : Nat) (S : List Sec) (C : List Pnd) (B : Option Addr) (k c : Nat) (t : List Rc) (w : World) (hq : Dsk w D nd d D' nd' d' S C) (hs : SmallD S C) (ht : Recs w B k c t) (hk : k ≤ 100000) :
  Calls Tryz.prog 51 #[cfgV P T A M W Q, diskV D nd d D' nd' d', metV v a g n u B k c] w fun e w' => e = .returned (.int .i64 (boE P T A M W Q S C ⟨(v, a, g), n, u, t⟩)) ∧ Below w.heap.size w w' := by
 obtain ⟨x, hbel⟩ := MBox.new P T A M W Q v a g n u hq ht
 obtain ⟨w0, hw0⟩ : ∃ x : World, x = (((w.alloc (.cells #[.int .i64 P, .int .i64 T, .int .i64 A, .int .i64 M, .int .i64 W, .int .i64 Q] 36)).alloc (.cells #[.slice D nd d, .slice D' nd' d'] 25)).alloc (.cells #[.int .u32 v, .int .i64 a, .int .u64 g, .int .i64 n, .int .i64 u, .slice B k c] 32)) := ⟨_, rfl⟩
 rw [← hw0] at x hbel
 have X := Lh x
 have BB := Lh hbel
 have MT := Lh (fun wx hx => rmayT_any P T A M W Q D nd d D' nd' d' S C wx hx hs)
 have MM := Lh (fun wx hx => rmay12_any P T A M W Q v a g n u B k c t wx hx hk)
 obtain ⟨⟨c0, c1, c2, c3, c4, c5, c6, c7⟩, d0, d1, d2, d3, d4, d5⟩ := x.cells
 clear hq hs ht hk x hbel
 unfold boE
 by_cases h0 : mayT P T A M W Q S C
 ·by_cases h1 : mayM P T A M W Q ⟨(v, a, g), n, u, t⟩
  ·rw [if_pos ⟨h0, h1⟩]
   rw [decide_eq_true h0] at MT
   rw [decide_eq_true h1] at MM
   clear h0 h1
   go_enter Tryz.func51, Tryz.ntmps51
   go_wp2_with fail
   rw [← hw0]
   clear hw0
   refine (MT.out _ X.out.two.dsk.dsk).mono ?_
   rintro e w1 ⟨rfl, hb⟩
   have BB := Lh (BB.out.trans (hb.mono BB.out.size))
   have X := Lh (X.out.below hb)
   clear hb MT c0 c1 c2 c3 c4 c5 c6 c7 d0 d1 d2 d3 d4 d5
   obtain ⟨⟨c0, c1, c2, c3, c4, c5, c6, c7⟩, d0, d1, d2, d3, d4, d5⟩ := X.out.cells
   go_wp2_with fail
   refine (MM.out _ X.out.tab).mono ?_
   rintro e w2 ⟨rfl, hb⟩
   have BB := Lh (BB.out.trans (hb.mono BB.out.size))
   clear hb MM
   go_wp2
   go_ret
   exact ⟨rfl, BB.out⟩
  ·rw [if_neg (fun q => h1 q.2)]
   rw [decide_eq_true h0] at MT
   rw [decide_eq_false h1] at MM
   clear h0 h1
   go_enter Tryz.func51, Tryz.ntmps51
   go_wp2_with fail
   rw [← hw0]
   clear hw0
   refine (MT.out _ X.out.two.dsk.dsk).mono ?_
   rintro e w1 ⟨rfl, hb⟩
   have BB := Lh (BB.out.trans (hb.mono BB.out.size))
   have X := Lh (X.out.below hb)
   clear hb MT c0 c1 c2 c3 c4 c5 c6 c7 d0 d1 d2 d3 d4 d5
   obtain ⟨⟨c0, c1, c2, c3, c4, c5, c6, c7⟩, d0, d1, d2, d3, d4, d5⟩ := X.out.cells
   go_wp2_with fail
   refine (MM.out _ X.out.tab).mono ?_
   rintro e w2 ⟨rfl, hb⟩
   have BB := Lh (BB.out.trans (hb.mono BB.out.size))
   clear hb MM
   go_wp2
   go_ret
   exact ⟨rfl, BB.out⟩
 ·rw [if_neg (fun q => h0 q.1)]
  rw [decide_eq_false h0] at MT
  clear h0
  go_enter Tryz.func51, Tryz.ntmps51
  go_wp2_with fail
  rw [← hw0]
  clear hw0
  refine (MT.out _ X.out.two.dsk.dsk).mono ?_
  rintro e w1 ⟨rfl, hb⟩
  have BB := Lh (BB.out.trans (hb.mono BB.out.size))
  have X := Lh (X.out.below hb)
  clear hb MT c0 c1 c2 c3 c4 c5 c6 c7 d0 d1 d2 d3 d4 d5
  obtain ⟨⟨c0, c1, c2, c3, c4, c5, c6, c7⟩, d0, d1, d2, d3, d4, d5⟩ := X.out.cells
  go_wp2
  go_ret
  exact ⟨rfl, BB.out⟩
theorem same12_yes (v a g n u : Int) (B : Option Addr) (k c : Nat) (B' : Option Addr) (c' : Nat) (t : List Rc) (w : World) (ht : Recs w B k c t) (ht' : Recs w B' k c' t) :
  Calls Tryz.prog 23 #[metV v a g n u B k c, metV v a g n u B' k c'] w fun e w' => e = .returned (.bool true) ∧ Below w.heap.size w w' := by
 obtain ⟨x, hb⟩ := met_box w v a g n u B k c
 obtain ⟨w0, hw0⟩ : ∃ w0, w0 = w.alloc (.cells #[.int .u32 v, .int .i64 a, .int .u64 g, .int .i64 n, .int .i64 u, .slice B k c] 32) := ⟨_, rfl⟩
 rw [← hw0] at x hb
 have hs0 : w0.heap.size = w.heap.size + 1 := by rw [hw0, World.size_alloc]
 obtain ⟨y, hb1⟩ := met_box w0 v a g n u B' k c'
 obtain ⟨w1, hw1⟩ : ∃ w1, w1 = w0.alloc (.cells #[.int .u32 v, .int .i64 a, .int .u64 g, .int .i64 n, .int .i64 u, .slice B' k c'] 32) := ⟨_, rfl⟩
 rw [← hw1, hs0] at y
 rw [← hw1] at hb1
 have x := x.below hb1 x.lt
 have hb := hb.trans (hb1.mono hb.size)
 have SM := Lh (same11_any B k c t B' k c' t w1 (ht.below hb) (ht'.below hb))
 rw [decide_eq_true (show t = t from rfl)] at SM
 have BB := Lh hb
 obtain ⟨d0, d1, d2, d3, d4, d5⟩ := x.met
 obtain ⟨e0, e1, e2, e3, e4, e5⟩ := y.met
 have EQ := fun (wx : World) => eq_sup v a g v a g wx
 rw [show (v == v && a == a && g == g) = true by simp] at EQ
 clear x y hb hb1 ht ht' hs0
 go_enter Tryz.func23, Tryz.ntmps23
 go_wp2_with fail
 rw [← hw0, ← hw1]
 refine SM.out.mono ?_
 rintro e w2 ⟨rfl, q, rfl⟩
 go_wp2
 go_ret
 exact ⟨rfl, by rw [← hw0, ← hw1]; exact below_drewN BB.out q⟩
def MetOut (w : World) (m : Mt) (E : Int) (e : Ending) (w' : World) : Prop := ∃ A' c', e = .returned (.tuple #[metV m.s.1 m.s.2.1 m.s.2.2 m.n m.u A' m.t.length c', .int .i64 E]) ∧ OwnRecs w' w.heap.size A' m.t.length c' m.t ∧ Below w.heap.size w w'
theorem sup_box (w : World) (v a g : Int) : Blk (w.alloc (.cells #[.int .u32 v, .int .i64 a, .int .u64 g] 29)) w.heap.size 29 [.int .u32 v, .int .i64 a, .int .u64 g] ∧ Below w.heap.size w (w.alloc (.cells #[.int .u32 v, .int .i64 a, .int .u64 g] 29)) := ⟨Blk.new w 29 [.int .u32 v, .int .i64 a, .int .u64 g], (Below.refl _ _).alloc (Nat.le_refl _) _⟩
theorem srV_good {P T A M W Q : Int} {S : List Sec} {C : List Pnd} (hS : ∀ s ∈ S, ∀ z ∈ s.2, isByte z) (hC : ∀ p ∈ C, ∀ z ∈ p.2, isByte z) (h : srE P T A M W Q S C = 0) : mayT P T A M W Q S C ∧ arS (srV P T A M W Q S C).2.1 ∧ isS (srV P T A M W Q S C) := by
 have hm : mayT P T A M W Q S C := Classical.byContradiction fun hm => by
  unfold srE at h
  rw [if_neg hm] at h
  cases h
 have e : srV P T A M W Q S C = smV S C := if_pos hm
 refine ⟨hm, ?_, by rw [e]; exact smV_is hS hC⟩
 rw [e]
 unfold smV
 split
 ·split
  ·rename_i _ hk
   have := (suV_is hk.1 (crB_byte hS hC 0 1)).2
   have h4 := hk.2
   unfold isByte suV at this
   unfold arS suV
   dsimp only at this ⊢
   omega
  ·exact .inl rfl
 ·exact .inl rfl
theorem ropen12_any (P T A M W Q : Int) (D : Option Addr) (nd d : Nat) (D' : Option Addr) (nd' d' : Nat) (S : List Sec) (C : List Pnd) (w : World) (hq : Dsk w D nd d D' nd' d' S C) (hs : SmallD S C) :
  Calls Tryz.prog 21 #[cfgV P T A M W Q, diskV D nd d D' nd' d'] w (MetOut w (moV P T A M W Q S C) (moE P T A M W Q S C)) := by
 obtain ⟨x, hbel⟩ := MBox.new P T A M W Q 0 0 0 0 0 hq (Recs.nil w)
 obtain ⟨w0, hw0⟩ : ∃ x : World, x = (((w.alloc (.cells #[.int .i64 P, .int .i64 T, .int .i64 A, .int .i64 M, .int .i64 W, .int .i64 Q] 36)).alloc (.cells #[.slice D nd d, .slice D' nd' d'] 25)).alloc (.cells #[.int .u32 0, .int .i64 0, .int .u64 0, .int .i64 0, .int .i64 0, .slice none 0 0] 32)) := ⟨_, rfl⟩
 rw [← hw0] at x hbel
 have X := Lh x
 have BB := Lh hbel
 have RD := Lh (fun wx hx => rread9_any P T A M W Q D nd d D' nd' d' S C wx hx hs)
 unfold SupOut at RD
 have GOOD := Lh (srV_good (P := P) (T := T) (A := A) (M := M) (W := W) (Q := Q) (S := S) (C := C) hq.secs.byte hq.pnds.byte)
 obtain ⟨⟨c0, c1, c2, c3, c4, c5, c6, c7⟩, d0, d1, d2, d3, d4, d5⟩ := x.cells
 clear x hbel hq
 unfold MetOut
 by_cases h0 : srE P T A M W Q S C = 0
 ·obtain ⟨hm, har, his⟩ := GOOD.out h0
  rw [h0] at RD
  obtain ⟨L, hL⟩ : ∃ y, y = opL P T A M W Q S C := ⟨_, rfl⟩
  have HM : moE P T A M W Q S C = ansE (tabR L) ∧ moV P T A M W Q S C = if ansE (tabR L) = 0 then ⟨srV P T A M W Q S C, (L.length : Int), 0, ansL (tabR L)⟩ else zM := by
   have e : moE P T A M W Q S C = ansE (tabR L) := by unfold moE; rw [if_pos h0, hL]
   refine ⟨e, ?_⟩
   unfold moV
   rw [e, hL]
  rw [HM.1, HM.2]
  unfold opL at hL
  obtain ⟨V1, hV1⟩ : ∃ y, y = (srV P T A M W Q S C).1 := ⟨_, rfl⟩
  obtain ⟨V2, hV2⟩ : ∃ y, y = (srV P T A M W Q S C).2.1 := ⟨_, rfl⟩
  obtain ⟨V3, hV3⟩ : ∃ y, y = (srV P T A M W Q S C).2.2 := ⟨_, rfl⟩
  have hV : srV P T A M W Q S C = (V1, V2, V3) := by rw [hV1, hV2, hV3]
  rw [hV] at RD har his hL ⊢
  dsimp only at RD har his hL ⊢
  have RN := Lh (fun wx hx => rnotes_any P T A M W Q D nd d D' nd' d' S C V2 V3 wx hx hs hm (show arJ V2 by unfold arS at har; unfold arJ; omega) his.2)
  rw [← hL] at RN
  have hfew : L.length ≤ 100 := by
   rw [hL, jN_length]
   have := jM_le (jf S C A V2 V3) A.toNat
   have hA := hm.1
   unfold mayC at hA
   omega
  obtain ⟨ln, hln⟩ : ∃ y, y = L.length := ⟨_, rfl⟩
  have RT := Lh (fun A' c' wx hx => rtable11_any A' ln c' L wx hx)
  unfold PutOut at RT
  rw [← hln] at RN hfew ⊢
  clear hm har his hV hV1 hV2 hV3 hL hln GOOD HM h0 hs
  rcases ho : tabR L with _ | t
  ·rw [ho] at RT
   rw [if_neg (show ¬ ansE none = 0 by decide)]
   dsimp only [ansE, ansL, zM, List.length_nil] at RT ⊢
   clear ho
   go_enter Tryz.func21, Tryz.ntmps21
   go_wp2_with fail
   rw [← hw0]
   clear hw0
   refine (RD.out _ X.out.two.dsk.dsk).mono ?_
   rintro e w1 ⟨rfl, hb⟩
   have BB := Lh (BB.out.trans (hb.mono BB.out.size))
   have X := Lh (X.out.below hb)
   clear hb RD c0 c1 c2 c3 c4 c5 c6 c7 d0 d1 d2 d3 d4 d5
   obtain ⟨z, hk⟩ := sup_box w1 V1 V2 V3
   have BB := Lh (BB.out.trans (hk.mono BB.out.size))
   have X := Lh (X.out.below hk)
   have Z := Lh z
   obtain ⟨⟨c0, c1, c2, c3, c4, c5, c6, c7⟩, d0, d1, d2, d3, d4, d5⟩ := X.out.cells
   obtain ⟨y0, y1, y2⟩ := z.tri
   clear z hk
   go_wp2_with fail
   refine (RN.out _ X.out.two.dsk.dsk).mono ?_
   rintro e w3 ⟨A3, x3, rfl, hown, hb⟩
   have T3 := Lh hown.texts
   have BB := Lh (BB.out.trans (hb.mono BB.out.size))
   have X := Lh (X.out.below hb)
   have Z := Lh (Z.out.below hb Z.out.lt)
   clear hown hb RN c0 c1 c2 c3 c4 c5 c6 c7 d0 d1 d2 d3 d4 d5 y0 y1 y2
   obtain ⟨⟨c0, c1, c2, c3, c4, c5, c6, c7⟩, d0, d1, d2, d3, d4, d5⟩ := X.out.cells
   obtain ⟨y0, y1, y2⟩ := Z.out.tri
   go_wp2_with fail
   refine (RT.out _ _ _ T3.out).mono ?_
   rintro e w4 ⟨A4, x4, rfl, hown, hb⟩
   have O4 := Lh hown
   have G3 := Lh X.out.met.lt
   have BB := Lh (BB.out.trans (hb.mono BB.out.size))
   have X := Lh (X.out.below hb)
   have Z := Lh (Z.out.below hb Z.out.lt)
   clear hown hb RT T3 c0 c1 c2 c3 c4 c5 c6 c7 d0 d1 d2 d3 d4 d5 y0 y1 y2
   obtain ⟨⟨c0, c1, c2, c3, c4, c5, c6, c7⟩, d0, d1, d2, d3, d4, d5⟩ := X.out.cells
   obtain ⟨y0, y1, y2⟩ := Z.out.tri
   have f0 := X.out.met.free
   go_wp2
   obtain ⟨z0, z1, z2, z3, z4, z5⟩ := (X.out.met.sixM 0 0 0 0 0 none 0 0).met
   refine bodyPost_ret (v := .tuple #[metV 0 0 0 0 0 none 0 0, .int .i64 110]) ?_ rfl ⟨_, _, rfl, OwnRecs.nil _ _, below_sixM BB.out (by omega) 0 0 0 0 0 none 0 0⟩
   clear c0 c1 c2 c3 c4 c5 c6 c7 d0 d1 d2 d3 d4 d5 y0 y1 y2 f0
   simp [results, Tryz.f21, go_sem, z0, z1, z2, z3, z4, z5]
  ·rw [ho] at RT
   rw [if_pos (show ansE (some t) = 0 from rfl)]
   dsimp only [ansE, ansL] at RT ⊢
   obtain ⟨tn, htn⟩ : ∃ y, y = t.length := ⟨_, rfl⟩
   rw [← htn] at RT ⊢
   clear ho htn
   go_enter Tryz.func21, Tryz.ntmps21
   go_wp2_with fail
   rw [← hw0]
   clear hw0
   refine (RD.out _ X.out.two.dsk.dsk).mono ?_
   rintro e w1 ⟨rfl, hb⟩
   have BB := Lh (BB.out.trans (hb.mono BB.out.size))
   have X := Lh (X.out.below hb)
   clear hb RD c0 c1 c2 c3 c4 c5 c6 c7 d0 d1 d2 d3 d4 d5
   obtain ⟨z, hk⟩ := sup_box w1 V1 V2 V3
   have BB := Lh (BB.out.trans (hk.mono BB.out.size))
   have X := Lh (X.out.below hk)
   have Z := Lh z
   obtain ⟨⟨c0, c1, c2, c3, c4, c5, c6, c7⟩, d0, d1, d2, d3, d4, d5⟩ := X.out.cells
   obtain ⟨y0, y1, y2⟩ := z.tri
   clear z hk
   go_wp2_with fail
   refine (RN.out _ X.out.two.dsk.dsk).mono ?_
   rintro e w3 ⟨A3, x3, rfl, hown, hb⟩
   have T3 := Lh hown.texts
   have BB := Lh (BB.out.trans (hb.mono BB.out.size))
   have X := Lh (X.out.below hb)
   have Z := Lh (Z.out.below hb Z.out.lt)
   clear hown hb RN c0 c1 c2 c3 c4 c5 c6 c7 d0 d1 d2 d3 d4 d5 y0 y1 y2
   obtain ⟨⟨c0, c1, c2, c3, c4, c5, c6, c7⟩, d0, d1, d2, d3, d4, d5⟩ := X.out.cells
   obtain ⟨y0, y1, y2⟩ := Z.out.tri
   go_wp2_with fail
   refine (RT.out _ _ _ T3.out).mono ?_
   rintro e w4 ⟨A4, x4, rfl, hown, hb⟩
   have O4 := Lh hown
   have G3 := Lh X.out.met.lt
   have BB := Lh (BB.out.trans (hb.mono BB.out.size))
   have X := Lh (X.out.below hb)
   have Z := Lh (Z.out.below hb Z.out.lt)
   clear hown hb RT T3 c0 c1 c2 c3 c4 c5 c6 c7 d0 d1 d2 d3 d4 d5 y0 y1 y2
   obtain ⟨⟨c0, c1, c2, c3, c4, c5, c6, c7⟩, d0, d1, d2, d3, d4, d5⟩ := X.out.cells
   obtain ⟨y0, y1, y2⟩ := Z.out.tri
   have f0 := X.out.met.free
   go_wp2
   obtain ⟨z0, z1, z2, z3, z4, z5⟩ := (X.out.met.sixM V1 V2 V3 (ln : Int) 0 A4 tn x4).met
   refine bodyPost_ret (v := .tuple #[metV V1 V2 V3 (ln : Int) 0 A4 tn x4, .int .i64 0]) ?_ rfl ⟨_, _, rfl, OwnRecs.lower (OwnRecs.sixM O4.out (G := w.heap.size + 2) G3.out V1 V2 V3 (ln : Int) 0 A4 tn x4) (by have := G3.out; omega), below_sixM BB.out (by omega) V1 V2 V3 (ln : Int) 0 A4 tn x4⟩
   clear c0 c1 c2 c3 c4 c5 c6 c7 d0 d1 d2 d3 d4 d5 y0 y1 y2 f0
   simp [results, Tryz.f21, go_sem, z0, z1, z2, z3, z4, z5]
 ·have HM : moE P T A M W Q S C = srE P T A M W Q S C ∧ moV P T A M W Q S C = zM := by
   have e : moE P T A M W Q S C = srE P T A M W Q S C := by unfold moE; rw [if_neg h0]
   refine ⟨e, ?_⟩
   unfold moV
   rw [e, if_neg h0]
  rw [HM.1, HM.2]
  dsimp only [zM, List.length_nil]
  obtain ⟨E, hE⟩ : ∃ y, y = srE P T A M W Q S C := ⟨_, rfl⟩
  obtain ⟨V1, hV1⟩ : ∃ y, y = (srV P T A M W Q S C).1 := ⟨_, rfl⟩
  obtain ⟨V2, hV2⟩ : ∃ y, y = (srV P T A M W Q S C).2.1 := ⟨_, rfl⟩
  obtain ⟨V3, hV3⟩ : ∃ y, y = (srV P T A M W Q S C).2.2 := ⟨_, rfl⟩
  rw [← hE] at h0
  rw [← hE, ← hV1, ← hV2, ← hV3] at RD
  rw [← hE]
  clear hE hV1 hV2 hV3 GOOD HM hs
  have hz : (E != 0) = true := by simpa using h0
  go_enter Tryz.func21, Tryz.ntmps21
  go_wp2_with fail
  rw [← hw0]
  clear hw0
  refine (RD.out _ X.out.two.dsk.dsk).mono ?_
  rintro e w1 ⟨rfl, hb⟩
  have BB := Lh (BB.out.trans (hb.mono BB.out.size))
  have X := Lh (X.out.below hb)
  clear hb RD c0 c1 c2 c3 c4 c5 c6 c7 d0 d1 d2 d3 d4 d5
  obtain ⟨z, hk⟩ := sup_box w1 V1 V2 V3
  have BB := Lh (BB.out.trans (hk.mono BB.out.size))
  have X := Lh (X.out.below hk)
  have Z := Lh z
  obtain ⟨⟨c0, c1, c2, c3, c4, c5, c6, c7⟩, d0, d1, d2, d3, d4, d5⟩ := X.out.cells
  obtain ⟨y0, y1, y2⟩ := z.tri
  clear z hk
  have f0 := X.out.met.free
  go_wp2
  obtain ⟨z0, z1, z2, z3, z4, z5⟩ := (X.out.met.sixM 0 0 0 0 0 none 0 0).met
  refine bodyPost_ret (v := .tuple #[metV 0 0 0 0 0 none 0 0, .int .i64 E]) ?_ rfl ⟨_, _, rfl, OwnRecs.nil _ _, below_sixM BB.out (by omega) 0 0 0 0 0 none 0 0⟩
  clear c0 c1 c2 c3 c4 c5 c6 c7 d0 d1 d2 d3 d4 d5 y0 y1 y2 f0
  simp [results, Tryz.f21, go_sem, z0, z1, z2, z3, z4, z5]
end Go.Proofs.YtifgcfepbenpjaaGreat
namespace Go.Proofs.YtifgcfepbenpjaaGreat
open Go.RowKit Go.OpenShut Go.ChangeShapes Go.WideShapes Go.Deep Go.Joins
abbrev actV (k x : Int) (A : Option Addr) (n c : Nat) : Value := .agg #[.int .u8 k, .int .i64 x, .slice A n c, .int .u32 0, .int .u32 0, .int .u8 0, .int .i64 0, .bool false, .int .i64 0, .int .u32 0, .int .u32 0, .int .i64 0, .int .u8 0, .int .i64 0, .bool false, .bool false, .int .u8 0, .int .u32 0, .int .u32 0, .int .i64 0, .int .u32 0, .int .i64 0, .slice none 0 0, .slice none 0 0, .int .i64 0, .int .i64 0, .int .u8 0, .slice none 0 0, .int .i64 0]
abbrev actL (k x : Int) (A : Option Addr) (n c : Nat) : List Value := [.int .u8 k, .int .i64 x, .slice A n c, .int .u32 0, .int .u32 0, .int .u8 0, .int .i64 0, .bool false, .int .i64 0, .int .u32 0, .int .u32 0, .int .i64 0, .int .u8 0, .int .i64 0, .bool false, .bool false, .int .u8 0, .int .u32 0, .int .u32 0, .int .i64 0, .int .u32 0, .int .i64 0, .slice none 0 0, .slice none 0 0, .int .i64 0, .int .i64 0, .int .u8 0, .slice none 0 0, .int .i64 0]
theorem act_info : (Tryz.prog.info? 75).map (fun i => (i.zero, i.size, i.bytes)) = some (some (actV 0 0 none 0 0), 29, 264) := by kernel_rfl
abbrev Ax := Int × Int × (Option Addr × Nat × Nat)
def axL (a : Ax) : List Value := actL a.1 a.2.1 a.2.2.1 a.2.2.2.1 a.2.2.2.2
def acsV (L : List Ax) : List Value := L.flatMap axL
theorem axL_length (a : Ax) : (axL a).length = 29 := rfl
def zAx : Ax := (0, 0, none, 0, 0)
theorem acsV_at {L : List Ax} {i j : Nat} (hi : i < L.length) (hj : j < 29) : (acsV L)[i * 29 + j]? = (axL (L.getD i zAx))[j]? := by
 induction L generalizing i with
 | nil => exact absurd hi (Nat.not_lt_zero _)
 | cons r L ih =>
  have e : acsV (r :: L) = axL r ++ acsV L := rfl
  rw [e]
  cases i with
  | zero =>
   rw [Nat.zero_mul, Nat.zero_add, List.getElem?_append_left (by rw [axL_length]; exact hj)]
   rfl
  | succ i =>
   rw [List.getElem?_append_right (by rw [axL_length]; omega), show (i + 1) * 29 + j - (axL r).length = i * 29 + j by rw [axL_length]; omega, ih (by simpa using hi)]
   rfl
theorem acsV_app (L M : List Ax) : acsV (L ++ M) = acsV L ++ acsV M := List.flatMap_append
theorem acsV_one (r : Ax) : acsV [r] = axL r := by simp [acsV]
theorem one_act (r : Ax) : ∀ v ∈ axL r, v.oneCell' = true := by
 have h : (axL r).all (fun v => v.oneCell') = true := rfl
 intro v hv
 exact List.all_eq_true.1 h v hv
def OwnAcs (w : World) (base : Nat) (A : Option Addr) (n c : Nat) (L : List Ax) : Prop := w.ownsRow base 75 29 (.slice A n c) n (acsV L) ∧ L.length = n
section
variable {w w' : World} {base base' : Nat} {A : Option Addr} {n c : Nat} {L : List Ax}
theorem OwnAcs.below (h : OwnAcs w base A n c L) (hb : Below w.heap.size w w') : OwnAcs w' base A n c L := ⟨owns_below h.1 hb, h.2⟩
theorem OwnAcs.lower (h : OwnAcs w base A n c L) (hb : base' ≤ base) : OwnAcs w base' A n c L := ⟨owns_base h.1 hb, h.2⟩
theorem OwnAcs.nil (w : World) (base : Nat) : OwnAcs w base none 0 0 [] := ⟨World.ownsRow_nil _ _ _ _, rfl⟩
theorem OwnAcs.keep (h : OwnAcs w base A n c L) (hk : ∀ (g : Nat) (cs : Array Value), base ≤ g → w.heap[g]? = some (.cells cs 75 (0, 0)) → w'.heap[g]? = w.heap[g]?) : OwnAcs w' base A n c L :=
 ⟨owns_keep h.1 fun g cs hg hc => hk g cs hg hc, h.2⟩
theorem OwnAcs.away (h : OwnAcs w base A n c L) {g : Nat} (hg : g < base) (i : Nat) (u : Value) : OwnAcs (w.setCell ⟨g, i, none⟩ u) base A n c L :=
 h.keep fun g' _ hb hc => (grownBy_set w g i u).block g' (Array.getElem?_eq_some_iff.1 hc).1 (fun e => by injection e with e; omega)
theorem OwnAcs.cell (h : OwnAcs w base A n c L) {i : Nat} (hi : i < n) : ∃ b, A = some ⟨b, 0, none⟩ ∧ b < w.heap.size ∧ ∀ j v, (axL (L.getD i zAx))[j]? = some v → w.cell? ⟨b, i * 29 + j, none⟩ = some v := by
 obtain ⟨hown, hl⟩ := h
 have h0 : (acsV L)[i * 29 + 0]? = some (.int .u8 (L.getD i zAx).1) := by rw [acsV_at (by omega) (by omega)]; rfl
 obtain ⟨b, e, hlt, _⟩ := owns_cell hown h0
 refine ⟨b, e, hlt, fun j v hv => ?_⟩
 have hj : j < 29 := by
  rcases Nat.lt_or_ge j 29 with hj | hj
  ·exact hj
  ·rw [List.getElem?_eq_none (by rw [axL_length]; exact hj)] at hv; cases hv
 have h1 : (acsV L)[i * 29 + j]? = some v := by rw [acsV_at (by omega) hj]; exact hv
 obtain ⟨b', e', _, hc⟩ := owns_cell hown h1
 rw [e] at e'
 cases e'
 exact hc
theorem OwnAcs.row (h : OwnAcs w base A n c L) {i : Nat} (hi : i < n) : ∃ b, A = some ⟨b, 0, none⟩ ∧ b < w.heap.size ∧ w.cell? ⟨b, i * 29, none⟩ = some (.int .u8 (L.getD i zAx).1) ∧ w.cell? ⟨b, i * 29 + 1, none⟩ = some (.int .i64 (L.getD i zAx).2.1) ∧ w.cell? ⟨b, i * 29 + 2, none⟩ = some (.slice (L.getD i zAx).2.2.1 (L.getD i zAx).2.2.2.1 (L.getD i zAx).2.2.2.2) := by
 obtain ⟨b, e, hlt, hc⟩ := h.cell hi
 exact ⟨b, e, hlt, hc 0 _ rfl, hc 1 _ rfl, hc 2 _ rfl⟩
theorem run_acs (w0 w : World) (ty : TypeId) (A0 : Option Addr) (n0 c0 : Nat) (M : List Ax) (hown : OwnAcs w base A0 n0 c0 M) (r : Ax) (h63 : n0 + 1 ≤ 100000) (hbel : Below base w0 w) (hw0 : base ≤ w0.heap.size) :
  ∃ A' c' w', (Builtin.append_ #[38, 38] ty #[.slice A0 n0 c0, .slice (some ⟨w.heap.size, 0, none⟩) 1 1]).run Tryz.prog (w.alloc (.cells (axL r).toArray 75)) = .ok (.slice A' (n0 + 1) c') w' ∧ OwnAcs w' base A' (n0 + 1) c' (M ++ [r]) ∧ Below base w0 w' := by
 obtain ⟨i, hi, hz, hsize, hby⟩ := info_parts act_info
 have hml : (100000 : Nat) ≤ maxLen := by decide
 have hbase : base ≤ w.heap.size := Nat.le_trans hw0 hbel.size
 have hlit := Blk.new w 75 (axL r)
 have hcs : ∀ j u, (axL r)[j]? = some u → (w.alloc (.cells (axL r).toArray 75)).cell? ((⟨w.heap.size, 0, none⟩ : Addr).add j) = some u := by
  intro j u hu
  have e2 : (⟨w.heap.size, 0, none⟩ : Addr).add j = ⟨w.heap.size, 0 + j, none⟩ := by unfold Addr.add; split <;> simp_all
  rw [e2, Nat.zero_add, hlit.cell j]
  exact hu
 obtain ⟨v', w', h, r2, r3, _, _⟩ := run_append_own_at (P := Tryz.prog) (w.alloc (.cells (axL r).toArray 75)) base 38 ty 75 i _ 29 264 Tryz.underlying38 hi hz hsize hby rfl (by omega) _ n0 (acsV M) (hown.1.alloc _) ⟨w.heap.size, 0, none⟩ 1 1 (axL r) rfl hcs (one_act r) (by omega) (by omega) (by simp; omega)
 obtain ⟨g', c', rfl⟩ := ownsRow_some r2
 exact ⟨some ⟨g', 0, none⟩, c', w', h, ⟨by rw [acsV_app, acsV_one]; exact r2, by simp [hown.2]⟩, (hbel.alloc hbase _).grown r3 (by simp; omega) (fun g e => (hown.1.lt g e).1)⟩
theorem wpList_acs (w0 w : World) {ops : Array Oper} {rest : List Oper} {o : Oper} {a : Act} {Q : Exit → Act → World → Prop} (hw : Region.wanted o (yielded ops a.tmps) = true) (s x : Operand)
  (ho : o.op = .call { callee := .builtin .append, args := #[s, x], argTypes := #[38, 38] }) (base : Nat) (A0 : Option Addr) (n c0 : Nat) (M : List Ax) (hs : a.eval s = .slice A0 n c0) (hown : OwnAcs w base A0 n c0 M)
  (r : Ax) (hx : a.eval x = .slice (some ⟨w.heap.size, 0, none⟩) 1 1) (h63 : n + 1 ≤ 100000) (hbel : Below base w0 w) (hw0 : base ≤ w0.heap.size)
  (h : ∀ A' c' w', OwnAcs w' base A' (n + 1) c' (M ++ [r]) → Below base w0 w' → wpList Tryz.prog ops Q rest (a.put o.dst (.slice A' (n + 1) c')) w') : wpList Tryz.prog ops Q (o :: rest) a (w.alloc (.cells (axL r).toArray 75)) := by
 refine wpList_want hw fun K hK => ?_
 obtain ⟨A', c', w', hrun, h2, h3⟩ := run_acs w0 w o.type A0 n c0 M hown r h63 hbel hw0
 unfold Oper.wp execOp
 simp only [ho, resolve, invoke, builtin, Sem.run_bind, Sem.run_pure, Result.andThen_ok, List.map_toArray, List.map_cons, List.map_nil, hs, hx, hrun]
 exact hK _ _ (h A' c' w' h2 h3)
theorem step_acs (w0 w : World) {ops : Array Oper} {o : Oper} {a : Act} {K : Act → World → Prop} {Q : Exit → Act → World → Prop} {E : Prop} (hgd : o.guard = none) (s x : Operand)
  (ho : o.op = .call { callee := .builtin .append, args := #[s, x], argTypes := #[38, 38] }) (base : Nat) (A0 : Option Addr) (n c0 : Nat) (M : List Ax) (hs : a.eval s = .slice A0 n c0) (hown : OwnAcs w base A0 n c0 M)
  (r : Ax) (hx : a.eval x = .slice (some ⟨w.heap.size, 0, none⟩) 1 1) (h63 : n + 1 ≤ 100000) (hbel : Below base w0 w) (hw0 : base ≤ w0.heap.size)
  (h : ∀ A' c' w', OwnAcs w' base A' (n + 1) c' (M ++ [r]) → Below base w0 w' → K (a.put o.dst (.slice A' (n + 1) c')) w') :
  if Region.wanted o (yielded ops a.tmps) = true then Oper.wp Tryz.prog o a (w.alloc (.cells (axL r).toArray 75)) K Q else E := by
 have hw : Region.wanted o (yielded ops a.tmps) = true := by simp [Region.wanted, hgd]
 rw [if_pos hw]
 obtain ⟨A', c', w', hrun, h2, h3⟩ := run_acs w0 w o.type A0 n c0 M hown r h63 hbel hw0
 unfold Oper.wp execOp
 simp only [ho, resolve, invoke, builtin, Sem.run_bind, Sem.run_pure, Result.andThen_ok, List.map_toArray, List.map_cons, List.map_nil, hs, hx, hrun]
 exact h A' c' w' h2 h3
end
def AxIs (w : World) (L : List Ax) (l : List Ac) : Prop := l.length = L.length ∧ ∀ i, i < L.length → (L.getD i zAx).1 = (l.getD i (0, 0, [])).1 ∧ (L.getD i zAx).2.1 = (l.getD i (0, 0, [])).2.1 ∧ Arg w .u8 (L.getD i zAx).2.2.1 (L.getD i zAx).2.2.2.1 (L.getD i zAx).2.2.2.2 (l.getD i (0, 0, [])).2.2
theorem AxIs.below {w w' : World} {L : List Ax} {l : List Ac} (h : AxIs w L l) (hb : Below w.heap.size w w') : AxIs w' L l := ⟨h.1, fun i hi => ⟨(h.2 i hi).1, (h.2 i hi).2.1, (h.2 i hi).2.2.below hb⟩⟩
theorem AxIs.nil (w : World) : AxIs w [] [] := ⟨rfl, fun i hi => absurd hi (Nat.not_lt_zero _)⟩
theorem AxIs.snoc {w : World} {L : List Ax} {l : List Ac} (h : AxIs w L l) {k x : Int} {A : Option Addr} {n c : Nat} {b : Txt} (hb : Arg w .u8 A n c b) : AxIs w (L ++ [(k, x, A, n, c)]) (l ++ [(k, x, b)]) := by
 refine ⟨by simp [h.1], fun i hi => ?_⟩
 rw [List.length_append] at hi
 by_cases hl : i < L.length
 ·have := h.2 i hl
  rw [gtD, List.getElem?_append_left hl, gtD, List.getElem?_append_left (by rw [h.1]; exact hl), ← gtD, ← gtD]
  exact this
 ·have e : i = L.length := by simp at hi; omega
  subst e
  rw [gtD, List.getElem?_append_right (Nat.le_refl _), gtD, List.getElem?_append_right (by rw [h.1]; exact Nat.le_refl _), h.1]
  simp only [Nat.sub_self, gcZ, Option.getD_some]
  exact ⟨trivial, trivial, hb⟩
end Go.Proofs.YtifgcfepbenpjaaGreat
namespace Go.Proofs.YtifgcfepbenpjaaGreat
open Go.RowKit Go.OpenShut Go.ChangeShapes Go.WideShapes Go.Deep Go.Joins
def OwnActs (w : World) (base : Nat) (A : Option Addr) (n c : Nat) (l : List Ac) : Prop :=
 ∃ L, OwnAcs w base A n c L ∧ l.length = n ∧ (∀ a ∈ l, ∀ z ∈ a.2.2, isByte z) ∧
  ∀ i, i < n → (L.getD i zAx).1 = (l.getD i (0, 0, [])).1 ∧ (L.getD i zAx).2.1 = (l.getD i (0, 0, [])).2.1 ∧ OwnTxt w base (L.getD i zAx).2.2.1 (L.getD i zAx).2.2.2.1 (L.getD i zAx).2.2.2.2 (l.getD i (0, 0, [])).2.2
section
variable {w w' : World} {base base' : Nat} {A : Option Addr} {n c : Nat} {l : List Ac}
theorem OwnActs.is (h : OwnActs w base A n c l) : ∃ L, OwnAcs w base A n c L ∧ AxIs w L l := by
 obtain ⟨L, h1, h2, _, h4⟩ := h
 exact ⟨L, h1, by rw [h1.2, h2], fun i hi => ⟨(h4 i (by rw [← h1.2]; exact hi)).1, (h4 i (by rw [← h1.2]; exact hi)).2.1, (h4 i (by rw [← h1.2]; exact hi)).2.2.arg⟩⟩
theorem OwnActs.len (h : OwnActs w base A n c l) : l.length = n := by
 obtain ⟨_, _, h2, _⟩ := h
 exact h2
theorem OwnActs.below (h : OwnActs w base A n c l) (hb : Below w.heap.size w w') : OwnActs w' base A n c l := by
 obtain ⟨L, h1, h2, h3, h4⟩ := h
 exact ⟨L, h1.below hb, h2, h3, fun i hi => ⟨(h4 i hi).1, (h4 i hi).2.1, (h4 i hi).2.2.below hb⟩⟩
theorem OwnActs.lower (h : OwnActs w base A n c l) (hb : base' ≤ base) : OwnActs w base' A n c l := by
 obtain ⟨L, h1, h2, h3, h4⟩ := h
 exact ⟨L, h1.lower hb, h2, h3, fun i hi => ⟨(h4 i hi).1, (h4 i hi).2.1, (h4 i hi).2.2.lower hb⟩⟩
theorem OwnActs.nil (w : World) (base : Nat) : OwnActs w base none 0 0 [] := ⟨[], OwnAcs.nil _ _, rfl, by simp, fun i hi => absurd hi (Nat.not_lt_zero _)⟩
theorem OwnActs.keep (h : OwnActs w base A n c l) (hk : ∀ (g : Nat) (e : TypeId) (cs : Array Value), (e = 75 ∨ e = 5) → base ≤ g → w.heap[g]? = some (.cells cs e (0, 0)) → w'.heap[g]? = w.heap[g]?) : OwnActs w' base A n c l := by
 obtain ⟨L, h1, h2, h3, h4⟩ := h
 refine ⟨L, h1.keep fun g cs hg hc => hk g _ cs (.inl rfl) hg hc, h2, h3, fun i hi => ⟨(h4 i hi).1, (h4 i hi).2.1, (h4 i hi).2.2.keep fun g hg hu => ?_⟩⟩
 obtain ⟨cs, hc⟩ := hu
 exact hk g _ cs (.inr rfl) hg hc
theorem OwnActs.kept (h : OwnActs w base A n c l) {row : Option Nat} (hg : w.grownBy w' row) (hr : ∀ g, row = some g → g < base) : OwnActs w' base A n c l :=
 h.keep fun g _ _ _ hb hc => hg.block g (Array.getElem?_eq_some_iff.1 hc).1 (fun e => by have := hr g e.symm; omega)
theorem OwnActs.away (h : OwnActs w base A n c l) {g : Nat} (hg : g < base) (i : Nat) (u : Value) : OwnActs (w.setCell ⟨g, i, none⟩ u) base A n c l :=
 h.kept (grownBy_set w g i u) (fun _ e => by injection e with e; omega)
end
def ColTo (w w' : World) : Prop := w.heap.size ≤ w'.heap.size ∧ ∀ g, g < w.heap.size → (∀ cs, w.heap[g]? ≠ some (.cells cs 75 (0, 0))) → (∀ cs, w.heap[g]? ≠ some (.cells cs 38 (0, 0))) → w'.heap[g]? = w.heap[g]?
theorem ColTo.of {B : Nat} {w w' : World} (h : Below B w w') (hB : w.heap.size ≤ B) : ColTo w w' := ⟨h.size, fun g hg _ _ => h.block g (Nat.lt_of_lt_of_le hg hB)⟩
theorem ColTo.trans {a b c : World} (h : ColTo a b) (k : ColTo b c) : ColTo a c :=
 ⟨Nat.le_trans h.1 k.1, fun g hg h1 h2 => by
  have e := h.2 g hg h1 h2
  exact (k.2 g (Nat.lt_of_lt_of_le hg h.1) (fun cs => by rw [e]; exact h1 cs) (fun cs => by rw [e]; exact h2 cs)).trans e⟩
section
variable {w w' : World} {base g n c : Nat} {t : TypeId} {A : Option Addr} {cs : List Value}
theorem ColTo.block (h : ColTo w w') {cs : Array Value} {fz : Nat × Nat} (hb : w.heap[g]? = some (.cells cs t fz)) (h1 : t ≠ 75) (h2 : t ≠ 38) : w'.heap[g]? = w.heap[g]? :=
 h.2 g (Array.getElem?_eq_some_iff.1 hb).1 (fun cs e => by rw [hb] at e; simp at e; exact h1 e.2.1) (fun cs e => by rw [hb] at e; simp at e; exact h2 e.2.1)
theorem ColTo.blk (h : ColTo w w') (hb : Blk w g t cs) (h1 : t ≠ 75) (h2 : t ≠ 38) : Blk w' g t cs := (h.block hb h1 h2).trans hb
theorem ColTo.pnds (h : ColTo w w') {ss : List Pnd} (ho : OwnPnds w base A n c ss) : OwnPnds w' base A n c ss := ho.keep fun g e cs he _ hc => by
 rcases he with rfl | rfl
 ·exact h.block hc (by decide) (by decide)
 ·exact h.block hc (by decide) (by decide)
end
def Gath (w : World) (G : Nat) (l : List Ac) : Prop := ∃ A n c, Blk w G 38 [.slice A n c] ∧ OwnActs w (G + 1) A n c l
def GathOut (w : World) (G : Nat) (l : List Ac) (w' : World) : Prop := Gath w' G l ∧ Below G w w' ∧ ColTo w w'
theorem Gath.lt {w : World} {G : Nat} {l : List Ac} (h : Gath w G l) : G < w.heap.size := by
 obtain ⟨A, n, c, hb, _⟩ := h
 exact hb.lt
theorem Gath.below {w w' : World} {G : Nat} {l : List Ac} (h : Gath w G l) (hb : Below w.heap.size w w') : Gath w' G l := by
 obtain ⟨A, n, c, h1, h2⟩ := h
 exact ⟨A, n, c, h1.below hb h1.lt, h2.below hb⟩
theorem run_acs_g {base : Nat} (w : World) (ty : TypeId) (A0 : Option Addr) (n0 c0 : Nat) (M : List Ax) (hown : OwnAcs w base A0 n0 c0 M) (r : Ax) (h63 : n0 + 1 ≤ 100000) (hbase : base ≤ w.heap.size) :
  ∃ A' c' w', (Builtin.append_ #[38, 38] ty #[.slice A0 n0 c0, .slice (some ⟨w.heap.size, 0, none⟩) 1 1]).run Tryz.prog (w.alloc (.cells (axL r).toArray 75)) = .ok (.slice A' (n0 + 1) c') w' ∧ OwnAcs w' base A' (n0 + 1) c' (M ++ [r]) ∧ Below base w w' ∧ w.grownBy w' (Value.slice A0 n0 c0).ownBlock := by
 obtain ⟨i, hi, hz, hsize, hby⟩ := info_parts act_info
 have hml : (100000 : Nat) ≤ maxLen := by decide
 have hlit := Blk.new w 75 (axL r)
 have hcs : ∀ j u, (axL r)[j]? = some u → (w.alloc (.cells (axL r).toArray 75)).cell? ((⟨w.heap.size, 0, none⟩ : Addr).add j) = some u := by
  intro j u hu
  have e2 : (⟨w.heap.size, 0, none⟩ : Addr).add j = ⟨w.heap.size, 0 + j, none⟩ := by unfold Addr.add; split <;> simp_all
  rw [e2, Nat.zero_add, hlit.cell j]
  exact hu
 obtain ⟨v', w', h, r2, r3, _, _⟩ := run_append_own_at (P := Tryz.prog) (w.alloc (.cells (axL r).toArray 75)) base 38 ty 75 i _ 29 264 Tryz.underlying38 hi hz hsize hby rfl (by omega) _ n0 (acsV M) (hown.1.alloc _) ⟨w.heap.size, 0, none⟩ 1 1 (axL r) rfl hcs (one_act r) (by omega) (by omega) (by simp; omega)
 obtain ⟨g', c', rfl⟩ := ownsRow_some r2
 exact ⟨some ⟨g', 0, none⟩, c', w', h, ⟨by rw [acsV_app, acsV_one]; exact r2, by simp [hown.2]⟩, ((Below.refl base w).alloc hbase _).grown r3 (by simp; omega) (fun g e => (hown.1.lt g e).1), (World.grownBy_alloc w _ _).trans r3⟩
theorem wpList_acs_g (w : World) {ops : Array Oper} {rest : List Oper} {o : Oper} {a : Act} {Q : Exit → Act → World → Prop} (hw : Region.wanted o (yielded ops a.tmps) = true) (s x : Operand)
  (ho : o.op = .call { callee := .builtin .append, args := #[s, x], argTypes := #[38, 38] }) (base : Nat) (A0 : Option Addr) (n c0 : Nat) (M : List Ax) (hs : a.eval s = .slice A0 n c0) (hown : OwnAcs w base A0 n c0 M)
  (r : Ax) (hx : a.eval x = .slice (some ⟨w.heap.size, 0, none⟩) 1 1) (h63 : n + 1 ≤ 100000) (hw0 : base ≤ w.heap.size)
  (h : ∀ A' c' w', OwnAcs w' base A' (n + 1) c' (M ++ [r]) → Below base w w' → w.grownBy w' (Value.slice A0 n c0).ownBlock → wpList Tryz.prog ops Q rest (a.put o.dst (.slice A' (n + 1) c')) w') : wpList Tryz.prog ops Q (o :: rest) a (w.alloc (.cells (axL r).toArray 75)) := by
 refine wpList_want hw fun K hK => ?_
 obtain ⟨A', c', w', hrun, h2, h3, h4⟩ := run_acs_g w o.type A0 n c0 M hown r h63 hw0
 unfold Oper.wp execOp
 simp only [ho, resolve, invoke, builtin, Sem.run_bind, Sem.run_pure, Result.andThen_ok, List.map_toArray, List.map_cons, List.map_nil, hs, hx, hrun]
 exact hK _ _ (h A' c' w' h2 h3 h4)
theorem gath_more {w w1 : World} {G : Nat} {A A' : Option Addr} {n c c' : Nat} {l : List Ac} {L : List Ax} {k x : Int} {Ai : Option Addr} {ni ci : Nat} {b : Txt}
  (hb : Blk w G 38 [.slice A n c]) (hL : OwnAcs w (G + 1) A n c L) (hl : l.length = n) (hby : ∀ a ∈ l, ∀ z ∈ a.2.2, isByte z)
  (hin : ∀ i, i < n → (L.getD i zAx).1 = (l.getD i (0, 0, [])).1 ∧ (L.getD i zAx).2.1 = (l.getD i (0, 0, [])).2.1 ∧ OwnTxt w (G + 1) (L.getD i zAx).2.2.1 (L.getD i zAx).2.2.2.1 (L.getD i zAx).2.2.2.2 (l.getD i (0, 0, [])).2.2)
  (ht : OwnTxt w (G + 1) Ai ni ci b) (hbb : ∀ z ∈ b, isByte z) (h2 : OwnAcs w1 (G + 1) A' (n + 1) c' (L ++ [(k, x, Ai, ni, ci)])) (h3 : Below (G + 1) w w1) (h4 : w.grownBy w1 (Value.slice A n c).ownBlock) :
  GathOut w G (l ++ [(k, x, b)]) (w1.setCell ⟨G, 0, none⟩ (.slice A' (n + 1) c')) := by
 have hbox : Blk w1 G 38 [.slice A n c] := hb.below h3 (Nat.lt_succ_self G)
 have htx : ∀ {A1 : Option Addr} {n1 c1 : Nat} {zs : List Int}, OwnTxt w (G + 1) A1 n1 c1 zs → OwnTxt (w1.setCell ⟨G, 0, none⟩ (.slice A' (n + 1) c')) (G + 1) A1 n1 c1 zs := fun {A1 n1 c1 zs} hx => by
  refine (hx.keep (w' := w1) fun g hg hu => h4.block g hu.lt fun e => u8_row (by decide) hu hL.1 e.symm).keep fun g hg hu => Below.heap_setCell w1 _ _ g (fun e => ?_)
  have e' : g = G := e
  omega
 refine ⟨⟨A', n + 1, c', hbox.set 0 _, L ++ [(k, x, Ai, ni, ci)], h2.away (Nat.lt_succ_self G) 0 _, by simp [hl], ?_, fun i hi => ?_⟩, (h3.mono (Nat.le_succ G)).setCell (p := ⟨G, 0, none⟩) (Nat.le_refl G) _, ?_⟩
 ·intro a ha
  rcases List.mem_append.1 ha with ha | ha
  ·exact hby a ha
  ·rw [List.mem_singleton.1 ha]
   exact hbb
 ·have hLn := hL.2
  by_cases hin' : i < n
  ·rw [gtD, List.getElem?_append_left (by omega), gtD, List.getElem?_append_left (by omega), ← gtD, ← gtD]
   exact ⟨(hin i hin').1, (hin i hin').2.1, htx (hin i hin').2.2⟩
  ·have e : i = n := by omega
   subst e
   rw [gtD, List.getElem?_append_right (by omega), gtD, List.getElem?_append_right (by omega), hl, hLn]
   simp only [Nat.sub_self, gcZ, Option.getD_some]
   exact ⟨trivial, trivial, htx ht⟩
 ·refine ⟨Nat.le_trans h4.size (by simp [World.setCell]), fun g hg h1 h2' => ?_⟩
  have hgG : g ≠ G := fun e => h2' _ (by rw [e]; exact hb)
  refine (Below.heap_setCell w1 _ _ g hgG).trans (h4.block g hg fun e => ?_)
  rcases hL.1.2 with ⟨ev, _⟩ | ⟨g2, cap, cur, ev, _, hg2, _⟩
  ·rw [ev] at e
   simp [Value.ownBlock] at e
  ·rw [ev] at e
   have e3 : g = g2 := by simpa [Value.ownBlock] using e
   exact h1 cur (by rw [e3]; exact hg2)
end Go.Proofs.YtifgcfepbenpjaaGreat
namespace Go.Proofs.YtifgcfepbenpjaaGreat
open Go.RowKit
theorem wrA_snoc {ps : List Pnd} {k : Nat} (h : k < ps.length) : wrA (ps.take (k + 1)) = wrA (ps.take k) ++ [(1, (ps.getD k (0, [])).1, (ps.getD k (0, [])).2)] := by
 rw [take_snoc h ((0, []) : Pnd)]
 unfold wrA
 rw [List.map_append]
 rfl
def ActsOut (w : World) (l : List Ac) (e : Ending) (w' : World) : Prop := ∃ A' c' L, e = .returned (.slice A' l.length c') ∧ OwnAcs w' w.heap.size A' l.length c' L ∧ AxIs w' L l ∧ Below w.heap.size w w'
theorem racts_any (A : Option Addr) (n c : Nat) (ps : List Pnd) (w : World) (hp : Pnds w A n c ps) (hn : n ≤ 100) :
  Calls Tryz.prog 93 #[.slice A n c] w (ActsOut w (actsA ps)) := by
 have hcm := Nat.le_trans hp.cap hp.max
 unfold maxLen at hcm
 have HP := Lh hp
 have hlen := hp.len
 have ST := Lh (fun k (hk : k < n) => wrA_snoc (ps := ps) (k := k) (by rw [hlen]; exact hk))
 have FIN := Lh (show wrA (ps.take n) ++ [(2, 0, [])] = actsA ps by rw [← hlen, List.take_length]; rfl)
 have LEN := Lh (show (actsA ps).length = n + 1 by rw [← hlen]; simp [actsA, wrA])
 clear hp hlen
 unfold ActsOut
 rw [LEN.out]
 go_enter Tryz.func93, Tryz.ntmps93
 go_wp2
 go_loopw [3, 4] (fun o i wr => ∃ (k : Nat) (A' : Option Addr) (c' : Nat) (L : List Ax), k ≤ n ∧ i = .int .i64 k ∧ o = .slice A' k c' ∧ OwnAcs wr w.heap.size A' k c' L ∧ AxIs w L (wrA (ps.take k)) ∧ Below w.heap.size w wr) (fun _ i _ => n - (intOf i).toNat)
 case atStart => exact ⟨0, none, 0, [], Nat.zero_le _, rfl, rfl, OwnAcs.nil _ _, AxIs.nil _, Below.refl _ _⟩
 case round =>
  obtain ⟨k, A', c', L, hk, rfl, rfl, hown, hax, hbw⟩ := hrel
  have OW := Lh hown
  have AX := Lh hax
  have BW := Lh hbw
  clear hown hax hbw
  by_cases hkn : k < n
  ·have hki : (k : Int) < (n : Int) := by omega
   obtain ⟨b, o, Ai, ni, ci, rfl, hlt, hc, hx, ha⟩ := HP.out.at_ k hkn
   have keepX : ∀ wx, Below w.heap.size w wx → wx.cell? ⟨b, o + k * 2, none⟩ = some (.int .i64 (ps.getD k (0, [])).1) ∧ wx.cell? ⟨b, o + k * 2 + 1, none⟩ = some (.slice Ai ni ci) := fun wx hx' =>
    ⟨(hx'.cell (p := ⟨b, o + k * 2, none⟩) hlt).trans hx, (hx'.cell (p := ⟨b, o + k * 2 + 1, none⟩) hlt).trans hc⟩
   have SK := Lh (ST.out k hkn)
   obtain ⟨x1, hx1⟩ : ∃ y, y = (ps.getD k (0, [])).1 := ⟨_, rfl⟩
   obtain ⟨x2, hx2⟩ : ∃ y, y = (ps.getD k (0, [])).2 := ⟨_, rfl⟩
   rw [← hx1] at keepX SK
   rw [← hx2] at ha SK
   have HA := Lh ha
   clear hc hx hx1 hx2 ha hlt
   have BD := Lh (below_drewN BW.out 1)
   have OD := Lh (OW.out.below (below_drewN (Below.refl _ _) 1))
   have HSZ := Lh (Nat.le_refl w.heap.size)
   go_upto_region 5 with fail
   have hkX := keepX _ BD.out
   go_region_held3 (fun w' => w'.cell? ⟨b, o + k * 2, none⟩ = some (.int .i64 x1) ∧ w'.cell? ⟨b, o + k * 2 + 1, none⟩ = some (.slice Ai ni ci))
    (first | exact hkX | exact keepX _ (below_drewN (BW.out.alloc BW.out.size _) 1) | exact keepX _ (BD.out.alloc BD.out.size _) | go_keep)
    ((refine step_acs w wr.drew (by rfl) (.tmp 11) (.tmp 23) (by rfl) w.heap.size A' k c' L (by rfl) OD.out (1, x1, Ai, ni, ci) (by rfl) (by omega) BD.out HSZ.out ?_; intro A2 c2 w2 hown2 hbX; have hkX := keepX w2 hbX))
   have O2 := Lh hown2
   have B2 := Lh hbX
   clear hown2 hbX keepX hkX
   go_wp2
   go_roundw
   case rel => exact ⟨k + 1, A2, c2, L ++ [(1, x1, Ai, ni, ci)], by omega, by go_num, rfl, O2.out, by rw [SK.out]; exact AX.out.snoc HA.out, B2.out⟩
   all_goals (try case measure => simp [intOf]; omega)
  ·obtain rfl : k = n := by omega
   go_wp2_with (at_builtin; refine wpList_acs w wr rfl (.tmp 25) (.tmp 27) rfl w.heap.size A' k c' L rfl OW.out (2, 0, none, 0, 0) rfl (by omega) BW.out (Nat.le_refl _) ?_; intro A2 c2 w2 hO2 hB2; have O2 := Lh hO2; have B2 := Lh hB2; clear hO2 hB2)
   go_ret
   exact ⟨A2, c2, L ++ [(2, 0, none, 0, 0)], rfl, O2.out, by rw [← FIN.out]; exact (AX.out.snoc (Arg.nil _ _)).below B2.out, B2.out⟩
end Go.Proofs.YtifgcfepbenpjaaGreat
