/- Texts of layers 1 to 12, joined. -/
import Derived.Test.YtifgcfepbenpjaaGreatNb34
import Derived.Deep.RegionWith
import Derived.Deep.RegionHeld3
import Derived.Deep.Cut
import Derived.WalkKit
import Derived.BigQuiet
set_option maxRecDepth 100000
set_option maxHeartbeats 12800000
set_option linter.unusedVariables false
namespace Go.Proofs.YtifgcfepbenpjaaGreat
open Go.RowKit
abbrev metV (v a g n u:Int) (A:Option Addr) (k c:Nat):Value:=.agg #[.int .u32 v,.int .i64 a,.int .u64 g,.int .i64 n,.int .i64 u,.slice A k c]
abbrev metL (v a g n u:Int) (A:Option Addr) (k c:Nat):List Value:=[.int .u32 v,.int .i64 a,.int .u64 g,.int .i64 n,.int .i64 u,.slice A k c]
structure CMBox (w:World) (G:Nat) (P T A M W Q:Int) (v a g n u:Int) (B:Option Addr) (k c:Nat) (t:List Rc):Prop where
 cfg:Blk w G 36 [.int .i64 P,.int .i64 T,.int .i64 A,.int .i64 M,.int .i64 W,.int .i64 Q]
 met:Blk w (G + 1) 32 (metL v a g n u B k c)
 tab:Recs w B k c t
section
variable {w w':World} {G:Nat} {P T A M W Q v a g n u:Int} {B:Option Addr} {k c:Nat} {t:List Rc}
theorem CMBox.below (x:CMBox w G P T A M W Q v a g n u B k c t) (hb:Below w.heap.size w w'):CMBox w' G P T A M W Q v a g n u B k c t:=⟨x.cfg.below hb x.cfg.lt,x.met.below hb x.met.lt,x.tab.below hb⟩
theorem CMBox.new (P T A M W Q v a g n u:Int) (h:Recs w B k c t):CMBox ((w.alloc (.cells #[.int .i64 P,.int .i64 T,.int .i64 A,.int .i64 M,.int .i64 W,.int .i64 Q] 36)).alloc (.cells #[.int .u32 v,.int .i64 a,.int .u64 g,.int .i64 n,.int .i64 u,.slice B k c] 32)) w.heap.size P T A M W Q v a g n u B k c t∧Below w.heap.size w ((w.alloc (.cells #[.int .i64 P,.int .i64 T,.int .i64 A,.int .i64 M,.int .i64 W,.int .i64 Q] 36)).alloc (.cells #[.int .u32 v,.int .i64 a,.int .u64 g,.int .i64 n,.int .i64 u,.slice B k c] 32)):=by
 have h1:=(Below.refl w.heap.size w).alloc (Nat.le_refl _) (.cells #[.int .i64 P,.int .i64 T,.int .i64 A,.int .i64 M,.int .i64 W,.int .i64 Q] 36)
 have b1:=Blk.new w 36 [.int .i64 P,.int .i64 T,.int .i64 A,.int .i64 M,.int .i64 W,.int .i64 Q]
 have h2:=(Below.refl (w.alloc (.cells #[.int .i64 P,.int .i64 T,.int .i64 A,.int .i64 M,.int .i64 W,.int .i64 Q] 36)).heap.size _).alloc (Nat.le_refl _) (.cells #[.int .u32 v,.int .i64 a,.int .u64 g,.int .i64 n,.int .i64 u,.slice B k c] 32)
 have b2:=Blk.new (w.alloc (.cells #[.int .i64 P,.int .i64 T,.int .i64 A,.int .i64 M,.int .i64 W,.int .i64 Q] 36)) 32 (metL v a g n u B k c)
 rw [World.size_alloc] at b2
 have hb:=h1.trans (h2.mono h1.size)
 exact ⟨⟨b1.below h2 b1.lt,b2,h.below hb⟩,hb⟩
theorem CMBox.cells (x:CMBox w G P T A M W Q v a g n u B k c t) :
  (w.cell? ⟨G,0,none⟩=some (.int .i64 P)∧w.cell? ⟨G,1,none⟩=some (.int .i64 T)∧w.cell? ⟨G,2,none⟩=some (.int .i64 A)∧w.cell? ⟨G,3,none⟩=some (.int .i64 M)∧w.cell? ⟨G,4,none⟩=some (.int .i64 W)∧w.cell? ⟨G,5,none⟩=some (.int .i64 Q)) ∧
  w.cell? ⟨G + 1,0,none⟩=some (.int .u32 v)∧w.cell? ⟨G + 1,1,none⟩=some (.int .i64 a)∧w.cell? ⟨G + 1,2,none⟩=some (.int .u64 g)∧w.cell? ⟨G + 1,3,none⟩=some (.int .i64 n)∧w.cell? ⟨G + 1,4,none⟩=some (.int .i64 u)∧w.cell? ⟨G + 1,5,none⟩=some (.slice B k c) :=
 ⟨⟨x.cfg.cell 0,x.cfg.cell 1,x.cfg.cell 2,x.cfg.cell 3,x.cfg.cell 4,x.cfg.cell 5⟩,x.met.cell 0,x.met.cell 1,x.met.cell 2,x.met.cell 3,x.met.cell 4,x.met.cell 5⟩
end
theorem may12_iff {P T A M W Q v a g n u:Int} {t:List Rc}:mayM P T A M W Q ⟨(v,a,g),n,u,t⟩↔mayC P T A M W Q∧0≤a∧a≤1∧0≤n∧n≤A∧0≤u∧u≤65535∧mayTab t:=by
 unfold mayM arS
 constructor
 ·rintro ⟨h1,h2,⟨h3,h4⟩,⟨h5,h6⟩,h7⟩
  dsimp only at h2 h3 h4 h5 h6 h7
  exact ⟨h1,by omega,by omega,h3,h4,h5,h6,h7⟩
 ·rintro ⟨h1,h2,h2',h3,h4,h5,h6,h7⟩
  dsimp only
  exact ⟨h1,by omega,⟨h3,h4⟩,⟨h5,h6⟩,h7⟩
theorem met_box (w:World) (v a g n u:Int) (B:Option Addr) (k c:Nat):Blk (w.alloc (.cells #[.int .u32 v,.int .i64 a,.int .u64 g,.int .i64 n,.int .i64 u,.slice B k c] 32)) w.heap.size 32 (metL v a g n u B k c)∧Below w.heap.size w (w.alloc (.cells #[.int .u32 v,.int .i64 a,.int .u64 g,.int .i64 n,.int .i64 u,.slice B k c] 32)):=⟨Blk.new w 32 (metL v a g n u B k c),(Below.refl _ _).alloc (Nat.le_refl _) _⟩
theorem Blk.met {w:World} {G:Nat} {v a g n u:Int} {B:Option Addr} {k c:Nat} (x:Blk w G 32 (metL v a g n u B k c)):w.cell? ⟨G,0,none⟩=some (.int .u32 v)∧w.cell? ⟨G,1,none⟩=some (.int .i64 a)∧w.cell? ⟨G,2,none⟩=some (.int .u64 g)∧w.cell? ⟨G,3,none⟩=some (.int .i64 n)∧w.cell? ⟨G,4,none⟩=some (.int .i64 u)∧w.cell? ⟨G,5,none⟩=some (.slice B k c):=⟨x.cell 0,x.cell 1,x.cell 2,x.cell 3,x.cell 4,x.cell 5⟩
theorem Blk.sixM {w:World} {G:Nat} {t:TypeId} {v' a' g' n' u':Int} {B':Option Addr} {k' c':Nat} (h:Blk w G t (metL v' a' g' n' u' B' k' c')) (v a g n u:Int) (B:Option Addr) (k c:Nat):Blk ((((((w.setCell ⟨G,0,none⟩ (.int .u32 v)).setCell ⟨G,1,none⟩ (.int .i64 a)).setCell ⟨G,2,none⟩ (.int .u64 g)).setCell ⟨G,3,none⟩ (.int .i64 n)).setCell ⟨G,4,none⟩ (.int .i64 u)).setCell ⟨G,5,none⟩ (.slice B k c)) G t (metL v a g n u B k c) :=
 (((((h.set 0 _).set 1 _).set 2 _).set 3 _).set 4 _).set 5 _
theorem below_sixM {B0:Nat} {w0 w:World} (h:Below B0 w0 w) {G:Nat} (hg:B0≤G) (v a g n u:Int) (B:Option Addr) (k c:Nat):Below B0 w0 ((((((w.setCell ⟨G,0,none⟩ (.int .u32 v)).setCell ⟨G,1,none⟩ (.int .i64 a)).setCell ⟨G,2,none⟩ (.int .u64 g)).setCell ⟨G,3,none⟩ (.int .i64 n)).setCell ⟨G,4,none⟩ (.int .i64 u)).setCell ⟨G,5,none⟩ (.slice B k c)) :=
 (((((h.setCell (p:=⟨G,0,none⟩) hg _).setCell (p:=⟨G,1,none⟩) hg _).setCell (p:=⟨G,2,none⟩) hg _).setCell (p:=⟨G,3,none⟩) hg _).setCell (p:=⟨G,4,none⟩) hg _).setCell (p:=⟨G,5,none⟩) hg _
theorem OwnRecs.sixM {w:World} {base:Nat} {A:Option Addr} {m d:Nat} {L:List Rc} (h:OwnRecs w base A m d L) {G:Nat} (hg:G < base) (v a g n u:Int) (B:Option Addr) (k c:Nat):OwnRecs ((((((w.setCell ⟨G,0,none⟩ (.int .u32 v)).setCell ⟨G,1,none⟩ (.int .i64 a)).setCell ⟨G,2,none⟩ (.int .u64 g)).setCell ⟨G,3,none⟩ (.int .i64 n)).setCell ⟨G,4,none⟩ (.int .i64 u)).setCell ⟨G,5,none⟩ (.slice B k c)) base A m d L :=
 (((((h.away hg 0 _).away hg 1 _).away hg 2 _).away hg 3 _).away hg 4 _).away hg 5 _
structure MBox (w:World) (G:Nat) (P T A M W Q:Int) (D:Option Addr) (nd d:Nat) (D':Option Addr) (nd' d':Nat) (S:List Sec) (C:List Pnd) (v a g n u:Int) (B:Option Addr) (k c:Nat) (t:List Rc):Prop where
 two:TBox w G P T A M W Q D nd d D' nd' d' S C
 met:Blk w (G + 2) 32 (metL v a g n u B k c)
 tab:Recs w B k c t
section
variable {w w':World} {G:Nat} {P T A M W Q v a g n u:Int} {D D' B:Option Addr} {nd d nd' d' k c:Nat} {S:List Sec} {C:List Pnd} {t:List Rc}
theorem MBox.below (x:MBox w G P T A M W Q D nd d D' nd' d' S C v a g n u B k c t) (hb:Below w.heap.size w w'):MBox w' G P T A M W Q D nd d D' nd' d' S C v a g n u B k c t:=⟨x.two.below hb,x.met.below hb x.met.lt,x.tab.below hb⟩
theorem MBox.new (P T A M W Q v a g n u:Int) (q:Dsk w D nd d D' nd' d' S C) (h:Recs w B k c t):MBox (((w.alloc (.cells #[.int .i64 P,.int .i64 T,.int .i64 A,.int .i64 M,.int .i64 W,.int .i64 Q] 36)).alloc (.cells #[.slice D nd d,.slice D' nd' d'] 25)).alloc (.cells #[.int .u32 v,.int .i64 a,.int .u64 g,.int .i64 n,.int .i64 u,.slice B k c] 32)) w.heap.size P T A M W Q D nd d D' nd' d' S C v a g n u B k c t∧Below w.heap.size w (((w.alloc (.cells #[.int .i64 P,.int .i64 T,.int .i64 A,.int .i64 M,.int .i64 W,.int .i64 Q] 36)).alloc (.cells #[.slice D nd d,.slice D' nd' d'] 25)).alloc (.cells #[.int .u32 v,.int .i64 a,.int .u64 g,.int .i64 n,.int .i64 u,.slice B k c] 32)):=by
 obtain ⟨x,hb⟩:=TBox.new P T A M W Q q
 obtain ⟨y,hk⟩:=met_box ((w.alloc (.cells #[.int .i64 P,.int .i64 T,.int .i64 A,.int .i64 M,.int .i64 W,.int .i64 Q] 36)).alloc (.cells #[.slice D nd d,.slice D' nd' d'] 25)) v a g n u B k c
 rw [World.size_alloc,World.size_alloc] at y
 have hb2:=hb.trans (hk.mono hb.size)
 exact ⟨⟨x.below hk,y,h.below hb2⟩,hb2⟩
theorem MBox.cells (x:MBox w G P T A M W Q D nd d D' nd' d' S C v a g n u B k c t) :
  (w.cell? ⟨G,0,none⟩=some (.int .i64 P)∧w.cell? ⟨G,1,none⟩=some (.int .i64 T)∧w.cell? ⟨G,2,none⟩=some (.int .i64 A)∧w.cell? ⟨G,3,none⟩=some (.int .i64 M)∧w.cell? ⟨G,4,none⟩=some (.int .i64 W)∧w.cell? ⟨G,5,none⟩=some (.int .i64 Q)∧w.cell? ⟨G + 1,0,none⟩=some (.slice D nd d)∧w.cell? ⟨G + 1,1,none⟩=some (.slice D' nd' d')) ∧
  w.cell? ⟨G + 2,0,none⟩=some (.int .u32 v)∧w.cell? ⟨G + 2,1,none⟩=some (.int .i64 a)∧w.cell? ⟨G + 2,2,none⟩=some (.int .u64 g)∧w.cell? ⟨G + 2,3,none⟩=some (.int .i64 n)∧w.cell? ⟨G + 2,4,none⟩=some (.int .i64 u)∧w.cell? ⟨G + 2,5,none⟩=some (.slice B k c):=⟨x.two.cells,x.met.met⟩
end
def boE (P T A M W Q:Int) (S:List Sec) (C:List Pnd) (m:Mt):Int:=if mayT P T A M W Q S C∧mayM P T A M W Q m then 0 else 8
def MetOut (w:World) (m:Mt) (E:Int) (e:Ending) (w':World):Prop:=∃ A' c',e=.returned (.tuple #[metV m.s.1 m.s.2.1 m.s.2.2 m.n m.u A' m.t.length c',.int .i64 E])∧OwnRecs w' w.heap.size A' m.t.length c' m.t∧Below w.heap.size w w'
theorem sup_box (w:World) (v a g:Int):Blk (w.alloc (.cells #[.int .u32 v,.int .i64 a,.int .u64 g] 29)) w.heap.size 29 [.int .u32 v,.int .i64 a,.int .u64 g]∧Below w.heap.size w (w.alloc (.cells #[.int .u32 v,.int .i64 a,.int .u64 g] 29)):=⟨Blk.new w 29 [.int .u32 v,.int .i64 a,.int .u64 g],(Below.refl _ _).alloc (Nat.le_refl _) _⟩
theorem srV_good {P T A M W Q:Int} {S:List Sec} {C:List Pnd} (hS:∀ s ∈ S,∀ z ∈ s.2,isByte z) (hC:∀ p ∈ C,∀ z ∈ p.2,isByte z) (h:srE P T A M W Q S C=0):mayT P T A M W Q S C∧arS (srV P T A M W Q S C).2.1∧isS (srV P T A M W Q S C):=by
 have hm:mayT P T A M W Q S C:=Classical.byContradiction fun hm=>by
  unfold srE at h
  rw [if_neg hm] at h
  cases h
 have e:srV P T A M W Q S C=smV S C:=if_pos hm
 refine ⟨hm,?_,by rw [e];exact smV_is hS hC⟩
 rw [e]
 unfold smV
 split
 ·split
  ·rename_i _ hk
   have:=(suV_is hk.1 (crB_byte hS hC 0 1)).2
   have h4:=hk.2
   unfold isByte suV at this
   unfold arS suV
   dsimp only at this ⊢
   omega
  ·exact .inl rfl
 ·exact .inl rfl
end Go.Proofs.YtifgcfepbenpjaaGreat
