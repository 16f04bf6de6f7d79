/- Texts of layers 1 to 12, joined. -/
import Derived.Test.YtifgcfepbenpjaaGreatNa33
import Derived.Test.YtifgcfepbenpjaaGreatNa36
import Derived.Deep.RegionWith
import Derived.Deep.RegionHeld3
import Derived.Deep.Cut
import Derived.WalkKit
import Derived.BigQuiet
set_option maxRecDepth 100000
set_option maxHeartbeats 12800000
set_option linter.unusedVariables false
namespace Go.Proofs.YtifgcfepbenpjaaGreat
open Go.RowKit
abbrev metV (v a g n u:Int) (A:Option Addr) (k c:Nat):Value:=.agg #[.int .u32 v,.int .i64 a,.int .u64 g,.int .i64 n,.int .i64 u,.slice A k c]
abbrev metL (v a g n u:Int) (A:Option Addr) (k c:Nat):List Value:=[.int .u32 v,.int .i64 a,.int .u64 g,.int .i64 n,.int .i64 u,.slice A k c]
structure CMBox (w:World) (G:Nat) (P T A M W Q:Int) (v a g n u:Int) (B:Option Addr) (k c:Nat) (t:List Rc):Prop where
 cfg:Blk w G 36 [.int .i64 P,.int .i64 T,.int .i64 A,.int .i64 M,.int .i64 W,.int .i64 Q]
 met:Blk w (G + 1) 32 (metL v a g n u B k c)
 tab:Recs w B k c t
section
variable {w w':World} {G:Nat} {P T A M W Q v a g n u:Int} {B:Option Addr} {k c:Nat} {t:List Rc}
theorem CMBox.below (x:CMBox w G P T A M W Q v a g n u B k c t) (hb:Below w.heap.size w w'):CMBox w' G P T A M W Q v a g n u B k c t:=⟨x.cfg.below hb x.cfg.lt,x.met.below hb x.met.lt,x.tab.below hb⟩
theorem CMBox.new (P T A M W Q v a g n u:Int) (h:Recs w B k c t):CMBox ((w.alloc (.cells #[.int .i64 P,.int .i64 T,.int .i64 A,.int .i64 M,.int .i64 W,.int .i64 Q] 36)).alloc (.cells #[.int .u32 v,.int .i64 a,.int .u64 g,.int .i64 n,.int .i64 u,.slice B k c] 32)) w.heap.size P T A M W Q v a g n u B k c t∧Below w.heap.size w ((w.alloc (.cells #[.int .i64 P,.int .i64 T,.int .i64 A,.int .i64 M,.int .i64 W,.int .i64 Q] 36)).alloc (.cells #[.int .u32 v,.int .i64 a,.int .u64 g,.int .i64 n,.int .i64 u,.slice B k c] 32)):=by
 have h1:=(Below.refl w.heap.size w).alloc (Nat.le_refl _) (.cells #[.int .i64 P,.int .i64 T,.int .i64 A,.int .i64 M,.int .i64 W,.int .i64 Q] 36)
 have b1:=Blk.new w 36 [.int .i64 P,.int .i64 T,.int .i64 A,.int .i64 M,.int .i64 W,.int .i64 Q]
 have h2:=(Below.refl (w.alloc (.cells #[.int .i64 P,.int .i64 T,.int .i64 A,.int .i64 M,.int .i64 W,.int .i64 Q] 36)).heap.size _).alloc (Nat.le_refl _) (.cells #[.int .u32 v,.int .i64 a,.int .u64 g,.int .i64 n,.int .i64 u,.slice B k c] 32)
 have b2:=Blk.new (w.alloc (.cells #[.int .i64 P,.int .i64 T,.int .i64 A,.int .i64 M,.int .i64 W,.int .i64 Q] 36)) 32 (metL v a g n u B k c)
 rw [World.size_alloc] at b2
 have hb:=h1.trans (h2.mono h1.size)
 exact ⟨⟨b1.below h2 b1.lt,b2,h.below hb⟩,hb⟩
theorem CMBox.cells (x:CMBox w G P T A M W Q v a g n u B k c t) :
  (w.cell? ⟨G,0,none⟩=some (.int .i64 P)∧w.cell? ⟨G,1,none⟩=some (.int .i64 T)∧w.cell? ⟨G,2,none⟩=some (.int .i64 A)∧w.cell? ⟨G,3,none⟩=some (.int .i64 M)∧w.cell? ⟨G,4,none⟩=some (.int .i64 W)∧w.cell? ⟨G,5,none⟩=some (.int .i64 Q)) ∧
  w.cell? ⟨G + 1,0,none⟩=some (.int .u32 v)∧w.cell? ⟨G + 1,1,none⟩=some (.int .i64 a)∧w.cell? ⟨G + 1,2,none⟩=some (.int .u64 g)∧w.cell? ⟨G + 1,3,none⟩=some (.int .i64 n)∧w.cell? ⟨G + 1,4,none⟩=some (.int .i64 u)∧w.cell? ⟨G + 1,5,none⟩=some (.slice B k c) :=
 ⟨⟨x.cfg.cell 0,x.cfg.cell 1,x.cfg.cell 2,x.cfg.cell 3,x.cfg.cell 4,x.cfg.cell 5⟩,x.met.cell 0,x.met.cell 1,x.met.cell 2,x.met.cell 3,x.met.cell 4,x.met.cell 5⟩
end
theorem may12_iff {P T A M W Q v a g n u:Int} {t:List Rc}:mayM P T A M W Q ⟨(v,a,g),n,u,t⟩↔mayC P T A M W Q∧0≤a∧a≤1∧0≤n∧n≤A∧0≤u∧u≤65535∧mayTab t:=by
 unfold mayM arS
 constructor
 ·rintro ⟨h1,h2,⟨h3,h4⟩,⟨h5,h6⟩,h7⟩
  dsimp only at h2 h3 h4 h5 h6 h7
  exact ⟨h1,by omega,by omega,h3,h4,h5,h6,h7⟩
 ·rintro ⟨h1,h2,h2',h3,h4,h5,h6,h7⟩
  dsimp only
  exact ⟨h1,by omega,⟨h3,h4⟩,⟨h5,h6⟩,h7⟩
theorem rmay12_any (P T A M W Q v a g n u:Int) (B:Option Addr) (k c:Nat) (t:List Rc) (w:World) (ht:Recs w B k c t) (hk:k≤100000) :
  Calls Tryz.prog 54 #[cfgV P T A M W Q,metV v a g n u B k c] w fun e w'=>e=.returned (.bool (decide (mayM P T A M W Q ⟨(v,a,g),n,u,t⟩)))∧Below w.heap.size w w':=by
 obtain ⟨x,hbel⟩:=CMBox.new P T A M W Q v a g n u ht
 obtain ⟨w0,hw0⟩:∃ x:World,x=((w.alloc (.cells #[.int .i64 P,.int .i64 T,.int .i64 A,.int .i64 M,.int .i64 W,.int .i64 Q] 36)).alloc (.cells #[.int .u32 v,.int .i64 a,.int .u64 g,.int .i64 n,.int .i64 u,.slice B k c] 32)):=⟨_,rfl⟩
 rw [← hw0] at x hbel
 have X:=Lh x
 have BB:=Lh hbel
 have MC:=Lh (fun wx=>rmay_any P T A M W Q wx)
 have MT:=Lh (fun wx hx=>rmayAll_any B k c t wx hx hk)
 obtain ⟨⟨c0,c1,c2,c3,c4,c5⟩,d0,d1,d2,d3,d4,d5⟩:=x.cells
 clear ht hk x hbel
 by_cases h0:mayC P T A M W Q
 ·by_cases h1:0≤a
  ·by_cases h2:a≤1
   ·by_cases h3:0≤n
    ·by_cases h4:n≤A
     ·by_cases h5:0≤u
      ·by_cases h6:u≤65535
       ·by_cases h7:mayTab t
        ·have hd:decide (mayM P T A M W Q ⟨(v,a,g),n,u,t⟩)=true:=decide_eq_true (may12_iff.2 ⟨h0,h1,h2,h3,h4,h5,h6,h7⟩)
         rw [hd]
         clear hd
         rw [decide_eq_true h0] at MC
         rw [decide_eq_true h7] at MT
         clear h0 h7
         go_enter Tryz.func54,Tryz.ntmps54
         go_wp2_with fail
         rw [← hw0]
         clear hw0
         refine (MC.out _).mono ?_
         rintro e w1 ⟨rfl,hb⟩
         have BB:=Lh (BB.out.trans (hb.mono BB.out.size))
         have X:=Lh (X.out.below hb)
         clear hb MC c0 c1 c2 c3 c4 c5 d0 d1 d2 d3 d4 d5
         obtain ⟨⟨c0,c1,c2,c3,c4,c5⟩,d0,d1,d2,d3,d4,d5⟩:=X.out.cells
         go_wp2_with fail
         refine (MT.out _ X.out.tab).mono ?_
         rintro e w2 ⟨rfl,hb⟩
         have BB:=Lh (BB.out.trans (hb.mono BB.out.size))
         clear hb MT
         go_wp2
         go_ret
         exact ⟨rfl,BB.out⟩
        ·have hd:decide (mayM P T A M W Q ⟨(v,a,g),n,u,t⟩)=false:=decide_eq_false fun q=>by obtain ⟨q0,q1,q2,q3,q4,q5,q6,q7⟩:=may12_iff.1 q;exact h7 q7
         rw [hd]
         clear hd
         rw [decide_eq_true h0] at MC
         rw [decide_eq_false h7] at MT
         clear h0 h7
         go_enter Tryz.func54,Tryz.ntmps54
         go_wp2_with fail
         rw [← hw0]
         clear hw0
         refine (MC.out _).mono ?_
         rintro e w1 ⟨rfl,hb⟩
         have BB:=Lh (BB.out.trans (hb.mono BB.out.size))
         have X:=Lh (X.out.below hb)
         clear hb MC c0 c1 c2 c3 c4 c5 d0 d1 d2 d3 d4 d5
         obtain ⟨⟨c0,c1,c2,c3,c4,c5⟩,d0,d1,d2,d3,d4,d5⟩:=X.out.cells
         go_wp2_with fail
         refine (MT.out _ X.out.tab).mono ?_
         rintro e w2 ⟨rfl,hb⟩
         have BB:=Lh (BB.out.trans (hb.mono BB.out.size))
         clear hb MT
         go_wp2
         go_ret
         exact ⟨rfl,BB.out⟩
       ·have hd:decide (mayM P T A M W Q ⟨(v,a,g),n,u,t⟩)=false:=decide_eq_false fun q=>by obtain ⟨q0,q1,q2,q3,q4,q5,q6,q7⟩:=may12_iff.1 q;exact h6 q6
        rw [hd]
        clear hd
        rw [decide_eq_true h0] at MC
        clear h0
        go_enter Tryz.func54,Tryz.ntmps54
        go_wp2_with fail
        rw [← hw0]
        clear hw0
        refine (MC.out _).mono ?_
        rintro e w1 ⟨rfl,hb⟩
        have BB:=Lh (BB.out.trans (hb.mono BB.out.size))
        have X:=Lh (X.out.below hb)
        clear hb MC c0 c1 c2 c3 c4 c5 d0 d1 d2 d3 d4 d5
        obtain ⟨⟨c0,c1,c2,c3,c4,c5⟩,d0,d1,d2,d3,d4,d5⟩:=X.out.cells
        go_wp2
        go_ret
        exact ⟨rfl,BB.out⟩
      ·have hd:decide (mayM P T A M W Q ⟨(v,a,g),n,u,t⟩)=false:=decide_eq_false fun q=>by obtain ⟨q0,q1,q2,q3,q4,q5,q6,q7⟩:=may12_iff.1 q;exact h5 q5
       rw [hd]
       clear hd
       rw [decide_eq_true h0] at MC
       clear h0
       go_enter Tryz.func54,Tryz.ntmps54
       go_wp2_with fail
       rw [← hw0]
       clear hw0
       refine (MC.out _).mono ?_
       rintro e w1 ⟨rfl,hb⟩
       have BB:=Lh (BB.out.trans (hb.mono BB.out.size))
       have X:=Lh (X.out.below hb)
       clear hb MC c0 c1 c2 c3 c4 c5 d0 d1 d2 d3 d4 d5
       obtain ⟨⟨c0,c1,c2,c3,c4,c5⟩,d0,d1,d2,d3,d4,d5⟩:=X.out.cells
       go_wp2
       go_ret
       exact ⟨rfl,BB.out⟩
     ·have hd:decide (mayM P T A M W Q ⟨(v,a,g),n,u,t⟩)=false:=decide_eq_false fun q=>by obtain ⟨q0,q1,q2,q3,q4,q5,q6,q7⟩:=may12_iff.1 q;exact h4 q4
      rw [hd]
      clear hd
      rw [decide_eq_true h0] at MC
      clear h0
      go_enter Tryz.func54,Tryz.ntmps54
      go_wp2_with fail
      rw [← hw0]
      clear hw0
      refine (MC.out _).mono ?_
      rintro e w1 ⟨rfl,hb⟩
      have BB:=Lh (BB.out.trans (hb.mono BB.out.size))
      have X:=Lh (X.out.below hb)
      clear hb MC c0 c1 c2 c3 c4 c5 d0 d1 d2 d3 d4 d5
      obtain ⟨⟨c0,c1,c2,c3,c4,c5⟩,d0,d1,d2,d3,d4,d5⟩:=X.out.cells
      go_wp2
      go_ret
      exact ⟨rfl,BB.out⟩
    ·have hd:decide (mayM P T A M W Q ⟨(v,a,g),n,u,t⟩)=false:=decide_eq_false fun q=>by obtain ⟨q0,q1,q2,q3,q4,q5,q6,q7⟩:=may12_iff.1 q;exact h3 q3
     rw [hd]
     clear hd
     rw [decide_eq_true h0] at MC
     clear h0
     go_enter Tryz.func54,Tryz.ntmps54
     go_wp2_with fail
     rw [← hw0]
     clear hw0
     refine (MC.out _).mono ?_
     rintro e w1 ⟨rfl,hb⟩
     have BB:=Lh (BB.out.trans (hb.mono BB.out.size))
     have X:=Lh (X.out.below hb)
     clear hb MC c0 c1 c2 c3 c4 c5 d0 d1 d2 d3 d4 d5
     obtain ⟨⟨c0,c1,c2,c3,c4,c5⟩,d0,d1,d2,d3,d4,d5⟩:=X.out.cells
     go_wp2
     go_ret
     exact ⟨rfl,BB.out⟩
   ·have hd:decide (mayM P T A M W Q ⟨(v,a,g),n,u,t⟩)=false:=decide_eq_false fun q=>by obtain ⟨q0,q1,q2,q3,q4,q5,q6,q7⟩:=may12_iff.1 q;exact h2 q2
    rw [hd]
    clear hd
    rw [decide_eq_true h0] at MC
    clear h0
    go_enter Tryz.func54,Tryz.ntmps54
    go_wp2_with fail
    rw [← hw0]
    clear hw0
    refine (MC.out _).mono ?_
    rintro e w1 ⟨rfl,hb⟩
    have BB:=Lh (BB.out.trans (hb.mono BB.out.size))
    have X:=Lh (X.out.below hb)
    clear hb MC c0 c1 c2 c3 c4 c5 d0 d1 d2 d3 d4 d5
    obtain ⟨⟨c0,c1,c2,c3,c4,c5⟩,d0,d1,d2,d3,d4,d5⟩:=X.out.cells
    go_wp2
    go_ret
    exact ⟨rfl,BB.out⟩
  ·have hd:decide (mayM P T A M W Q ⟨(v,a,g),n,u,t⟩)=false:=decide_eq_false fun q=>by obtain ⟨q0,q1,q2,q3,q4,q5,q6,q7⟩:=may12_iff.1 q;exact h1 q1
   rw [hd]
   clear hd
   rw [decide_eq_true h0] at MC
   clear h0
   go_enter Tryz.func54,Tryz.ntmps54
   go_wp2_with fail
   rw [← hw0]
   clear hw0
   refine (MC.out _).mono ?_
   rintro e w1 ⟨rfl,hb⟩
   have BB:=Lh (BB.out.trans (hb.mono BB.out.size))
   have X:=Lh (X.out.below hb)
   clear hb MC c0 c1 c2 c3 c4 c5 d0 d1 d2 d3 d4 d5
   obtain ⟨⟨c0,c1,c2,c3,c4,c5⟩,d0,d1,d2,d3,d4,d5⟩:=X.out.cells
   go_wp2
   go_ret
   exact ⟨rfl,BB.out⟩
 ·have hd:decide (mayM P T A M W Q ⟨(v,a,g),n,u,t⟩)=false:=decide_eq_false fun q=>by obtain ⟨q0,q1,q2,q3,q4,q5,q6,q7⟩:=may12_iff.1 q;exact h0 q0
  rw [hd]
  clear hd
  rw [decide_eq_false h0] at MC
  clear h0
  go_enter Tryz.func54,Tryz.ntmps54
  go_wp2_with fail
  rw [← hw0]
  clear hw0
  refine (MC.out _).mono ?_
  rintro e w1 ⟨rfl,hb⟩
  have BB:=Lh (BB.out.trans (hb.mono BB.out.size))
  have X:=Lh (X.out.below hb)
  clear hb MC c0 c1 c2 c3 c4 c5 d0 d1 d2 d3 d4 d5
  obtain ⟨⟨c0,c1,c2,c3,c4,c5⟩,d0,d1,d2,d3,d4,d5⟩:=X.out.cells
  go_wp2
  go_ret
  exact ⟨rfl,BB.out⟩
theorem met_box (w:World) (v a g n u:Int) (B:Option Addr) (k c:Nat):Blk (w.alloc (.cells #[.int .u32 v,.int .i64 a,.int .u64 g,.int .i64 n,.int .i64 u,.slice B k c] 32)) w.heap.size 32 (metL v a g n u B k c)∧Below w.heap.size w (w.alloc (.cells #[.int .u32 v,.int .i64 a,.int .u64 g,.int .i64 n,.int .i64 u,.slice B k c] 32)):=⟨Blk.new w 32 (metL v a g n u B k c),(Below.refl _ _).alloc (Nat.le_refl _) _⟩
theorem Blk.met {w:World} {G:Nat} {v a g n u:Int} {B:Option Addr} {k c:Nat} (x:Blk w G 32 (metL v a g n u B k c)):w.cell? ⟨G,0,none⟩=some (.int .u32 v)∧w.cell? ⟨G,1,none⟩=some (.int .i64 a)∧w.cell? ⟨G,2,none⟩=some (.int .u64 g)∧w.cell? ⟨G,3,none⟩=some (.int .i64 n)∧w.cell? ⟨G,4,none⟩=some (.int .i64 u)∧w.cell? ⟨G,5,none⟩=some (.slice B k c):=⟨x.cell 0,x.cell 1,x.cell 2,x.cell 3,x.cell 4,x.cell 5⟩
theorem Blk.sixM {w:World} {G:Nat} {t:TypeId} {v' a' g' n' u':Int} {B':Option Addr} {k' c':Nat} (h:Blk w G t (metL v' a' g' n' u' B' k' c')) (v a g n u:Int) (B:Option Addr) (k c:Nat):Blk ((((((w.setCell ⟨G,0,none⟩ (.int .u32 v)).setCell ⟨G,1,none⟩ (.int .i64 a)).setCell ⟨G,2,none⟩ (.int .u64 g)).setCell ⟨G,3,none⟩ (.int .i64 n)).setCell ⟨G,4,none⟩ (.int .i64 u)).setCell ⟨G,5,none⟩ (.slice B k c)) G t (metL v a g n u B k c) :=
 (((((h.set 0 _).set 1 _).set 2 _).set 3 _).set 4 _).set 5 _
theorem below_sixM {B0:Nat} {w0 w:World} (h:Below B0 w0 w) {G:Nat} (hg:B0≤G) (v a g n u:Int) (B:Option Addr) (k c:Nat):Below B0 w0 ((((((w.setCell ⟨G,0,none⟩ (.int .u32 v)).setCell ⟨G,1,none⟩ (.int .i64 a)).setCell ⟨G,2,none⟩ (.int .u64 g)).setCell ⟨G,3,none⟩ (.int .i64 n)).setCell ⟨G,4,none⟩ (.int .i64 u)).setCell ⟨G,5,none⟩ (.slice B k c)) :=
 (((((h.setCell (p:=⟨G,0,none⟩) hg _).setCell (p:=⟨G,1,none⟩) hg _).setCell (p:=⟨G,2,none⟩) hg _).setCell (p:=⟨G,3,none⟩) hg _).setCell (p:=⟨G,4,none⟩) hg _).setCell (p:=⟨G,5,none⟩) hg _
theorem OwnRecs.sixM {w:World} {base:Nat} {A:Option Addr} {m d:Nat} {L:List Rc} (h:OwnRecs w base A m d L) {G:Nat} (hg:G < base) (v a g n u:Int) (B:Option Addr) (k c:Nat):OwnRecs ((((((w.setCell ⟨G,0,none⟩ (.int .u32 v)).setCell ⟨G,1,none⟩ (.int .i64 a)).setCell ⟨G,2,none⟩ (.int .u64 g)).setCell ⟨G,3,none⟩ (.int .i64 n)).setCell ⟨G,4,none⟩ (.int .i64 u)).setCell ⟨G,5,none⟩ (.slice B k c)) base A m d L :=
 (((((h.away hg 0 _).away hg 1 _).away hg 2 _).away hg 3 _).away hg 4 _).away hg 5 _
theorem rnext_any (v a g n u:Int) (B:Option Addr) (k c:Nat) (w:World) (hv:0≤v∧v < 4294967296) (hu:0≤u∧u≤65535) :
  Calls Tryz.prog 56 #[metV v a g n u B k c] w fun e w'=>e=.returned (.int .u64 (65536 * v + u + 1))∧Below w.heap.size w w':=by
 obtain ⟨x,hb⟩:=met_box w v a g n u B k c
 have BB:=Lh hb
 obtain ⟨d0,d1,d2,d3,d4,d5⟩:=x.met
 clear x hb
 obtain ⟨v',rfl⟩:∃ x:Nat,v=(x:Int):=⟨v.toNat,by omega⟩
 obtain ⟨u',rfl⟩:∃ x:Nat,u=(x:Int):=⟨u.toNat,by omega⟩
 have hv':v' < 4294967296:=by omega
 have hu':u'≤65535:=by omega
 clear hv hu
 go_enter Tryz.func56,Tryz.ntmps56
 go_wp2
 go_ret
 refine ⟨?_,BB.out⟩
 go_num
theorem rtwin12_any (v a g n u:Int) (B:Option Addr) (k c:Nat) (t:List Rc) (w:World) (ht:Recs w B k c t) (hk:k≤100000) :
  Calls Tryz.prog 20 #[metV v a g n u B k c] w fun e w'=>∃ A' c',e=.returned (metV v a g n u A' k c')∧OwnRecs w' w.heap.size A' k c' t∧Below w.heap.size w w':=by
 obtain ⟨x,hb⟩:=met_box w v a g n u B k c
 obtain ⟨w0,hw0⟩:∃ w0,w0=w.alloc (.cells #[.int .u32 v,.int .i64 a,.int .u64 g,.int .i64 n,.int .i64 u,.slice B k c] 32):=⟨_,rfl⟩
 rw [← hw0] at x hb
 have hs0:w0.heap.size=w.heap.size + 1:=by rw [hw0,World.size_alloc]
 obtain ⟨y,hb1⟩:=met_box w0 0 0 0 0 0 none 0 0
 obtain ⟨w1,hw1⟩:∃ w1,w1=w0.alloc (.cells #[.int .u32 0,.int .i64 0,.int .u64 0,.int .i64 0,.int .i64 0,.slice none 0 0] 32):=⟨_,rfl⟩
 rw [← hw1,hs0] at y
 rw [← hw1] at hb1
 have x:=x.below hb1 x.lt
 have hs1:w1.heap.size=w.heap.size + 2:=by rw [hw1,World.size_alloc,hs0]
 have hb:=hb.trans (hb1.mono hb.size)
 have T:=Lh (ht.below hb)
 have BB:=Lh hb
 have X:=Lh x
 have Y:=Lh y
 obtain ⟨d0,d1,d2,d3,d4,d5⟩:=x.met
 have HS1:=Lh hs1
 clear x y hb hb1 ht hs1
 go_enter Tryz.func20,Tryz.ntmps20
 go_wp2_with (at_builtin;rw [← hw0,← hw1];refine wpList_dup_recs w1 rfl (.tmp 3) (.tmp 5) rfl (by rw [HS1.out];rfl) B k c t rfl T.out hk ?_;clear hw0 hw1 d0 d1 d2 d3 d4 d5;intro A' c' w2 hO hb2;have O:=Lh hO;have X2:=Lh (X.out.below hb2 X.out.lt);have Y2:=Lh (Y.out.below hb2 Y.out.lt);have BB2:=Lh (BB.out.trans (hb2.mono BB.out.size));clear hO hb2;obtain ⟨d0,d1,d2,d3,d4,d5⟩:=X2.out.met;obtain ⟨e0,e1,e2,e3,e4,e5⟩:=Y2.out.met;have fx:∀ i,w2.frozen? ⟨w.heap.size,i,none⟩=false:=fun i=>X2.out.free i;have fy:∀ i,w2.frozen? ⟨w.heap.size + 1,i,none⟩=false:=fun i=>Y2.out.free i)
 have z:=((Y2.out.away (g':=w.heap.size) (by omega) 5 (.slice A' k c')).sixM v a g n u A' k c').met
 obtain ⟨z0,z1,z2,z3,z4,z5⟩:=z
 go_wp2
 refine bodyPost_ret (v:=metV v a g n u A' k c') ?_ rfl ⟨A',c',rfl,OwnRecs.lower (OwnRecs.sixM (OwnRecs.away O.out (g:=w.heap.size) (by rw [HS1.out];omega) 5 (.slice A' k c')) (G:=w.heap.size + 1) (by rw [HS1.out];omega) v a g n u A' k c') (by rw [HS1.out];omega),below_sixM (BB2.out.setCell (p:=⟨w.heap.size,5,none⟩) (Nat.le_refl _) _) (Nat.le_succ _) v a g n u A' k c'⟩
 simp [results,Tryz.f20,go_sem,z0,z1,z2,z3,z4,z5]
structure MBox (w:World) (G:Nat) (P T A M W Q:Int) (D:Option Addr) (nd d:Nat) (D':Option Addr) (nd' d':Nat) (S:List Sec) (C:List Pnd) (v a g n u:Int) (B:Option Addr) (k c:Nat) (t:List Rc):Prop where
 two:TBox w G P T A M W Q D nd d D' nd' d' S C
 met:Blk w (G + 2) 32 (metL v a g n u B k c)
 tab:Recs w B k c t
section
variable {w w':World} {G:Nat} {P T A M W Q v a g n u:Int} {D D' B:Option Addr} {nd d nd' d' k c:Nat} {S:List Sec} {C:List Pnd} {t:List Rc}
theorem MBox.below (x:MBox w G P T A M W Q D nd d D' nd' d' S C v a g n u B k c t) (hb:Below w.heap.size w w'):MBox w' G P T A M W Q D nd d D' nd' d' S C v a g n u B k c t:=⟨x.two.below hb,x.met.below hb x.met.lt,x.tab.below hb⟩
theorem MBox.new (P T A M W Q v a g n u:Int) (q:Dsk w D nd d D' nd' d' S C) (h:Recs w B k c t):MBox (((w.alloc (.cells #[.int .i64 P,.int .i64 T,.int .i64 A,.int .i64 M,.int .i64 W,.int .i64 Q] 36)).alloc (.cells #[.slice D nd d,.slice D' nd' d'] 25)).alloc (.cells #[.int .u32 v,.int .i64 a,.int .u64 g,.int .i64 n,.int .i64 u,.slice B k c] 32)) w.heap.size P T A M W Q D nd d D' nd' d' S C v a g n u B k c t∧Below w.heap.size w (((w.alloc (.cells #[.int .i64 P,.int .i64 T,.int .i64 A,.int .i64 M,.int .i64 W,.int .i64 Q] 36)).alloc (.cells #[.slice D nd d,.slice D' nd' d'] 25)).alloc (.cells #[.int .u32 v,.int .i64 a,.int .u64 g,.int .i64 n,.int .i64 u,.slice B k c] 32)):=by
 obtain ⟨x,hb⟩:=TBox.new P T A M W Q q
 obtain ⟨y,hk⟩:=met_box ((w.alloc (.cells #[.int .i64 P,.int .i64 T,.int .i64 A,.int .i64 M,.int .i64 W,.int .i64 Q] 36)).alloc (.cells #[.slice D nd d,.slice D' nd' d'] 25)) v a g n u B k c
 rw [World.size_alloc,World.size_alloc] at y
 have hb2:=hb.trans (hk.mono hb.size)
 exact ⟨⟨x.below hk,y,h.below hb2⟩,hb2⟩
theorem MBox.cells (x:MBox w G P T A M W Q D nd d D' nd' d' S C v a g n u B k c t) :
  (w.cell? ⟨G,0,none⟩=some (.int .i64 P)∧w.cell? ⟨G,1,none⟩=some (.int .i64 T)∧w.cell? ⟨G,2,none⟩=some (.int .i64 A)∧w.cell? ⟨G,3,none⟩=some (.int .i64 M)∧w.cell? ⟨G,4,none⟩=some (.int .i64 W)∧w.cell? ⟨G,5,none⟩=some (.int .i64 Q)∧w.cell? ⟨G + 1,0,none⟩=some (.slice D nd d)∧w.cell? ⟨G + 1,1,none⟩=some (.slice D' nd' d')) ∧
  w.cell? ⟨G + 2,0,none⟩=some (.int .u32 v)∧w.cell? ⟨G + 2,1,none⟩=some (.int .i64 a)∧w.cell? ⟨G + 2,2,none⟩=some (.int .u64 g)∧w.cell? ⟨G + 2,3,none⟩=some (.int .i64 n)∧w.cell? ⟨G + 2,4,none⟩=some (.int .i64 u)∧w.cell? ⟨G + 2,5,none⟩=some (.slice B k c):=⟨x.two.cells,x.met.met⟩
end
def boE (P T A M W Q:Int) (S:List Sec) (C:List Pnd) (m:Mt):Int:=if mayT P T A M W Q S C∧mayM P T A M W Q m then 0 else 8
theorem rboth12_any (P T A M W Q v a g n u:Int) (D:Option Addr) (nd d:Nat) (D':Option Addr) (nd' d':Nat) (S:List Sec) (C:List Pnd) (B:Option Addr) (k c:Nat) (t:List Rc) (w:World) (hq:Dsk w D nd d D' nd' d' S C) (hs:SmallD S C) (ht:Recs w B k c t) (hk:k≤100000) :
  Calls Tryz.prog 51 #[cfgV P T A M W Q,diskV D nd d D' nd' d',metV v a g n u B k c] w fun e w'=>e=.returned (.int .i64 (boE P T A M W Q S C ⟨(v,a,g),n,u,t⟩))∧Below w.heap.size w w':=by
 obtain ⟨x,hbel⟩:=MBox.new P T A M W Q v a g n u hq ht
 obtain ⟨w0,hw0⟩:∃ x:World,x=(((w.alloc (.cells #[.int .i64 P,.int .i64 T,.int .i64 A,.int .i64 M,.int .i64 W,.int .i64 Q] 36)).alloc (.cells #[.slice D nd d,.slice D' nd' d'] 25)).alloc (.cells #[.int .u32 v,.int .i64 a,.int .u64 g,.int .i64 n,.int .i64 u,.slice B k c] 32)):=⟨_,rfl⟩
 rw [← hw0] at x hbel
 have X:=Lh x
 have BB:=Lh hbel
 have MT:=Lh (fun wx hx=>rmayT_any P T A M W Q D nd d D' nd' d' S C wx hx hs)
 have MM:=Lh (fun wx hx=>rmay12_any P T A M W Q v a g n u B k c t wx hx hk)
 obtain ⟨⟨c0,c1,c2,c3,c4,c5,c6,c7⟩,d0,d1,d2,d3,d4,d5⟩:=x.cells
 clear hq hs ht hk x hbel
 unfold boE
 by_cases h0:mayT P T A M W Q S C
 ·by_cases h1:mayM P T A M W Q ⟨(v,a,g),n,u,t⟩
  ·rw [if_pos ⟨h0,h1⟩]
   rw [decide_eq_true h0] at MT
   rw [decide_eq_true h1] at MM
   clear h0 h1
   go_enter Tryz.func51,Tryz.ntmps51
   go_wp2_with fail
   rw [← hw0]
   clear hw0
   refine (MT.out _ X.out.two.dsk.dsk).mono ?_
   rintro e w1 ⟨rfl,hb⟩
   have BB:=Lh (BB.out.trans (hb.mono BB.out.size))
   have X:=Lh (X.out.below hb)
   clear hb MT c0 c1 c2 c3 c4 c5 c6 c7 d0 d1 d2 d3 d4 d5
   obtain ⟨⟨c0,c1,c2,c3,c4,c5,c6,c7⟩,d0,d1,d2,d3,d4,d5⟩:=X.out.cells
   go_wp2_with fail
   refine (MM.out _ X.out.tab).mono ?_
   rintro e w2 ⟨rfl,hb⟩
   have BB:=Lh (BB.out.trans (hb.mono BB.out.size))
   clear hb MM
   go_wp2
   go_ret
   exact ⟨rfl,BB.out⟩
  ·rw [if_neg (fun q=>h1 q.2)]
   rw [decide_eq_true h0] at MT
   rw [decide_eq_false h1] at MM
   clear h0 h1
   go_enter Tryz.func51,Tryz.ntmps51
   go_wp2_with fail
   rw [← hw0]
   clear hw0
   refine (MT.out _ X.out.two.dsk.dsk).mono ?_
   rintro e w1 ⟨rfl,hb⟩
   have BB:=Lh (BB.out.trans (hb.mono BB.out.size))
   have X:=Lh (X.out.below hb)
   clear hb MT c0 c1 c2 c3 c4 c5 c6 c7 d0 d1 d2 d3 d4 d5
   obtain ⟨⟨c0,c1,c2,c3,c4,c5,c6,c7⟩,d0,d1,d2,d3,d4,d5⟩:=X.out.cells
   go_wp2_with fail
   refine (MM.out _ X.out.tab).mono ?_
   rintro e w2 ⟨rfl,hb⟩
   have BB:=Lh (BB.out.trans (hb.mono BB.out.size))
   clear hb MM
   go_wp2
   go_ret
   exact ⟨rfl,BB.out⟩
 ·rw [if_neg (fun q=>h0 q.1)]
  rw [decide_eq_false h0] at MT
  clear h0
  go_enter Tryz.func51,Tryz.ntmps51
  go_wp2_with fail
  rw [← hw0]
  clear hw0
  refine (MT.out _ X.out.two.dsk.dsk).mono ?_
  rintro e w1 ⟨rfl,hb⟩
  have BB:=Lh (BB.out.trans (hb.mono BB.out.size))
  have X:=Lh (X.out.below hb)
  clear hb MT c0 c1 c2 c3 c4 c5 c6 c7 d0 d1 d2 d3 d4 d5
  obtain ⟨⟨c0,c1,c2,c3,c4,c5,c6,c7⟩,d0,d1,d2,d3,d4,d5⟩:=X.out.cells
  go_wp2
  go_ret
  exact ⟨rfl,BB.out⟩
theorem same12_yes (v a g n u:Int) (B:Option Addr) (k c:Nat) (B':Option Addr) (c':Nat) (t:List Rc) (w:World) (ht:Recs w B k c t) (ht':Recs w B' k c' t) :
  Calls Tryz.prog 23 #[metV v a g n u B k c,metV v a g n u B' k c'] w fun e w'=>e=.returned (.bool true)∧Below w.heap.size w w':=by
 obtain ⟨x,hb⟩:=met_box w v a g n u B k c
 obtain ⟨w0,hw0⟩:∃ w0,w0=w.alloc (.cells #[.int .u32 v,.int .i64 a,.int .u64 g,.int .i64 n,.int .i64 u,.slice B k c] 32):=⟨_,rfl⟩
 rw [← hw0] at x hb
 have hs0:w0.heap.size=w.heap.size + 1:=by rw [hw0,World.size_alloc]
 obtain ⟨y,hb1⟩:=met_box w0 v a g n u B' k c'
 obtain ⟨w1,hw1⟩:∃ w1,w1=w0.alloc (.cells #[.int .u32 v,.int .i64 a,.int .u64 g,.int .i64 n,.int .i64 u,.slice B' k c'] 32):=⟨_,rfl⟩
 rw [← hw1,hs0] at y
 rw [← hw1] at hb1
 have x:=x.below hb1 x.lt
 have hb:=hb.trans (hb1.mono hb.size)
 have SM:=Lh (same11_any B k c t B' k c' t w1 (ht.below hb) (ht'.below hb))
 rw [decide_eq_true (show t=t from rfl)] at SM
 have BB:=Lh hb
 obtain ⟨d0,d1,d2,d3,d4,d5⟩:=x.met
 obtain ⟨e0,e1,e2,e3,e4,e5⟩:=y.met
 have EQ:=fun (wx:World)=>eq_sup v a g v a g wx
 rw [show (v == v && a == a && g == g)=true by simp] at EQ
 clear x y hb hb1 ht ht' hs0
 go_enter Tryz.func23,Tryz.ntmps23
 go_wp2_with fail
 rw [← hw0,← hw1]
 refine SM.out.mono ?_
 rintro e w2 ⟨rfl,q,rfl⟩
 go_wp2
 go_ret
 exact ⟨rfl,by rw [← hw0,← hw1];exact below_drewN BB.out q⟩
theorem sup_box (w:World) (v a g:Int):Blk (w.alloc (.cells #[.int .u32 v,.int .i64 a,.int .u64 g] 29)) w.heap.size 29 [.int .u32 v,.int .i64 a,.int .u64 g]∧Below w.heap.size w (w.alloc (.cells #[.int .u32 v,.int .i64 a,.int .u64 g] 29)):=⟨Blk.new w 29 [.int .u32 v,.int .i64 a,.int .u64 g],(Below.refl _ _).alloc (Nat.le_refl _) _⟩
end Go.Proofs.YtifgcfepbenpjaaGreat
