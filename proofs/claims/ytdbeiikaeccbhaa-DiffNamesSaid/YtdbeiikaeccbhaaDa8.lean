/- Texts of the layers below, joined. -/
import Derived.Test.YtdbeiikaeccbhaaDa4
import Derived.Deep.RegionHeld3
import Derived.Deep.Cut
set_option maxRecDepth 100000
set_option maxHeartbeats 12800000
set_option linter.unusedVariables false
namespace Go.Proofs.Ytdbeiikaeccbhaa
open Go.RowKit
abbrev Bnd:=Int × Int × Int
def okBnd (b:Bnd):Prop:=b.2.1≤b.1∧b.1≤b.2.2
def Bnds (w:World) (g n:Nat) (bs:List Bnd):Prop:=bs.length=n∧g < w.heap.size∧∀ j,j < n→w.cell? ⟨g,j * 3,none⟩=some (.int .i64 (bs.getD j (0,0,0)).1)∧w.cell? ⟨g,j * 3 + 1,none⟩=some (.int .i64 (bs.getD j (0,0,0)).2.1)∧w.cell? ⟨g,j * 3 + 2,none⟩=some (.int .i64 (bs.getD j (0,0,0)).2.2)
theorem Bnds.below {w w':World} {g n:Nat} {bs:List Bnd} (h:Bnds w g n bs) (hb:Below w.heap.size w w'):Bnds w' g n bs :=
 ⟨h.1,Nat.lt_of_lt_of_le h.2.1 hb.size,fun j hj=>by obtain ⟨a,b,c⟩:=h.2.2 j hj;exact ⟨(hb.cell h.2.1).trans a,(hb.cell h.2.1).trans b,(hb.cell h.2.1).trans c⟩⟩
theorem within_any (g n:Nat) (bs:List Bnd) (w:World) (h:Bnds w g n bs) (hn:n≤100) (r:Bool) (hy:(∀ j,j < n→okBnd (bs.getD j (0,0,0)))→r=true) (hno:∀ j,j < n→¬ okBnd (bs.getD j (0,0,0))→r=false) :
  Calls Try.prog 86 #[.slice (some ⟨g,0,none⟩) n n] w fun e w'=>e=.returned (.bool r)∧Below w.heap.size w w':=by
 have H:=Lh h
 have HY:=Lh hy
 have HN:=Lh hno
 clear h hy hno
 go_enter Try.func86,Try.ntmps86
 go_wp2
 go_loopw [7] (fun i wr=>∃ k:Nat,k≤n∧i=.int .i64 k∧(∀ y,y < k→okBnd (bs.getD y (0,0,0)))∧Below w.heap.size w wr) (fun i _=>n - (intOf i).toNat)
 case atStart=>exact ⟨0,Nat.zero_le _,rfl,fun y hy=>by omega,Below.refl _ _⟩
 case round =>
  obtain ⟨k,hk,rfl,hall,hbel⟩:=hrel
  have ALL:=Lh hall
  have BEL:=Lh hbel
  by_cases hkn:k < n
  ·obtain ⟨c0,c1,c2⟩:=(H.out.below hbel).2.2 k hkn
   clear hall hbel
   obtain ⟨b,hb⟩:∃ b,b=bs.getD k (0,0,0):=⟨_,rfl⟩
   rw [← hb] at c0 c1 c2
   obtain ⟨x,l,m⟩:=b
   simp only at c0 c1 c2
   have HB:=Lh hb
   clear hb
   have y:=Blk.new wr 138 [.int .i64 x,.int .i64 l,.int .i64 m]
   have d0:=y.cell 0
   have d1:=y.cell 1
   have d2:=y.cell 2
   simp only [gcZ,gcS] at d0 d1 d2
   have B2:=Lh (BEL.out.alloc BEL.out.size (.cells #[.int .i64 x,.int .i64 l,.int .i64 m] 138))
   clear y
   by_cases h1:x < l
   ·have HR:=Lh (HN.out k hkn (by rw [← HB.out];unfold okBnd;simp only;omega))
    go_wp2
    go_ret
    rw [HR.out]
    exact ⟨rfl,B2.out⟩
   ·by_cases h2:m < x
    ·have HR:=Lh (HN.out k hkn (by rw [← HB.out];unfold okBnd;simp only;omega))
     go_wp2
     go_ret
     rw [HR.out]
     exact ⟨rfl,B2.out⟩
    ·have HO:=Lh (show okBnd (bs.getD k (0,0,0)) by rw [← HB.out];unfold okBnd;simp only;omega)
     go_wp2
     go_roundw
     case rel =>
      refine ⟨k + 1,by omega,by go_num,fun y hy=>?_,B2.out⟩
      rcases Nat.lt_or_ge y k with h | h
      ·exact ALL.out y h
      ·obtain rfl:y=k:=by omega
       exact HO.out
     case measure=>simp [intOf];omega
  ·obtain rfl:k=n:=by omega
   have HR:=Lh (HY.out fun y hy=>ALL.out y hy)
   clear hall hbel
   go_wp2
   go_ret
   rw [HR.out]
   exact ⟨rfl,BEL.out⟩
theorem bnds6 (w:World) (g:Nat) (t:TypeId) (a0 a1 a2 b0 b1 b2 c0 c1 c2 d0 d1 d2 e0 e1 e2 f0 f1 f2:Int) (hg:g=w.heap.size) :
  Bnds (w.alloc (.cells #[.int .i64 a0,.int .i64 a1,.int .i64 a2,.int .i64 b0,.int .i64 b1,.int .i64 b2,.int .i64 c0,.int .i64 c1,.int .i64 c2,.int .i64 d0,.int .i64 d1,.int .i64 d2,.int .i64 e0,.int .i64 e1,.int .i64 e2,.int .i64 f0,.int .i64 f1,.int .i64 f2] t)) g 6 [(a0,a1,a2),(b0,b1,b2),(c0,c1,c2),(d0,d1,d2),(e0,e1,e2),(f0,f1,f2)]:=by
 subst hg
 have y:=Blk.new w t [.int .i64 a0,.int .i64 a1,.int .i64 a2,.int .i64 b0,.int .i64 b1,.int .i64 b2,.int .i64 c0,.int .i64 c1,.int .i64 c2,.int .i64 d0,.int .i64 d1,.int .i64 d2,.int .i64 e0,.int .i64 e1,.int .i64 e2,.int .i64 f0,.int .i64 f1,.int .i64 f2]
 refine ⟨rfl,y.lt,fun j hj=>?_⟩
 match j,hj with
 | 0,_=>exact ⟨y.cell 0,y.cell 1,y.cell 2⟩
 | 1,_=>exact ⟨y.cell 3,y.cell 4,y.cell 5⟩
 | 2,_=>exact ⟨y.cell 6,y.cell 7,y.cell 8⟩
 | 3,_=>exact ⟨y.cell 9,y.cell 10,y.cell 11⟩
 | 4,_=>exact ⟨y.cell 12,y.cell 13,y.cell 14⟩
 | 5,_=>exact ⟨y.cell 15,y.cell 16,y.cell 17⟩
theorem bnds2 (w:World) (g:Nat) (t:TypeId) (a0 a1 a2 b0 b1 b2:Int) (hg:g=w.heap.size) :
  Bnds (w.alloc (.cells #[.int .i64 a0,.int .i64 a1,.int .i64 a2,.int .i64 b0,.int .i64 b1,.int .i64 b2] t)) g 2 [(a0,a1,a2),(b0,b1,b2)]:=by
 subst hg
 have y:=Blk.new w t [.int .i64 a0,.int .i64 a1,.int .i64 a2,.int .i64 b0,.int .i64 b1,.int .i64 b2]
 refine ⟨rfl,y.lt,fun j hj=>?_⟩
 match j,hj with
 | 0,_=>exact ⟨y.cell 0,y.cell 1,y.cell 2⟩
 | 1,_=>exact ⟨y.cell 3,y.cell 4,y.cell 5⟩
theorem may_bnds (P T A M W Q L:Int) (hL:1≤P→P≤3→L=P + 2) :
  ((∀ j,j < 6→okBnd (([(P,1,3),(T,1,16),(A,L,32),(M,1,P),(W,1,4),(Q,4,64)]:List Bnd).getD j (0,0,0)))→decide (mayC P T A M W Q)=true) ∧
  (∀ j,j < 6→¬ okBnd (([(P,1,3),(T,1,16),(A,L,32),(M,1,P),(W,1,4),(Q,4,64)]:List Bnd).getD j (0,0,0))→decide (mayC P T A M W Q)=false):=by
 constructor
 ·intro h
  have h0:=h 0 (by omega)
  have h1:=h 1 (by omega)
  have h2:=h 2 (by omega)
  have h3:=h 3 (by omega)
  have h4:=h 4 (by omega)
  have h5:=h 5 (by omega)
  simp [okBnd] at h0 h1 h2 h3 h4 h5
  have:=hL h0.1 h0.2
  rw [decide_eq_true_eq]
  unfold mayC
  omega
 ·intro j hj h
  rw [decide_eq_false_iff_not]
  intro hm
  unfold mayC at hm
  have:=hL hm.1 hm.2.1
  match j,hj with
  | 0,_=>simp [okBnd] at h;omega
  | 1,_=>simp [okBnd] at h;omega
  | 2,_=>simp [okBnd] at h;omega
  | 3,_=>simp [okBnd] at h;omega
  | 4,_=>simp [okBnd] at h;omega
  | 5,_=>simp [okBnd] at h;omega
theorem pcheck_any (P T A M W Q:Int) (w:World):Calls Try.prog 63 #[cfgV P T A M W Q] w fun e w'=>e=.returned (.int .i64 (chkC P T A M W Q))∧Below w.heap.size w w':=by
 obtain ⟨x,hbel⟩:=box_cfg w P T A M W Q
 obtain ⟨c0,c1,c2,c3,c4,c5⟩:=x.cfg
 have BEL:=Lh hbel
 clear x hbel
 obtain ⟨L,hL⟩:∃ L,IntKind.i64.wrap (P + 2)=L:=⟨_,rfl⟩
 have hmb:=may_bnds P T A M W Q L (fun h1 h2=>by rw [← hL];exact wrap_sm (by omega) (by omega))
 have HY:=Lh hmb.1
 have HN:=Lh hmb.2
 have hck:chkC P T A M W Q=if decide (mayC P T A M W Q) then 0 else 8:=by unfold chkC;by_cases h:mayC P T A M W Q <;> simp [h]
 rw [hck]
 obtain ⟨r,hr⟩:∃ r,r=decide (mayC P T A M W Q):=⟨_,rfl⟩
 rw [← hr] at HY HN ⊢
 clear hck hmb hr
 obtain ⟨w1,hw1⟩:∃ x,x=w.alloc (.cells #[.int .i64 P,.int .i64 T,.int .i64 A,.int .i64 M,.int .i64 W,.int .i64 Q] 28):=⟨_,rfl⟩
 rw [← hw1] at BEL c0 c1 c2 c3 c4 c5
 go_enter Try.func63,Try.ntmps63
 go_upto_region 1 with fail
 rw [← hw1]
 clear hw1
 go_wp2_with fail
 refine (within_any _ 6 _ _ (bnds6 w1 _ _ P 1 3 T 1 16 A L 32 M 1 P W 1 4 Q 4 64 rfl) (by omega) r HY.out HN.out).mono ?_
 rintro e w2 ⟨rfl,hb⟩
 have B2:=Lh ((BEL.out.alloc BEL.out.size _).trans (hb.mono (by have:=BEL.out.size;simp;omega)))
 clear hb
 cases r with
 | true =>
  go_wp2
  go_ret
  exact ⟨rfl,B2.out⟩
 | false =>
  go_wp2
  go_ret
  exact ⟨rfl,B2.out⟩
theorem ppages_any (P T A M W Q:Int) (w:World) (h:1≤T) (h2:T≤16):Calls Try.prog 64 #[cfgV P T A M W Q] w fun e w'=>e=.returned (.int .i64 (pagC T))∧Below w.heap.size w w':=by
 obtain ⟨x,hbel⟩:=box_cfg w P T A M W Q
 obtain ⟨c0,c1,c2,c3,c4,c5⟩:=x.cfg
 have BEL:=Lh hbel
 clear x hbel
 have hq:(T + 8 - 1).tdiv 8=pagC T:=by
  rw [Int.tdiv_eq_ediv_of_nonneg (by omega)];unfold pagC;split <;> omega
 have hq2:(T + 8 - 1) / 8=pagC T:=by unfold pagC;split <;> omega
 have hq3:(T + 7) / 8=pagC T:=by unfold pagC;split <;> omega
 obtain ⟨g,hg⟩:∃ g,g=pagC T:=⟨_,rfl⟩
 have hg2:1≤g∧g≤2:=by rcases pagC_or T with p | p <;> omega
 rw [← hg] at hq hq2 hq3 ⊢
 clear hg
 go_enter Try.func64,Try.ntmps64
 go_wp2
 go_ret
 exact ⟨rfl,BEL.out⟩
abbrev partV (k f o t s:Int):Value:=.agg #[.int .u8 k,.int .i64 f,.int .i64 o,.int .i64 t,.int .i64 s]
theorem box_part (w:World) (k f o t s:Int) :
  Blk (w.alloc (.cells #[.int .u8 k,.int .i64 f,.int .i64 o,.int .i64 t,.int .i64 s] 132)) w.heap.size 132 [.int .u8 k,.int .i64 f,.int .i64 o,.int .i64 t,.int .i64 s] ∧
  Below w.heap.size w (w.alloc (.cells #[.int .u8 k,.int .i64 f,.int .i64 o,.int .i64 t,.int .i64 s] 132)) :=
 ⟨Blk.new w 132 [.int .u8 k,.int .i64 f,.int .i64 o,.int .i64 t,.int .i64 s],(Below.refl _ _).alloc (Nat.le_refl _) _⟩
theorem Blk.part {w:World} {g:Nat} {t:TypeId} {k f o th s:Int} (h:Blk w g t [.int .u8 k,.int .i64 f,.int .i64 o,.int .i64 th,.int .i64 s]) :
  w.cell? ⟨g,0,none⟩=some (.int .u8 k)∧w.cell? ⟨g,1,none⟩=some (.int .i64 f)∧w.cell? ⟨g,2,none⟩=some (.int .i64 o)∧w.cell? ⟨g,3,none⟩=some (.int .i64 th)∧w.cell? ⟨g,4,none⟩=some (.int .i64 s) :=
 ⟨h.cell 0,h.cell 1,h.cell 2,h.cell 3,h.cell 4⟩
def secP (f t s o n:Int):Int:=f + (o * t + n) * s
theorem sector_any (k f o t s a n:Int) (w:World) (h1:-10000≤a * t∧a * t≤10000) (h2:-10000≤n∧n≤10000) (h3:-50000≤(a * t + n) * s∧(a * t + n) * s≤50000) (h4:0≤f∧f≤1000):Calls Try.prog 96 #[partV k f o t s,.int .i64 a,.int .i64 n] w fun e w'=>e=.returned (.int .i64 (secP f t s a n))∧Below w.heap.size w w':=by
 obtain ⟨x,hbel⟩:=box_part w k f o t s
 obtain ⟨c0,c1,c2,c3,c4⟩:=x.part
 have BEL:=Lh hbel
 unfold secP
 have m1:IntKind.i64.wrap (a * t)=a * t:=wrap_sm (by omega) (by omega)
 have m2:IntKind.i64.wrap (a * t + n)=a * t + n:=wrap_sm (by omega) (by omega)
 have m3:IntKind.i64.wrap ((a * t + n) * s)=(a * t + n) * s:=wrap_sm (by omega) (by omega)
 have m4:IntKind.i64.wrap (f + (a * t + n) * s)=f + (a * t + n) * s:=wrap_sm (by omega) (by omega)
 clear x hbel h1 h2 h3 h4
 go_enter Try.func96,Try.ntmps96
 go_wp2
 go_ret
 exact ⟨rfl,BEL.out⟩
theorem end_any (k f o t s:Int) (w:World) (h1:-10000≤o * t∧o * t≤10000) (h3:-50000≤(o * t + 0) * s∧(o * t + 0) * s≤50000) (h4:0≤f∧f≤1000):Calls Try.prog 85 #[partV k f o t s] w fun e w'=>e=.returned (.int .i64 (secP f t s o 0))∧Below w.heap.size w w':=by
 obtain ⟨x,hbel⟩:=box_part w k f o t s
 obtain ⟨c0,c1,c2,c3,c4⟩:=x.part
 have BEL:=Lh hbel
 have SE:=Lh (fun w':World=>sector_any k f o t s o 0 w' h1 (by omega) h3 h4)
 obtain ⟨v,hv⟩:∃ v,v=secP f t s o 0:=⟨_,rfl⟩
 rw [← hv] at SE ⊢
 clear x hbel h1 h3 h4 hv
 go_enter Try.func85,Try.ntmps85
 go_wp2_with fail
 refine (SE.out _).mono ?_
 rintro e w2 ⟨rfl,hb⟩
 have B2:=Lh (BEL.out.trans (hb.mono BEL.out.size))
 clear hb c0 c1 c2 c3 c4
 go_wp2
 go_ret
 exact ⟨rfl,B2.out⟩
end Go.Proofs.Ytdbeiikaeccbhaa
