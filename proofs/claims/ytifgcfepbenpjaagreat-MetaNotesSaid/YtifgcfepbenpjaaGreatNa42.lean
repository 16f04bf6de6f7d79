/- Texts of layers 1 to 12, joined. -/
import Derived.Test.YtifgcfepbenpjaaGreatNa40
import Derived.Test.YtifgcfepbenpjaaGreatNa41
import Derived.Lib.SliceRun
set_option maxRecDepth 100000
set_option maxHeartbeats 12800000
set_option linter.unusedVariables false
namespace Go.Proofs.YtifgcfepbenpjaaGreat
open Go.RowKit
def PlanOut12 (w:World) (m:Mt) (l:List Ac) (E:Int) (e:Ending) (w':World):Prop:=∃ A' c' A2 c2 L,e=.returned (.tuple #[metV m.s.1 m.s.2.1 m.s.2.2 m.n m.u A' m.t.length c',.slice A2 l.length c2,.int .i64 E])∧OwnRecs w' w.heap.size A' m.t.length c' m.t∧OwnAcs w' w.heap.size A2 l.length c2 L∧AxIs w' L l∧Below w.heap.size w w'
theorem rsamea_yes (A:Option Addr) (n c:Nat) (base:Nat) (L:List Ax) (A':Option Addr) (c':Nat) (base':Nat) (L':List Ax) (l:List Ac) (w:World) (h1:OwnAcs w base A n c L) (x1:AxIs w L l) (h2:OwnAcs w base' A' n c' L') (x2:AxIs w L' l) (hn:n≤1000) :
  Calls Tryz.prog 24 #[.slice A n c,.slice A' n c'] w fun e w'=>e=.returned (.bool true)∧Below w.heap.size w w':=by
 have P1:=Lh h1
 have P2:=Lh h2
 have X1:=Lh x1
 have X2:=Lh x2
 have N1:=Lh h1.2
 have N2:=Lh h2.2
 clear h1 h2 x1 x2
 have hnn:((n:Int) != (n:Int))=false:=by simp
 go_enter Tryz.func24,Tryz.ntmps24
 go_wp2
 go_loopw [5] (fun i wr=>∃ j:Nat,j≤n∧i=.int .i64 j∧∃ q,wr=w.drewN q) (fun i _=>n - (intOf i).toNat)
 case atStart=>exact ⟨0,Nat.zero_le _,rfl,0,rfl⟩
 case round =>
  obtain ⟨j,hj,rfl,q,rfl⟩:=hrel
  by_cases hjk:j < n
  ·have hji:(j:Int) < (n:Int):=by omega
   obtain ⟨b1,rfl,hlt1,k1,i1,s1⟩:=P1.out.row hjk
   obtain ⟨b2,rfl,hlt2,k2,i2,s2⟩:=P2.out.row hjk
   obtain ⟨e1,f1,a1⟩:=X1.out.2 j (by rw [N1.out];exact hjk)
   obtain ⟨e2,f2,a2⟩:=X2.out.2 j (by rw [N2.out];exact hjk)
   rw [e1] at k1
   rw [e2] at k2
   rw [f1] at i1
   rw [f2] at i2
   obtain ⟨y1,hy1⟩:∃ y,y=(L.getD j zAx).2.2:=⟨_,rfl⟩
   obtain ⟨y2,hy2⟩:∃ y,y=(L'.getD j zAx).2.2:=⟨_,rfl⟩
   rw [← hy1] at s1 a1
   rw [← hy2] at s2 a2
   clear hy1 hy2
   obtain ⟨A1,n1,c1⟩:=y1
   obtain ⟨A2,n2,c2⟩:=y2
   dsimp only at s1 s2 a1 a2
   have hst1:=fun q=>str_arg (a1.below (below_drewN (Below.refl w.heap.size w) q))
   have hst2:=fun q=>str_arg (a2.below (below_drewN (Below.refl w.heap.size w) q))
   obtain ⟨p,hp⟩:∃ p,p=l.getD j (0,0,[]):=⟨_,rfl⟩
   rw [← hp] at k1 k2 i1 i2 hst1 hst2
   obtain ⟨pk,pa,T⟩:=p
   dsimp only at k1 k2 i1 i2 hst1 hst2
   have hpk:(pk != pk)=false:=by simp
   have hpl:(pk == pk)=true:=by simp
   have hpa:(pa != pa)=false:=by simp
   have hpb:(pa == pa)=true:=by simp
   have hse2:((strOfNums T).toList != (strOfNums T).toList)=false:=by simp
   have hse3:((strOfNums T).toList == (strOfNums T).toList)=true:=by simp
   clear hp a1 a2 hlt1 hlt2 e1 e2 f1 f2
   go_wp2
   go_quiet (fail)
   go_wp2
   go_roundw
   case rel=>exact ⟨j + 1,by omega,by go_num,_,rfl⟩
   all_goals (try case measure=>simp [intOf];omega)
  ·obtain rfl:j=n:=by omega
   go_wp2
   go_ret
   exact ⟨rfl,below_drewN (Below.refl _ _) _⟩
theorem GathOut.set {a w:World} {G H:Nat} {l:List Ac} {t:TypeId} {cs:List Value} (h:GathOut a G l w) (hb:Blk w H t cs) (h1:t≠75) (h2:t≠38) (h3:t≠5) (hG:G < H) (ha:a.heap.size≤H) (i:Nat) (u:Value):GathOut a G l (w.setCell ⟨H,i,none⟩ u):=by
 obtain ⟨⟨A,n,c,k1,k2⟩,hB,hT⟩:=h
 refine ⟨⟨A,n,c,k1.away (by omega) i u,k2.keep fun g e cs' he _ hc=>Below.heap_setCell w _ u g fun e2=>?_⟩,hB.setCell (p:=⟨H,i,none⟩) (Nat.le_of_lt hG) u,?_⟩
 ·have e3:g=H:=e2
  subst e3
  unfold Blk at hb
  rw [hb] at hc
  simp at hc
  rcases he with rfl | rfl
  ·exact h1 hc.2
  ·exact h3 hc.2
 ·exact ⟨Nat.le_trans hT.1 (by simp [World.setCell]),fun g hg q1 q2=>(Below.heap_setCell w _ u g (fun e=>by have e':g=H:=e;omega)).trans (hT.2 g hg q1 q2)⟩
theorem GathOut.sixM {wa w:World} {G H:Nat} {l:List Ac} {v' a' g' n' u':Int} {B':Option Addr} {k' c':Nat} (h:GathOut wa G l w) (hb:Blk w H 32 (metL v' a' g' n' u' B' k' c')) (hG:G < H) (ha:wa.heap.size≤H) (v a g n u:Int) (B:Option Addr) (k c:Nat):GathOut wa G l ((((((w.setCell ⟨H,0,none⟩ (.int .u32 v)).setCell ⟨H,1,none⟩ (.int .i64 a)).setCell ⟨H,2,none⟩ (.int .u64 g)).setCell ⟨H,3,none⟩ (.int .i64 n)).setCell ⟨H,4,none⟩ (.int .i64 u)).setCell ⟨H,5,none⟩ (.slice B k c)):=by
 have q1:=h.set hb (by decide) (by decide) (by decide) hG ha 0 (.int .u32 v)
 have b1:=hb.set 0 (.int .u32 v)
 have q2:=q1.set b1 (by decide) (by decide) (by decide) hG ha 1 (.int .i64 a)
 have b2:=b1.set 1 (.int .i64 a)
 have q3:=q2.set b2 (by decide) (by decide) (by decide) hG ha 2 (.int .u64 g)
 have b3:=b2.set 2 (.int .u64 g)
 have q4:=q3.set b3 (by decide) (by decide) (by decide) hG ha 3 (.int .i64 n)
 have b4:=b3.set 3 (.int .i64 n)
 have q5:=q4.set b4 (by decide) (by decide) (by decide) hG ha 4 (.int .i64 u)
 have b5:=b4.set 4 (.int .i64 u)
 exact q5.set b5 (by decide) (by decide) (by decide) hG ha 5 (.slice B k c)
theorem OwnRecs.boxM {w:World} {base H:Nat} {A:Option Addr} {n c:Nat} {L:List Rc} {cs:List Value} (h:OwnRecs w base A n c L) (hb:Blk w H 32 cs) (i:Nat) (u:Value):OwnRecs (w.setCell ⟨H,i,none⟩ u) base A n c L :=
 h.keep fun g cs' _ hc=>Below.heap_setCell w _ u g fun e2=>by
  have e3:g=H:=e2
  subst e3
  unfold Blk at hb
  rw [hb] at hc
  simp at hc
theorem OwnRecs.boxSix {w:World} {base H:Nat} {A:Option Addr} {m d:Nat} {L:List Rc} {v' a' g' n' u':Int} {B':Option Addr} {k' c':Nat} (h:OwnRecs w base A m d L) (hb:Blk w H 32 (metL v' a' g' n' u' B' k' c')) (v a g n u:Int) (B:Option Addr) (k c:Nat):OwnRecs ((((((w.setCell ⟨H,0,none⟩ (.int .u32 v)).setCell ⟨H,1,none⟩ (.int .i64 a)).setCell ⟨H,2,none⟩ (.int .u64 g)).setCell ⟨H,3,none⟩ (.int .i64 n)).setCell ⟨H,4,none⟩ (.int .i64 u)).setCell ⟨H,5,none⟩ (.slice B k c)) base A m d L :=
 (((((h.boxM hb 0 _).boxM (hb.set 0 _) 1 _).boxM ((hb.set 0 _).set 1 _) 2 _).boxM (((hb.set 0 _).set 1 _).set 2 _) 3 _).boxM ((((hb.set 0 _).set 1 _).set 2 _).set 3 _) 4 _).boxM (((((hb.set 0 _).set 1 _).set 2 _).set 3 _).set 4 _) 5 _
def StepOut (w:World) (G base:Nat) (m:Mt) (l':List Ac) (E:Int) (e:Ending) (w':World):Prop:=∃ A' c' l2,e=.returned (.tuple #[metV m.s.1 m.s.2.1 m.s.2.2 m.n m.u A' m.t.length c',.int .i64 E])∧OwnRecs w' base A' m.t.length c' m.t∧GathOut w G l2 w'∧(E=0→l2=l')
end Go.Proofs.YtifgcfepbenpjaaGreat
