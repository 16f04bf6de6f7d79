/- Texts of the layers below, joined. -/
import Derived.Test.YtdbeiikaeccbhaaDa6
import Derived.Test.YtdbeiikaeccbhaaDa16
import Derived.Test.YtdbeiikaeccbhaaDa24
import Derived.Laws.BitsAllLaws
import Derived.Laws.BitsLemmas
import Derived.Lib.QuoteBits
import Derived.Deep.RegionHeld3
import Derived.Deep.RegionWith
import Derived.ScopeJumps
import Derived.Deep.LoopGhost
set_option maxRecDepth 100000
set_option maxHeartbeats 12800000
set_option linter.unusedVariables false
namespace Go.Proofs.Ytdbeiikaeccbhaa
open Go.RowKit
set_option maxRecDepth 100000
abbrev pgL (p n a f:Int):List Value:=[.int .i64 p,.int .i64 n,.int .i64 a,.int .u8 f]
abbrev pgV (p n a f:Int):Value:=.agg #[.int .i64 p,.int .i64 n,.int .i64 a,.int .u8 f]
theorem Blk.pge {w:World} {g:Nat} {t:TypeId} {p n a f:Int} (h:Blk w g t (pgL p n a f)):w.cell? ⟨g,0,none⟩=some (.int .i64 p)∧w.cell? ⟨g,1,none⟩=some (.int .i64 n)∧w.cell? ⟨g,2,none⟩=some (.int .i64 a)∧w.cell? ⟨g,3,none⟩=some (.int .u8 f):=⟨h.cell 0,h.cell 1,h.cell 2,h.cell 3⟩
theorem Blk.fourP {w:World} {g:Nat} {t:TypeId} {p n a f:Int} (h:Blk w g t (pgL p n a f)) (p' n' a' f':Int):Blk ((((w.setCell ⟨g,0,none⟩ (.int .i64 p')).setCell ⟨g,1,none⟩ (.int .i64 n')).setCell ⟨g,2,none⟩ (.int .i64 a')).setCell ⟨g,3,none⟩ (.int .u8 f')) g t (pgL p' n' a' f'):=(((h.set 0 _).set 1 _).set 2 _).set 3 _
theorem box_pge (w:World) (p n a f:Int):Blk (w.alloc (.cells #[.int .i64 p,.int .i64 n,.int .i64 a,.int .u8 f] 77)) w.heap.size 77 (pgL p n a f)∧Below w.heap.size w (w.alloc (.cells #[.int .i64 p,.int .i64 n,.int .i64 a,.int .u8 f] 77)) :=
 ⟨Blk.new w 77 (pgL p n a f),(Below.refl _ _).alloc (Nat.le_refl _) _⟩
theorem all_zero {b:Txt} (h:b.length=32):(b.all fun z=>decide (z=0))=decide (b=noughts):=by
 by_cases hb:b=noughts
 ·subst hb;rw [decide_eq_true rfl];decide
 ·rw [decide_eq_false hb,List.all_eq_false]
  refine Classical.byContradiction fun hno=>hb ?_
  have hall:∀ z ∈ b,z=0:=fun z hz=>Classical.byContradiction fun hne=>hno ⟨z,hz,by simpa using hne⟩
  rw [List.eq_replicate_iff.2 ⟨h,hall⟩]
  rfl
theorem arenoughts_any (A:Option Addr) (n c:Nat) (b:Txt) (w:World) (h:Arg w .u8 A n c b) :
  Calls Try.prog 66 #[.slice A n c] w fun e w'=>e=.returned (.bool (b.all fun z=>decide (z=0)))∧w'=w:=by
 have hl:=h.len
 have hcm:=Nat.le_trans h.cap h.max
 unfold maxLen at hcm
 have YES:(∀ y,y < n→b.getD y 0=0)→(b.all fun z=>decide (z=0))=true:=fun hall=>by
  rw [List.all_eq_true]
  intro z hz
  obtain ⟨k,hk,rfl⟩:=List.getElem_of_mem hz
  have:=hall k (by omega)
  rw [gtD,geE hk,Option.getD_some] at this
  rw [decide_eq_true_iff]
  exact this
 have NO:∀ y,y < n→b.getD y 0≠0→(b.all fun z=>decide (z=0))=false:=fun y hy hne=>by
  rw [List.all_eq_false]
  refine ⟨b[y]'(by omega),List.getElem_mem _,?_⟩
  rw [gtD,geE (by omega),Option.getD_some] at hne
  rw [decide_eq_true_iff]
  exact hne
 have YES:=Lh YES
 have NO:=Lh NO
 have H:=Lh h
 obtain ⟨R,hR⟩:∃ R,R=b.all fun z=>decide (z=0):=⟨_,rfl⟩
 rw [← hR] at YES NO ⊢
 clear h hR
 go_enter Try.func66,Try.ntmps66
 go_wp2
 go_loop [8] (fun i=>∃ k:Nat,k≤n∧i=.int .i64 k∧∀ y,y < k→b.getD y 0=0) (fun i=>n - (intOf i).toNat)
 case atStart=>exact ⟨0,Nat.zero_le _,rfl,fun y hy=>by omega⟩
 case round =>
  obtain ⟨k,hk,rfl,hall⟩:=hrel
  have ALL:=Lh hall
  clear hall
  by_cases hkn:k < n
  ·have hki:(k:Int) < (n:Int):=by omega
   obtain ⟨bb,o,rfl,_,hc⟩:=H.out.seq.int (j:=k) (by omega)
   obtain ⟨z,hz⟩:∃ z,z=b.getD k 0:=⟨_,rfl⟩
   rw [← hz] at hc
   by_cases h0:z=0
   ·have HZ:=Lh (hz.symm.trans h0)
    have hq:(z != 0)=false:=by rw [h0];rfl
    clear hz h0
    go_wp2
    go_round
    case rel =>
     refine ⟨k + 1,by omega,by go_num,fun y hy=>?_⟩
     rcases Nat.lt_or_ge y k with h' | h'
     ·exact ALL.out y h'
     ·obtain rfl:y=k:=by omega
      exact HZ.out
    case measure=>simp [intOf];omega
   ·have HR:=Lh (NO.out k hkn (by rw [← hz];exact h0))
    have hq:(z != 0)=true:=bne_iff_ne.2 h0
    clear hz h0
    go_wp2
    go_ret
    rw [HR.out]
    exact ⟨rfl,rfl⟩
  ·obtain rfl:k=n:=by omega
   have HR:=Lh (YES.out ALL.out)
   go_wp2
   go_ret
   rw [HR.out]
   exact ⟨rfl,rfl⟩
theorem sub_iff {b f:Int} (hb:isByte b) (hf:isByte f):subP b f↔bits .andNot .u8 b f=0:=by
 obtain ⟨hb0,hb1⟩:=hb
 obtain ⟨hf0,hf1⟩:=hf
 rw [u8_andNot b f hb0 (by omega) hf0 (by omega)]
 unfold subP
 obtain ⟨x,hx⟩:∃ x:Nat,x=b.toNat:=⟨_,rfl⟩
 obtain ⟨y,hy⟩:∃ y:Nat,y=f.toNat:=⟨_,rfl⟩
 have hx1:x < 2 ^ 8:=by omega
 have hy1:y < 2 ^ 8:=by omega
 rw [← hx,← hy]
 have key:∀ i,(x &&& (255 - y)).testBit i=(x.testBit i && !y.testBit i):=fun i=>by
  rw [Nat.testBit_and,show 255 - y=2 ^ 8 - (y + 1) by omega,Nat.testBit_two_pow_sub_succ hy1]
  by_cases hi:i < 8
  ·rw [decide_eq_true hi,Bool.true_and]
  ·rw [show x.testBit i=false from Nat.testBit_lt_two_pow (Nat.lt_of_lt_of_le hx1 (Nat.pow_le_pow_right (by decide) (by omega)))]
   rfl
 constructor
 ·intro h
  have h0:x &&& (255 - y)=0:=Nat.eq_of_testBit_eq fun i=>by
   rw [key,Nat.zero_testBit]
   have:=congrArg (fun v=>Nat.testBit v i) h
   simp only [Nat.testBit_and] at this
   cases hX:x.testBit i <;> cases hY:y.testBit i <;> simp_all
  rw [h0];rfl
 ·intro h
  have h0:x &&& (255 - y)=0:=by omega
  refine Nat.eq_of_testBit_eq fun i=>?_
  have:=key i
  rw [h0,Nat.zero_testBit] at this
  rw [Nat.testBit_and]
  cases hX:x.testBit i <;> cases hY:y.testBit i <;> simp_all
theorem four_row {w:World} {g:Nat} (h:Blk w g 5 (ints .u8 noughts)) (x y z u:Int) :
  Blk ((((w.setCell ⟨g,0,none⟩ (.int .u8 x)).setCell ⟨g,1,none⟩ (.int .u8 y)).setCell ⟨g,2,none⟩ (.int .u8 z)).setCell ⟨g,3,none⟩ (.int .u8 u)) g 5 (ints .u8 ([x,y,z,u] ++ List.replicate 28 0)):=(((h.set 0 _).set 1 _).set 2 _).set 3 _
theorem wrap_byte {n:Int} (h:isByte n):IntKind.u8.wrap n=n:=by
 obtain ⟨h0,h1⟩:=h
 rw [IntKind.wrap_u8]
 omega
theorem below_fourP {w w':World} {G:Nat} (h:Below w.heap.size w w') (hg:w.heap.size≤G) (x y z u:Value):Below w.heap.size w ((((w'.setCell ⟨G,0,none⟩ x).setCell ⟨G,1,none⟩ y).setCell ⟨G,2,none⟩ z).setCell ⟨G,3,none⟩ u) :=
 (((h.setCell (p:=⟨G,0,none⟩) hg x).setCell (p:=⟨G,1,none⟩) hg y).setCell (p:=⟨G,2,none⟩) hg z).setCell (p:=⟨G,3,none⟩) hg u
theorem ptext_any (p n a f b:Int) (w:World) (hp:isByte p) (hn:isByte n) (hf:isByte f) (hb:isByte b) :
  Calls Try.prog 30 #[pgV p n a f,.int .u8 b] w (RowOut .u8 5 w (if subP b f then pgSec p n b else []) (if subP b f then 0 else 2)):=by
 obtain ⟨x,hbel⟩:=box_pge w p n a f
 obtain ⟨w1,hw1⟩:∃ x:World,x=w.alloc (.cells #[.int .i64 p,.int .i64 n,.int .i64 a,.int .u8 f] 77):=⟨_,rfl⟩
 rw [← hw1] at x hbel
 have X:=Lh x
 have B:=Lh hbel
 obtain ⟨c0,c1,c2,c3⟩:=x.pge
 have hiff:=sub_iff hb hf
 have e1:IntKind.u8.wrap p=p:=wrap_byte hp
 have e2:IntKind.u8.wrap n=n:=wrap_byte hn
 by_cases hs:subP b f
 ·have hq:=hiff.1 hs
  rw [if_pos hs,if_pos hs]
  have y:=Blk.new w1 5 (ints .u8 noughts)
  have hk:Below w1.heap.size w1 (w1.alloc (.cells (ints .u8 noughts).toArray 5)):=(Below.refl _ _).alloc (Nat.le_refl _) _
  have hmk:=make32 w1
  obtain ⟨w2,hw2⟩:∃ x:World,x=w1.alloc (.cells (ints .u8 noughts).toArray 5):=⟨_,rfl⟩
  obtain ⟨g,hg⟩:∃ x:Nat,x=w1.heap.size:=⟨_,rfl⟩
  rw [← hw2] at y hk hmk
  rw [← hg] at y hk hmk
  have Y:=Lh y
  have K:=Lh hk
  have HG:=Lh hg
  clear hiff hs hp hn hf hb hbel x y hk hw2 hg
  go_enter Try.func30,Try.ntmps30
  go_upto_region 1 with fail
  rw [← hw1]
  clear hw1
  go_upto_region 4 with fail
  obtain ⟨k0,k1,k2,k3⟩:=(X.out.grown (w':=w2) (row:=none) (by rw [HG.out] at K;exact grown_of_below K.out) (by simp)).pge
  have y0:=(Y.out.cell 0).trans (show (ints .u8 noughts)[0]?=some (.int .u8 0) from rfl)
  have y1:=(Y.out.cell 1).trans (show (ints .u8 noughts)[1]?=some (.int .u8 0) from rfl)
  have y2:=(Y.out.cell 2).trans (show (ints .u8 noughts)[2]?=some (.int .u8 0) from rfl)
  have y3:=(Y.out.cell 3).trans (show (ints .u8 noughts)[3]?=some (.int .u8 0) from rfl)
  have f0:=Y.out.free 0
  have f1:=Y.out.free 1
  have f2:=Y.out.free 2
  have f3:=Y.out.free 3
  have hne:¬ w.heap.size=g:=by rw [HG.out];have:=X.out.lt;omega
  have hne2:¬ g=w.heap.size:=fun e=>hne e.symm
  have Z:=Lh (four_row Y.out 1 p n b)
  have HGE:=Lh (show w.heap.size≤g by rw [HG.out];exact B.out.size)
  have B:=Lh (below_fourP (B.out.trans (K.out.mono HGE.out)) HGE.out (.int .u8 1) (.int .u8 p) (.int .u8 n) (.int .u8 b))
  clear c0 c1 c2 c3 hmk K Y X HG
  go_wp2
  go_ret2
  exact ⟨some ⟨g,0,none⟩,32,rfl,Z.out.owns HGE.out rfl (by rw [pgSec_len];decide),B.out⟩
 ·have hq:bits .andNot .u8 b f≠0:=fun h=>hs (hiff.2 h)
  obtain ⟨x,hx⟩:∃ x,x=bits .andNot .u8 b f:=⟨_,rfl⟩
  rw [← hx] at hq
  have hx2:bits .andNot .u8 b f=x:=hx.symm
  have hq2:(x != 0)=true:=bne_iff_ne.2 hq
  rw [if_neg hs,if_neg hs]
  clear hiff hs hp hn hf hb hbel hx
  go_enter Try.func30,Try.ntmps30
  go_upto_region 1 with fail
  rw [← hw1]
  clear hw1
  go_wp2
  go_ret2
  exact ⟨none,0,rfl,World.ownsRow_nil _ _ _ _,B.out⟩
set_option maxRecDepth 100000
def PgeOut (w:World) (p n a f E:Int) (e:Ending) (w':World):Prop:=e=.returned (.tuple #[pgV p n a f,.int .i64 E])∧Below w.heap.size w w'
structure GBox (w:World) (G:Nat) (P T A M W Q p n a f:Int):Prop where
 cfg:Blk w G 28 [.int .i64 P,.int .i64 T,.int .i64 A,.int .i64 M,.int .i64 W,.int .i64 Q]
 pge:Blk w (G + 1) 77 (pgL p n a f)
section
variable {w w':World} {G:Nat} {P T A M W Q p n a f:Int}
theorem GBox.below (x:GBox w G P T A M W Q p n a f) (hb:Below w.heap.size w w'):GBox w' G P T A M W Q p n a f:=⟨x.cfg.below hb x.cfg.lt,x.pge.below hb x.pge.lt⟩
theorem GBox.cells (x:GBox w G P T A M W Q p n a f):w.cell? ⟨G,0,none⟩=some (.int .i64 P)∧w.cell? ⟨G,1,none⟩=some (.int .i64 T)∧w.cell? ⟨G,2,none⟩=some (.int .i64 A)∧w.cell? ⟨G,3,none⟩=some (.int .i64 M)∧w.cell? ⟨G,4,none⟩=some (.int .i64 W)∧w.cell? ⟨G,5,none⟩=some (.int .i64 Q) ∧
  w.cell? ⟨G + 1,0,none⟩=some (.int .i64 p)∧w.cell? ⟨G + 1,1,none⟩=some (.int .i64 n)∧w.cell? ⟨G + 1,2,none⟩=some (.int .i64 a)∧w.cell? ⟨G + 1,3,none⟩=some (.int .u8 f) :=
 ⟨x.cfg.cell 0,x.cfg.cell 1,x.cfg.cell 2,x.cfg.cell 3,x.cfg.cell 4,x.cfg.cell 5,x.pge.cell 0,x.pge.cell 1,x.pge.cell 2,x.pge.cell 3⟩
theorem GBox.new (w:World) (P T A M W Q p n a f:Int):GBox ((w.alloc (.cells #[.int .i64 P,.int .i64 T,.int .i64 A,.int .i64 M,.int .i64 W,.int .i64 Q] 28)).alloc (.cells #[.int .i64 p,.int .i64 n,.int .i64 a,.int .u8 f] 77)) w.heap.size P T A M W Q p n a f ∧
  Below w.heap.size w ((w.alloc (.cells #[.int .i64 P,.int .i64 T,.int .i64 A,.int .i64 M,.int .i64 W,.int .i64 Q] 28)).alloc (.cells #[.int .i64 p,.int .i64 n,.int .i64 a,.int .u8 f] 77)):=by
 obtain ⟨x,hb⟩:=box_cfg w P T A M W Q
 obtain ⟨y,hk⟩:=box_pge (w.alloc (.cells #[.int .i64 P,.int .i64 T,.int .i64 A,.int .i64 M,.int .i64 W,.int .i64 Q] 28)) p n a f
 rw [World.size_alloc] at y
 exact ⟨⟨x.below hk x.lt,y⟩,hb.trans (hk.mono hb.size)⟩
end
theorem pge_zero {P T A M W Q p n:Int} (h:pgeE P T A M W Q p n=0):mayC P T A M W Q∧0≤p∧p < P∧0≤n∧n < pagC T:=by
 unfold pgeE at h
 split at h
 ·split at h
  ·rename_i h1 h2
   exact ⟨h1,h2.1,by omega,by omega,by omega⟩
  ·cases h
 ·cases h
theorem many_zero {P T A M W Q:Int} (h:mayC P T A M W Q):manyE T=0∧(allB T).length=(pagC T).toNat:=by
 have h2:=h
 unfold mayC at h2
 refine ⟨if_pos (by omega),?_⟩
 rw [all_made h,pag_pgs h]
 exact madeTo_length _ _ _
theorem ppageof_yes (P T A M W Q p n:Int) (w:World) (h:pgeE P T A M W Q p n=0) :
  Calls Try.prog 29 #[cfgV P T A M W Q,.int .i64 p,.int .i64 n] w (PgeOut w p n (atP T A p n) (fulP T n.toNat) 0):=by
 obtain ⟨hc,hp0,hp1,hn0,hn1⟩:=pge_zero h
 have hat:=(at_page hc ⟨hp0,hp1⟩ ⟨hn0,hn1⟩).2.1
 have PP:=Lh (fun w':World=>ppage_any P T A M W Q p n w')
 rw [h,hat] at PP
 obtain ⟨hm,hl⟩:=many_zero hc
 have AL:=Lh (fun w':World=>All_any T w')
 rw [hm] at AL
 obtain ⟨k,rfl⟩:∃ k:Nat,n=k:=⟨n.toNat,by omega⟩
 obtain ⟨m,hme⟩:∃ m:Nat,m=(pagC T).toNat:=⟨_,rfl⟩
 rw [← hme] at hl
 have hkm:(k:Int) < (m:Int):=by omega
 have hkm2:k < m:=by omega
 have hfu:fulP T (k:Int).toNat=(allB T).getD k 0:=by rw [Int.toNat_natCast];rfl
 obtain ⟨f,hf⟩:∃ f,f=fulP T (k:Int).toNat:=⟨_,rfl⟩
 rw [← hf] at hfu ⊢
 obtain ⟨a,ha⟩:∃ a,a=atP T A p (k:Int):=⟨_,rfl⟩
 rw [← ha] at PP ⊢
 obtain ⟨L,hL⟩:∃ L,L=allB T:=⟨_,rfl⟩
 rw [← hL] at AL hl hfu
 have HL:=Lh hl
 have HF:=Lh hfu
 have hwr:IntKind.i64.wrap (k:Int)=k:=Lib.wrap_i64_small k (by have:=pag_is hc;omega)
 obtain ⟨x,hbel⟩:=GBox.new w P T A M W Q 0 0 0 0
 obtain ⟨w1,hw1⟩:∃ x:World,x=(w.alloc (.cells #[.int .i64 P,.int .i64 T,.int .i64 A,.int .i64 M,.int .i64 W,.int .i64 Q] 28)).alloc (.cells #[.int .i64 0,.int .i64 0,.int .i64 0,.int .u8 0] 77):=⟨_,rfl⟩
 rw [← hw1] at x hbel
 have X:=Lh x
 have B:=Lh hbel
 obtain ⟨c0,c1,c2,c3,c4,c5,q0,q1,q2,q3⟩:=x.cells
 unfold PgeOut
 clear h hc hp0 hp1 hn0 hn1 hat hm hme hf ha hL hl hfu x hbel hkm2
 have hkm2:=Lh (show k < m by omega)
 go_enter Try.func29,Try.ntmps29
 go_wp2_with fail
 rw [← hw1]
 clear hw1
 refine (PP.out _).mono ?_
 rintro e w2 ⟨rfl,hb⟩
 have B:=Lh (B.out.trans (hb.mono B.out.size))
 have X:=Lh (X.out.below hb)
 clear hb c0 c1 c2 c3 c4 c5 q0 q1 q2 q3 PP
 obtain ⟨c0,c1,c2,c3,c4,c5,q0,q1,q2,q3⟩:=X.out.cells
 go_wp2_with fail
 refine (AL.out _).mono ?_
 intro e w3 hout
 obtain ⟨A2,r2,rfl,hown,hb⟩:=hout.len rfl HL.out
 have B:=Lh (B.out.trans (hb.mono B.out.size))
 have X:=Lh (X.out.below hb)
 obtain ⟨g,rfl,_,hc,_,_⟩:=owns_int_at hown hkm2.out
 rw [← HF.out] at hc
 clear hb hown hout c0 c1 c2 c3 c4 c5 q0 q1 q2 q3 AL
 obtain ⟨c0,c1,c2,c3,c4,c5,q0,q1,q2,q3⟩:=X.out.cells
 have f0:=X.out.pge.free 0
 have f1:=X.out.pge.free 1
 have f2:=X.out.pge.free 2
 have f3:=X.out.pge.free 3
 go_wp2
 have z:=X.out.pge.fourP p k a f
 obtain ⟨z0,z1,z2,z3⟩:=z.pge
 refine bodyPost_ret (v:=.tuple #[pgV p k a f,.int .i64 0]) ?_ rfl ⟨rfl,below_fourP B.out (by omega) _ _ _ _⟩
 clear c0 c1 c2 c3 c4 c5 q0 q1 q2 q3 f0 f1 f2 f3
 simp [results,Try.f29,go_sem,z0,z1,z2,z3]
theorem ppageof_no (P T A M W Q p n:Int) (w:World) (h:pgeE P T A M W Q p n≠0) :
  Calls Try.prog 29 #[cfgV P T A M W Q,.int .i64 p,.int .i64 n] w (PgeOut w 0 0 0 0 (pgeE P T A M W Q p n)):=by
 have PP:=Lh (fun w':World=>ppage_any P T A M W Q p n w')
 obtain ⟨E,hE⟩:∃ E,E=pgeE P T A M W Q p n:=⟨_,rfl⟩
 rw [← hE] at PP h ⊢
 have hq:(E != 0)=true:=bne_iff_ne.2 h
 have hq0:(E == 0)=false:=beq_eq_false_iff_ne.2 h
 obtain ⟨x,hbel⟩:=GBox.new w P T A M W Q 0 0 0 0
 obtain ⟨w1,hw1⟩:∃ x:World,x=(w.alloc (.cells #[.int .i64 P,.int .i64 T,.int .i64 A,.int .i64 M,.int .i64 W,.int .i64 Q] 28)).alloc (.cells #[.int .i64 0,.int .i64 0,.int .i64 0,.int .u8 0] 77):=⟨_,rfl⟩
 rw [← hw1] at x hbel
 have X:=Lh x
 have B:=Lh hbel
 obtain ⟨c0,c1,c2,c3,c4,c5,q0,q1,q2,q3⟩:=x.cells
 unfold PgeOut
 clear h hE x hbel
 go_enter Try.func29,Try.ntmps29
 go_wp2_with fail
 rw [← hw1]
 clear hw1
 refine (PP.out _).mono ?_
 rintro e w2 ⟨rfl,hb⟩
 have B:=Lh (B.out.trans (hb.mono B.out.size))
 have X:=Lh (X.out.below hb)
 clear hb c0 c1 c2 c3 c4 c5 q0 q1 q2 q3 PP
 obtain ⟨c0,c1,c2,c3,c4,c5,q0,q1,q2,q3⟩:=X.out.cells
 have f0:=X.out.pge.free 0
 have f1:=X.out.pge.free 1
 have f2:=X.out.pge.free 2
 have f3:=X.out.pge.free 3
 go_wp2
 have z:=X.out.pge.fourP 0 0 0 0
 obtain ⟨z0,z1,z2,z3⟩:=z.pge
 refine bodyPost_ret (v:=.tuple #[pgV 0 0 0 0,.int .i64 E]) ?_ rfl ⟨rfl,below_fourP B.out (by omega) _ _ _ _⟩
 clear c0 c1 c2 c3 c4 c5 q0 q1 q2 q3 f0 f1 f2 f3
 simp [results,Try.f29,go_sem,z0,z1,z2,z3]
set_option maxRecDepth 100000
def toldF (f p n:Int) (o:Option Txt):Int:=match o with
 | none=>f
 | some t=>if t=noughts then 0 else if subP (t.getD 3 0) f∧t=pgSec p n (t.getD 3 0) then t.getD 3 0 else f
theorem told_F (T p:Int) (n:Nat) (o:Option Txt):toldP T p n o=toldF (fulP T n) p n o:=by cases o <;> rfl
structure HBox (w:World) (G:Nat) (p n a f:Int) (D:Option Addr) (nd cd:Nat) (D':Option Addr) (nd' cd':Nat) (S:List Sec) (C:List Pnd):Prop where
 pge:Blk w G 77 (pgL p n a f)
 dsk:DBox w (G + 1) D nd cd D' nd' cd' S C
section
variable {w w':World} {G:Nat} {p n a f:Int} {D D':Option Addr} {nd cd nd' cd':Nat} {S:List Sec} {C:List Pnd}
theorem HBox.below (x:HBox w G p n a f D nd cd D' nd' cd' S C) (hb:Below w.heap.size w w'):HBox w' G p n a f D nd cd D' nd' cd' S C:=⟨x.pge.below hb x.pge.lt,x.dsk.below hb⟩
theorem HBox.cells (x:HBox w G p n a f D nd cd D' nd' cd' S C):w.cell? ⟨G,0,none⟩=some (.int .i64 p)∧w.cell? ⟨G,1,none⟩=some (.int .i64 n)∧w.cell? ⟨G,2,none⟩=some (.int .i64 a)∧w.cell? ⟨G,3,none⟩=some (.int .u8 f) ∧
  w.cell? ⟨G + 1,0,none⟩=some (.slice D nd cd)∧w.cell? ⟨G + 1,1,none⟩=some (.slice D' nd' cd'):=⟨x.pge.cell 0,x.pge.cell 1,x.pge.cell 2,x.pge.cell 3,x.dsk.cells.1,x.dsk.cells.2⟩
theorem HBox.new (p n a f:Int) (t:Dsk w D nd cd D' nd' cd' S C):HBox ((w.alloc (.cells #[.int .i64 p,.int .i64 n,.int .i64 a,.int .u8 f] 77)).alloc (.cells #[.slice D nd cd,.slice D' nd' cd'] 56)) w.heap.size p n a f D nd cd D' nd' cd' S C ∧
  Below w.heap.size w ((w.alloc (.cells #[.int .i64 p,.int .i64 n,.int .i64 a,.int .u8 f] 77)).alloc (.cells #[.slice D nd cd,.slice D' nd' cd'] 56)):=by
 obtain ⟨x,hb⟩:=box_pge w p n a f
 have y:=DBox.new (t.below hb)
 rw [World.size_alloc] at y
 exact ⟨⟨x.grown (World.grownBy_alloc _ _ none) (by simp),y⟩,hb.alloc hb.size _⟩
end
theorem byte_at {t:Txt} (h:∀ z ∈ t,isByte z) (k:Nat):isByte (t.getD k 0):=by
 rcases Nat.lt_or_ge k t.length with hk | hk
 ·rw [gtD,geE hk]
  exact h _ (List.getElem_mem hk)
 ·rw [gtD,List.getElem?_eq_none hk]
  exact ⟨by decide,by decide⟩
theorem ptold_any (p n a f:Int) (D:Option Addr) (nd cd:Nat) (D':Option Addr) (nd' cd':Nat) (S:List Sec) (C:List Pnd) (w:World) (hq:Dsk w D nd cd D' nd' cd' S C) (hs:SmallD S C) (hp:isByte p) (hn:isByte n) (hf:isByte f) :
  Calls Try.prog 37 #[pgV p n a f,diskV D nd cd D' nd' cd'] w fun e w'=>e=.returned (.int .u8 (toldF f p n (optAt S C a)))∧Below w.heap.size w w':=by
 obtain ⟨x,hbel⟩:=HBox.new p n a f hq
 obtain ⟨w1,hw1⟩:∃ x:World,x=(w.alloc (.cells #[.int .i64 p,.int .i64 n,.int .i64 a,.int .u8 f] 77)).alloc (.cells #[.slice D nd cd,.slice D' nd' cd'] 56):=⟨_,rfl⟩
 rw [← hw1] at x hbel
 have X:=Lh x
 have B:=Lh hbel
 obtain ⟨c0,c1,c2,c3,d0,d1⟩:=x.cells
 have RD:=Lh (fun wx hx=>dsk_does.read D nd cd D' nd' cd' S C a wx hx hs)
 by_cases h0:rdE S C a=0
 ·obtain ⟨hl,hby⟩:=rd_good h0 hq.secs.byte hq.pnds.byte
  rw [show optAt S C a=some (rdB S C a) from if_pos h0]
  rw [h0] at RD
  obtain ⟨t,ht⟩:∃ t,t=rdB S C a:=⟨_,rfl⟩
  rw [← ht] at RD hl hby ⊢
  have HL:=Lh hl
  have NZ:=Lh (fun A c wx (hx:Arg wx .u8 A 32 c t)=>arenoughts_any A 32 c t wx hx)
  rw [all_zero hl] at NZ
  by_cases hz:t=noughts
  ·rw [show toldF f p n (some t)=0 from if_pos hz]
   rw [decide_eq_true hz] at NZ
   clear hq hs hp hn hf x hbel h0 ht hl hby hz
   go_enter Try.func37,Try.ntmps37
   go_wp2
   go_step3
   go_wp2
   go_step3
   go_wp2_with fail
   rw [← hw1]
   clear hw1
   refine (RD.out _ X.out.dsk.dsk).mono ?_
   intro e w2 hout
   obtain ⟨A2,r2,rfl,hown,hb⟩:=RowOut.len (k:=.u8) (t:=5) hout rfl HL.out
   have B:=Lh (B.out.trans (hb.mono B.out.size))
   have X:=Lh (X.out.below hb)
   have AR:=Lh (Arg.own hown)
   clear hb hown hout c0 c1 c2 c3 d0 d1 RD
   obtain ⟨c0,c1,c2,c3,d0,d1⟩:=X.out.cells
   go_wp2_with fail
   refine (NZ.out _ _ _ AR.out).mono ?_
   rintro e w3 ⟨rfl,rfl⟩
   go_wp2
   try rw [Exit.noGoto_ret]
   go_ret
   exact ⟨rfl,B.out⟩
  ·rw [decide_eq_false hz] at NZ
   have hF:toldF f p n (some t)=if subP (t.getD 3 0) f∧t=pgSec p n (t.getD 3 0) then t.getD 3 0 else f:=if_neg hz
   have hb3:isByte (t.getD 3 0):=byte_at hby _
   obtain ⟨b,hb⟩:∃ b,b=t.getD 3 0:=⟨_,rfl⟩
   rw [hF]
   rw [← hb] at hb3 ⊢
   have HB3:=Lh hb
   have TX:=Lh (fun w':World=>ptext_any p n a f b w' hp hn hf hb3)
   by_cases hsub:subP b f
   ·obtain ⟨s,hs2⟩:∃ s,s=pgSec p n b:=⟨_,rfl⟩
    have hsl:s.length=32:=by rw [hs2];exact pgSec_len _ _
    rw [if_pos hsub,if_pos hsub] at TX
    rw [← hs2] at TX ⊢
    have YES:(∀ y,y < 32→t.getD y 0=s.getD y 0)→(if subP b f∧t=s then b else f)=b:=fun h=>if_pos ⟨hsub,lists_yes 0 (by rw [hl,hsl]) (fun k hk=>h k (by omega))⟩
    have NO:∀ y,t.getD y 0≠s.getD y 0→(if subP b f∧t=s then b else f)=f:=fun y h=>if_neg (fun h2=>h (by rw [h2.2]))
    obtain ⟨R,hR⟩:∃ R,R=if subP b f∧t=s then b else f:=⟨_,rfl⟩
    rw [← hR] at YES NO ⊢
    have YES:=Lh YES
    have NO:=Lh NO
    have HSL:=Lh hsl
    clear hq hs hp hn hf x hbel h0 ht hl hby hz hF hb3 hb hsub hs2 hsl hR
    go_enter Try.func37,Try.ntmps37
    go_wp2
    go_step3
    go_wp2
    go_step3
    go_wp2_with fail
    rw [← hw1]
    clear hw1
    refine (RD.out _ X.out.dsk.dsk).mono ?_
    intro e w2 hout
    obtain ⟨A2,r2,rfl,hown,hb⟩:=RowOut.len (k:=.u8) (t:=5) hout rfl HL.out
    have B:=Lh (B.out.trans (hb.mono B.out.size))
    have X:=Lh (X.out.below hb)
    have AR:=Lh (Arg.own hown)
    clear hb hown hout c0 c1 c2 c3 d0 d1 RD
    obtain ⟨c0,c1,c2,c3,d0,d1⟩:=X.out.cells
    go_wp2_with fail
    refine (NZ.out _ _ _ AR.out).mono ?_
    rintro e w3 ⟨rfl,rfl⟩
    obtain ⟨g,o,rfl,hlt,hc⟩:=AR.out.seq.int (j:=3) (by rw [HL.out];decide)
    rw [← HB3.out] at hc
    have keepX:∀ wx,Below w3.heap.size w3 wx→wx.cell? ⟨w.heap.size,0,none⟩=some (.int .i64 p)∧wx.cell? ⟨w.heap.size,1,none⟩=some (.int .i64 n)∧wx.cell? ⟨w.heap.size,2,none⟩=some (.int .i64 a)∧wx.cell? ⟨w.heap.size,3,none⟩=some (.int .u8 f)∧wx.cell? ⟨g,o + 3,none⟩=some (.int .u8 b):=fun wx hx=>by
     obtain ⟨c0,c1,c2,c3,_,_⟩:=(X.out.below hx).cells
     exact ⟨c0,c1,c2,c3,(hx.cell (p:=⟨g,o + 3,none⟩) hlt).trans hc⟩
    clear c0 c1 c2 c3 d0 d1 hc
    go_upto_region 3 with fail
    have hcur:Below w3.heap.size w3 w3.drew:=below_drewN (Below.refl _ _) 1
    have hkX:=keepX _ hcur
    go_region_held3 (fun w'=>w'.cell? ⟨w.heap.size,0,none⟩=some (.int .i64 p)∧w'.cell? ⟨w.heap.size,1,none⟩=some (.int .i64 n)∧w'.cell? ⟨w.heap.size,2,none⟩=some (.int .i64 a)∧w'.cell? ⟨w.heap.size,3,none⟩=some (.int .u8 f)∧w'.cell? ⟨g,o + 3,none⟩=some (.int .u8 b))
     (first | exact hkX | go_keep)
     (first | (go_at_call 30;(with_reducible refine (TX.out _).mono ?_);intro e w4 hout;obtain ⟨A4,c4,rfl,hown,hb4⟩:=hout.len rfl HSL.out;have hcur:=hcur.trans (hb4.mono hcur.size);have hkX:=keepX _ hcur))
    have hfin:=Lh (B.out.trans (hcur.mono B.out.size))
    have AR:=Lh (AR.out.below hcur)
    have AS:=Lh (Arg.own hown)
    clear keepX hkX hown hb4 hcur hlt X B
    go_wp2
    go_loop [33] (fun i=>∃ k:Nat,k≤32∧i=.int .i64 k∧∀ y,y < k→t.getD y 0=s.getD y 0) (fun i=>32 - (intOf i).toNat)
    case atStart=>exact ⟨0,Nat.zero_le _,rfl,fun y hy=>by omega⟩
    case round =>
     obtain ⟨k,hk,rfl,hall⟩:=hrel
     have ALL:=Lh hall
     clear hall
     by_cases hkn:k < 32
     ·have hki:(k:Int) < 32:=by omega
      obtain ⟨g1,o1,he1,_,hc1⟩:=AR.out.seq.int (j:=k) (by rw [HL.out];exact hkn)
      injection he1 with he1
      injection he1 with he1 he2
      subst he1
      subst he2
      obtain ⟨g2,o2,rfl,_,hc2⟩:=AS.out.seq.int (j:=k) (by rw [HSL.out];exact hkn)
      obtain ⟨x,hx⟩:∃ x,x=t.getD k 0:=⟨_,rfl⟩
      obtain ⟨y,hy⟩:∃ y,y=s.getD k 0:=⟨_,rfl⟩
      rw [← hx] at hc1
      rw [← hy] at hc2
      by_cases hxy:x=y
      ·have HE:=Lh (show t.getD k 0=s.getD k 0 by rw [← hx,← hy,hxy])
       have hq:(x != y)=false:=by rw [hxy];exact bne_self_eq_false _
       clear hx hy hxy
       go_wp2
       go_round
       case rel =>
        refine ⟨k + 1,by omega,by go_num,fun y hy=>?_⟩
        rcases Nat.lt_or_ge y k with h' | h'
        ·exact ALL.out y h'
        ·obtain rfl:y=k:=by omega
         exact HE.out
       case measure=>simp [intOf];omega
      ·have HR:=Lh (NO.out k (by rw [← hx,← hy];exact hxy))
       have hq:(x != y)=true:=bne_iff_ne.2 hxy
       clear hx hy hxy
       go_wp2
       (try rw [Exit.noGoto_ret])
       go_ret
       rw [HR.out]
       exact ⟨rfl,hfin.out⟩
     ·obtain rfl:k=32:=by omega
      have HR:=Lh (YES.out ALL.out)
      obtain ⟨g1,o1,he1,_,hc1⟩:=AR.out.seq.int (j:=3) (by rw [HL.out];decide)
      injection he1 with he1
      injection he1 with he1 he2
      subst he1
      subst he2
      rw [← HB3.out] at hc1
      go_wp2
      (try rw [Exit.noGoto_ret])
      go_ret
      rw [HR.out]
      exact ⟨rfl,hfin.out⟩
   ·rw [if_neg (fun h=>hsub h.1)]
    rw [if_neg hsub,if_neg hsub] at TX
    clear hq hs hp hn hf x hbel h0 ht hl hby hz hF hb3 hb hsub
    go_enter Try.func37,Try.ntmps37
    go_wp2
    go_step3
    go_wp2
    go_step3
    go_wp2_with fail
    rw [← hw1]
    clear hw1
    refine (RD.out _ X.out.dsk.dsk).mono ?_
    intro e w2 hout
    obtain ⟨A2,r2,rfl,hown,hb⟩:=RowOut.len (k:=.u8) (t:=5) hout rfl HL.out
    have B:=Lh (B.out.trans (hb.mono B.out.size))
    have X:=Lh (X.out.below hb)
    have AR:=Lh (Arg.own hown)
    clear hb hown hout c0 c1 c2 c3 d0 d1 RD
    obtain ⟨c0,c1,c2,c3,d0,d1⟩:=X.out.cells
    go_wp2_with fail
    refine (NZ.out _ _ _ AR.out).mono ?_
    rintro e w3 ⟨rfl,rfl⟩
    obtain ⟨g,o,rfl,hlt,hc⟩:=AR.out.seq.int (j:=3) (by rw [HL.out];decide)
    rw [← HB3.out] at hc
    have keepX:∀ wx,Below w3.heap.size w3 wx→wx.cell? ⟨w.heap.size,0,none⟩=some (.int .i64 p)∧wx.cell? ⟨w.heap.size,1,none⟩=some (.int .i64 n)∧wx.cell? ⟨w.heap.size,2,none⟩=some (.int .i64 a)∧wx.cell? ⟨w.heap.size,3,none⟩=some (.int .u8 f)∧wx.cell? ⟨g,o + 3,none⟩=some (.int .u8 b):=fun wx hx=>by
     obtain ⟨c0,c1,c2,c3,_,_⟩:=(X.out.below hx).cells
     exact ⟨c0,c1,c2,c3,(hx.cell (p:=⟨g,o + 3,none⟩) hlt).trans hc⟩
    clear c0 c1 c2 c3 d0 d1 hc
    go_upto_region 3 with fail
    have hcur:Below w3.heap.size w3 w3.drew:=below_drewN (Below.refl _ _) 1
    have hkX:=keepX _ hcur
    go_region_held3 (fun w'=>w'.cell? ⟨w.heap.size,0,none⟩=some (.int .i64 p)∧w'.cell? ⟨w.heap.size,1,none⟩=some (.int .i64 n)∧w'.cell? ⟨w.heap.size,2,none⟩=some (.int .i64 a)∧w'.cell? ⟨w.heap.size,3,none⟩=some (.int .u8 f)∧w'.cell? ⟨g,o + 3,none⟩=some (.int .u8 b))
     (first | exact hkX | go_keep)
     (first | (go_at_call 30;(with_reducible refine (TX.out _).mono ?_);rintro e w4 ⟨A4,c4,rfl,hown,hb4⟩;have hcur:=hcur.trans (hb4.mono hcur.size);have hkX:=keepX _ hcur))
    all_goals (have hfin:=Lh (B.out.trans (hcur.mono B.out.size));clear keepX hkX hown hb4;go_wp2;(try rw [Exit.noGoto_ret]);go_ret;exact ⟨rfl,hfin.out⟩)
 ·rw [show optAt S C a=none from if_neg h0]
  obtain ⟨E,hE⟩:∃ E,E=rdE S C a:=⟨_,rfl⟩
  rw [← hE] at RD h0
  have hq2:(E != 0)=true:=bne_iff_ne.2 h0
  have hq3:(E == 0)=false:=beq_eq_false_iff_ne.2 h0
  rw [show toldF f p n none=f from rfl]
  obtain ⟨m,hm⟩:∃ m,m=(rdB S C a).length:=⟨_,rfl⟩
  clear hq hs hp hn hf x hbel h0 hE
  go_enter Try.func37,Try.ntmps37
  go_wp2
  go_step3
  go_wp2
  go_step3
  go_wp2_with fail
  rw [← hw1]
  clear hw1
  refine (RD.out _ X.out.dsk.dsk).mono ?_
  intro e w2 hout
  obtain ⟨A2,r2,rfl,hown,hb⟩:=RowOut.len (k:=.u8) (t:=5) hout rfl hm.symm
  have B:=Lh (B.out.trans (hb.mono B.out.size))
  have X:=Lh (X.out.below hb)
  clear hb hown hout c0 c1 c2 c3 d0 d1 RD hm
  obtain ⟨c0,c1,c2,c3,d0,d1⟩:=X.out.cells
  go_wp2
  try rw [Exit.noGoto_ret]
  go_ret
  exact ⟨rfl,B.out⟩
end Go.Proofs.Ytdbeiikaeccbhaa
