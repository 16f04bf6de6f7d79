/- Texts of the layers below, joined. -/
import Derived.Test.YtdbeiikaeccbhaaDa8
import Derived.Laws.Tables
import Derived.Laws.CopyOwn
set_option maxRecDepth 100000
set_option maxHeartbeats 12800000
set_option linter.unusedVariables false
namespace Go.Proofs.Ytdbeiikaeccbhaa
open Go.RowKit
def partsL (P T A g f1 f2 f3:Int):List Value :=
 [.int .u8 1,.int .i64 0,.int .i64 1,.int .i64 1,.int .i64 2,.int .u8 2,.int .i64 f1,.int .i64 2,.int .i64 A,.int .i64 1,.int .u8 3,.int .i64 f2,.int .i64 P,.int .i64 g,.int .i64 1,.int .u8 4,.int .i64 f3,.int .i64 P,.int .i64 T,.int .i64 4]
theorem partsL_one (P T A g f1 f2 f3:Int):(partsL P T A g f1 f2 f3).toArray.all (·.oneCell')=true:=by kernel_rfl
theorem secP_0:secP 0 1 2 1 0=2:=by decide
theorem secP_1 (A:Int):secP 2 A 1 2 0=fP A:=by unfold secP fP;omega
theorem secP_2 (P T A:Int):secP (fP A) (pagC T) 1 P 0=fT P T A:=by unfold secP fT fP;omega
theorem secP_3 (P T A:Int):secP (fT P T A) T 4 P 0=fE P T A:=by unfold secP fE fT;rw [Int.mul_assoc 4 P T];omega
theorem partsP_any (P T A M W Q:Int) (w:World) (h:mayC P T A M W Q):Calls Try.prog 84 #[cfgV P T A M W Q] w fun e w'=>e=.returned (.agg (partsL P T A (pagC T) 2 (fP A) (fT P T A)).toArray)∧Below w.heap.size w w':=by
 have hbd:=bounds_may h
 have hE:=fE_le h
 obtain ⟨h1,h2,h3,h4,h5,h6,h7⟩:=h
 have e1:secP 2 A 1 2 0=fP A:=secP_1 A
 have e2:=secP_2 P T A
 have e3:=secP_3 P T A
 have q1:0≤fP A∧fP A≤1000:=by unfold fP;omega
 have q2:0≤fT P T A∧fT P T A≤1000:=by unfold fT;omega
 have PG:=Lh (fun w':World=>ppages_any P T A M W Q w' h3 h4)
 obtain ⟨g,hg⟩:∃ g,g=pagC T:=⟨_,rfl⟩
 rw [← hg] at PG e2 hbd ⊢
 obtain ⟨p,hp⟩:∃ p,p=fP A:=⟨_,rfl⟩
 rw [← hp] at e1 e2 q1 ⊢
 obtain ⟨t,ht⟩:∃ t,t=fT P T A:=⟨_,rfl⟩
 rw [← ht] at e2 e3 q2 ⊢
 obtain ⟨E,hE2⟩:∃ E,E=fE P T A:=⟨_,rfl⟩
 rw [← hE2] at e3 hE
 clear hg hp ht hE2
 have N0:=Lh (fun w':World=>end_any 1 0 1 1 2 w' (by omega) (by omega) (by omega))
 have N1:=Lh (fun w':World=>end_any 2 2 2 A 1 w' (by omega) (by omega) (by omega))
 have N2:=Lh (fun w':World=>end_any 3 p P g 1 w' (by omega) (by omega) q1)
 have N3:=Lh (fun w':World=>end_any 4 t P T 4 w' (by omega) (by omega) q2)
 rw [secP_0] at N0
 rw [e1] at N1
 rw [e2] at N2
 rw [e3] at N3
 clear e1 e2 e3 hbd h1 h2 h3 h4 h5 h6 h7 q1 q2 hE
 obtain ⟨x,hbel⟩:=box_cfg w P T A M W Q
 have hr0:=Blk.new (w.alloc (.cells #[.int .i64 P,.int .i64 T,.int .i64 A,.int .i64 M,.int .i64 W,.int .i64 Q] 28)) 133 [.int .u8 0,.int .i64 0,.int .i64 0,.int .i64 0,.int .i64 0,.int .u8 0,.int .i64 0,.int .i64 0,.int .i64 0,.int .i64 0,.int .u8 0,.int .i64 0,.int .i64 0,.int .i64 0,.int .i64 0,.int .u8 0,.int .i64 0,.int .i64 0,.int .i64 0,.int .i64 0]
 have hr0:Blk ((w.alloc (.cells #[.int .i64 P,.int .i64 T,.int .i64 A,.int .i64 M,.int .i64 W,.int .i64 Q] 28)).alloc (.cells #[.int .u8 0,.int .i64 0,.int .i64 0,.int .i64 0,.int .i64 0,.int .u8 0,.int .i64 0,.int .i64 0,.int .i64 0,.int .i64 0,.int .u8 0,.int .i64 0,.int .i64 0,.int .i64 0,.int .i64 0,.int .u8 0,.int .i64 0,.int .i64 0,.int .i64 0,.int .i64 0] 133)) (w.heap.size + 1) 133 [.int .u8 0,.int .i64 0,.int .i64 0,.int .i64 0,.int .i64 0,.int .u8 0,.int .i64 0,.int .i64 0,.int .i64 0,.int .i64 0,.int .u8 0,.int .i64 0,.int .i64 0,.int .i64 0,.int .i64 0,.int .u8 0,.int .i64 0,.int .i64 0,.int .i64 0,.int .i64 0]:=by rw [World.size_alloc] at hr0;exact hr0
 have hx0:=x.grown (World.grownBy_alloc _ (.cells #[.int .u8 0,.int .i64 0,.int .i64 0,.int .i64 0,.int .i64 0,.int .u8 0,.int .i64 0,.int .i64 0,.int .i64 0,.int .i64 0,.int .u8 0,.int .i64 0,.int .i64 0,.int .i64 0,.int .i64 0,.int .u8 0,.int .i64 0,.int .i64 0,.int .i64 0,.int .i64 0] 133) none) (by simp)
 have hb0:=hbel.alloc hbel.size (.cells #[.int .u8 0,.int .i64 0,.int .i64 0,.int .i64 0,.int .i64 0,.int .u8 0,.int .i64 0,.int .i64 0,.int .i64 0,.int .i64 0,.int .u8 0,.int .i64 0,.int .i64 0,.int .i64 0,.int .i64 0,.int .u8 0,.int .i64 0,.int .i64 0,.int .i64 0,.int .i64 0] 133)
 have X:=Lh hx0
 have BEL:=Lh hb0
 have RB:=Lh hr0
 clear x hbel hr0 hx0 hb0
 go_enter Try.func84,Try.ntmps84
 obtain ⟨w1,hw1⟩:∃ x,x=(w.alloc (.cells #[.int .i64 P,.int .i64 T,.int .i64 A,.int .i64 M,.int .i64 W,.int .i64 Q] 28)).alloc (.cells #[.int .u8 0,.int .i64 0,.int .i64 0,.int .i64 0,.int .i64 0,.int .u8 0,.int .i64 0,.int .i64 0,.int .i64 0,.int .i64 0,.int .u8 0,.int .i64 0,.int .i64 0,.int .i64 0,.int .i64 0,.int .u8 0,.int .i64 0,.int .i64 0,.int .i64 0,.int .i64 0] 133):=⟨_,rfl⟩
 rw [← hw1] at X BEL RB
 go_upto_region 1 with fail
 rw [← hw1]
 clear hw1
 have hcur:Below w1.heap.size w1 w1.drew:=below_drewN (Below.refl _ _) 1
 have keepX:∀ wx,Below w1.heap.size w1 wx→wx.cell? ⟨w.heap.size,0,none⟩=some (.int .i64 P)∧wx.cell? ⟨w.heap.size,1,none⟩=some (.int .i64 T)∧wx.cell? ⟨w.heap.size,2,none⟩=some (.int .i64 A)∧wx.cell? ⟨w.heap.size,3,none⟩=some (.int .i64 M)∧wx.cell? ⟨w.heap.size,4,none⟩=some (.int .i64 W)∧wx.cell? ⟨w.heap.size,5,none⟩=some (.int .i64 Q):=fun wx hx=>(X.out.below hx X.out.lt).cfg
 have hHeld:=keepX _ hcur
 refine wp_region_to 16 (fun w'=>w'.cell? ⟨w.heap.size,0,none⟩=some (.int .i64 P)∧w'.cell? ⟨w.heap.size,1,none⟩=some (.int .i64 T)∧w'.cell? ⟨w.heap.size,2,none⟩=some (.int .i64 A)∧w'.cell? ⟨w.heap.size,3,none⟩=some (.int .i64 M)∧w'.cell? ⟨w.heap.size,4,none⟩=some (.int .i64 W)∧w'.cell? ⟨w.heap.size,5,none⟩=some (.int .i64 Q)) (by kernel_rfl) ?_
 refine wpAnyG_take1 (i:=0) (v:=?_) rfl (by kernel_rfl) (by kernel_rfl) (by kernel_rfl) (by kernel_rfl) (by kernel_rfl) rfl (fun _ _ _ h=>h) (Or.inl ⟨by rfl,?_⟩) hHeld ?_
 rotate_left
 ·(intro w' hSw;(try dsimp only at hSw);go_simp;(try with_reducible rfl))
 simp only [Act.put,stA]
 refine wpAnyG_take1 (i:=1) (v:=?_) rfl (by kernel_rfl) (by kernel_rfl) (by kernel_rfl) (by kernel_rfl) (by kernel_rfl) rfl (fun _ _ _ h=>h) (Or.inl ⟨by rfl,?_⟩) hHeld ?_
 rotate_left
 ·(intro w' hSw;(try dsimp only at hSw);go_simp;(try with_reducible rfl))
 simp only [Act.put]
 refine wpAnyG_take1 (i:=2) (v:=?_) rfl (by kernel_rfl) (by kernel_rfl) (by kernel_rfl) (by kernel_rfl) (by kernel_rfl) rfl (fun _ _ _ h=>h) (Or.inl ⟨by rfl,?_⟩) hHeld ?_
 rotate_left
 ·(intro w' hSw;(try dsimp only at hSw);go_simp;(try with_reducible rfl))
 simp only [Act.put]
 refine wpAnyG_take1 (i:=3) (v:=?_) rfl (by kernel_rfl) (by kernel_rfl) (by kernel_rfl) (by kernel_rfl) (by kernel_rfl) rfl (fun _ _ _ h=>h) (Or.inl ⟨by rfl,?_⟩) hHeld ?_
 rotate_left
 ·(intro w' hSw;(try dsimp only at hSw);go_simp;(try with_reducible rfl))
 simp only [Act.put]
 refine wpAnyG_take1 (i:=4) (v:=?_) rfl (by kernel_rfl) (by kernel_rfl) (by kernel_rfl) (by kernel_rfl) (by kernel_rfl) rfl (fun _ _ _ h=>h) (Or.inl ⟨by rfl,?_⟩) hHeld ?_
 rotate_left
 ·(intro w' hSw;(try dsimp only at hSw);go_simp;(try with_reducible rfl))
 simp only [Act.put]
 refine wpAnyG_take1 (i:=5) (v:=?_) rfl (by kernel_rfl) (by kernel_rfl) (by kernel_rfl) (by kernel_rfl) (by kernel_rfl) rfl (fun _ _ _ h=>h) (Or.inl ⟨by rfl,?_⟩) hHeld ?_
 rotate_left
 ·(intro w' hSw;(try dsimp only at hSw);go_simp;(try with_reducible rfl))
 simp only [Act.put]
 refine wpAnyG_take1 (i:=6) (v:=?_) rfl (by kernel_rfl) (by kernel_rfl) (by kernel_rfl) (by kernel_rfl) (by kernel_rfl) rfl (fun _ _ _ h=>h) (Or.inl ⟨by rfl,?_⟩) hHeld ?_
 rotate_left
 ·(intro w' hSw;(try dsimp only at hSw);go_simp;(try with_reducible rfl))
 simp only [Act.put]
 refine wpAnyG_take1 (i:=9) (v:=?_) rfl (by kernel_rfl) (by kernel_rfl) (by kernel_rfl) (by kernel_rfl) (by kernel_rfl) rfl (fun _ _ _ h=>h) (Or.inl ⟨by rfl,?_⟩) hHeld ?_
 rotate_left
 ·(intro w' hSw;(try dsimp only at hSw);go_simp;(try with_reducible rfl))
 simp only [Act.put]
 refine wpAnyG_take1 (i:=10) (v:=?_) rfl (by kernel_rfl) (by kernel_rfl) (by kernel_rfl) (by kernel_rfl) (by kernel_rfl) rfl (fun _ _ _ h=>h) (Or.inl ⟨by rfl,?_⟩) hHeld ?_
 rotate_left
 ·(intro w' hSw;(try dsimp only at hSw);go_simp;(try with_reducible rfl))
 simp only [Act.put]
 refine wpAnyG_take1 (i:=11) (v:=?_) rfl (by kernel_rfl) (by kernel_rfl) (by kernel_rfl) (by kernel_rfl) (by kernel_rfl) rfl (fun _ _ _ h=>h) (Or.inl ⟨by rfl,?_⟩) hHeld ?_
 rotate_left
 ·(intro w' hSw;(try dsimp only at hSw);go_simp;(try with_reducible rfl))
 simp only [Act.put]
 refine wpAnyG_take1 (i:=12) (v:=?_) rfl (by kernel_rfl) (by kernel_rfl) (by kernel_rfl) (by kernel_rfl) (by kernel_rfl) rfl (fun _ _ _ h=>h) (Or.inl ⟨by rfl,?_⟩) hHeld ?_
 rotate_left
 ·(intro w' hSw;(try dsimp only at hSw);go_simp;(try with_reducible rfl))
 simp only [Act.put]
 refine wpAnyG_take1 (i:=13) (v:=?_) rfl (by kernel_rfl) (by kernel_rfl) (by kernel_rfl) (by kernel_rfl) (by kernel_rfl) rfl (fun _ _ _ h=>h) (Or.inl ⟨by rfl,?_⟩) hHeld ?_
 rotate_left
 ·(intro w' hSw;(try dsimp only at hSw);go_simp;(try with_reducible rfl))
 simp only [Act.put]
 refine wpAnyG_two (i:=7) (j:=15) (by kernel_rfl) rfl rfl (fun K hK=>?_) (fun K hK=>?_)
 ·go_simp
  go_at_call 64
  refine (PG.out _).mono ?_
  rintro e w2 ⟨rfl,hbN⟩
  have hcur:=hcur.trans (hbN.mono hcur.size)
  refine hK.out _ _ (fun _=>keepX _ hcur) (fun hHeld=>?_)
  have hHeld:=hHeld (by decide)
  clear hK K
  try simp only [Act.put,stA,scZ,scS]
  refine wpAnyG_take1 (i:=8) (v:=?_) rfl (by kernel_rfl) (by kernel_rfl) (by kernel_rfl) (by kernel_rfl) (by kernel_rfl) rfl (fun _ _ _ h=>h) (Or.inl ⟨by rfl,?_⟩) hHeld ?_
  rotate_left
  ·(intro w' hSw;(try dsimp only at hSw);go_simp;(try with_reducible rfl))
  simp only [Act.put,stA]
  refine wpAnyG_take1 (i:=14) (v:=?_) rfl (by kernel_rfl) (by kernel_rfl) (by kernel_rfl) (by kernel_rfl) (by kernel_rfl) rfl (fun _ _ _ h=>h) (Or.inl ⟨by rfl,?_⟩) hHeld ?_
  rotate_left
  ·(intro w' hSw;(try dsimp only at hSw);go_simp;(try with_reducible rfl))
  simp only [Act.put]
  refine wpAnyG_one (i:=15) (by kernel_rfl) rfl (fun K hK=>?_)
  go_simp
  have hbb:w1.heap.size≤w2.heap.size:=hcur.size
  have hcur:=hcur.alloc hcur.size (.cells #[.int .u8 0,.int .i64 0,.int .i64 0,.int .i64 0,.int .i64 0,.int .u8 0,.int .i64 0,.int .i64 0,.int .i64 0,.int .i64 0,.int .u8 0,.int .i64 0,.int .i64 0,.int .i64 0,.int .i64 0,.int .u8 0,.int .i64 0,.int .i64 0,.int .i64 0,.int .i64 0] 133)
  refine hK.out _ _ (fun _=>keepX _ hcur) (fun hHeld=>?_)
  have hHeld:=hHeld (by decide)
  clear hK K
  try simp only [Act.put,stA,scZ,scS]
  have hZ:=Blk.new w2 133 [.int .u8 0,.int .i64 0,.int .i64 0,.int .i64 0,.int .i64 0,.int .u8 0,.int .i64 0,.int .i64 0,.int .i64 0,.int .i64 0,.int .u8 0,.int .i64 0,.int .i64 0,.int .i64 0,.int .i64 0,.int .u8 0,.int .i64 0,.int .i64 0,.int .i64 0,.int .i64 0]
  obtain ⟨b,hb⟩:∃ b,b=w2.heap.size:=⟨_,rfl⟩
  obtain ⟨w3,hw3⟩:∃ w3,w3=w2.alloc (.cells #[.int .u8 0,.int .i64 0,.int .i64 0,.int .i64 0,.int .i64 0,.int .u8 0,.int .i64 0,.int .i64 0,.int .i64 0,.int .i64 0,.int .u8 0,.int .i64 0,.int .i64 0,.int .i64 0,.int .i64 0,.int .u8 0,.int .i64 0,.int .i64 0,.int .i64 0,.int .i64 0] 133):=⟨_,rfl⟩
  have hZ:Blk w3 b 133 [.int .u8 0,.int .i64 0,.int .i64 0,.int .i64 0,.int .i64 0,.int .u8 0,.int .i64 0,.int .i64 0,.int .i64 0,.int .i64 0,.int .u8 0,.int .i64 0,.int .i64 0,.int .i64 0,.int .i64 0,.int .u8 0,.int .i64 0,.int .i64 0,.int .i64 0,.int .i64 0]:=by rw [hw3,hb];exact hZ
  rw [← hw3] at hcur hHeld
  rw [← hb] at hbb
  rw [← hw3,← hb]
  clear hw3 hb hbN
  refine wpAnyG_one (i:=16) (by kernel_rfl) rfl (fun K hK=>?_)
  rw [if_pos (by rfl)]
  refine wp_store_row 133 (.tmp 3) (.tmp 20) rfl b (partsL P T A g 0 0 0).toArray rfl rfl 133 _ hZ (by kernel_rfl) rfl (partsL_one _ _ _ _ _ _ _) ?_
  refine hK.out _ _ (fun h=>absurd rfl h) (fun _=>?_)
  clear hK K
  refine wpAnyG_done (by kernel_rfl) ?_ _
  have hx:Blk (w3.setRow b (partsL P T A g 0 0 0).toArray) b 133 (partsL P T A g 0 0 0):=setRow_heap w3 b _ _ _ _ hZ
  have hcur:=below_setRow hcur hbb (partsL P T A g 0 0 0).toArray
  clear hZ hHeld
  have HBB:=Lh hbb
  obtain ⟨wx,hwx⟩:∃ wx,wx=w3.setRow b (partsL P T A g 0 0 0).toArray:=⟨_,rfl⟩
  rw [← hwx] at hx hcur
  rw [← hwx]
  clear hwx
  have HX:=Lh hx
  have HC:=Lh hcur
  clear hx hcur keepX hbb
  go_wp2
  go_loopw [4,21] (fun f i wr=>((i=.int .i64 0∧f=.int .i64 0∧Blk wr b 133 (partsL P T A g 0 0 0))∨(i=.int .i64 1∧f=.int .i64 2∧Blk wr b 133 (partsL P T A g 0 0 0))∨(i=.int .i64 2∧f=.int .i64 p∧Blk wr b 133 (partsL P T A g 2 0 0))∨(i=.int .i64 3∧f=.int .i64 t∧Blk wr b 133 (partsL P T A g 2 p 0))∨(i=.int .i64 4∧f=.int .i64 E∧Blk wr b 133 (partsL P T A g 2 p t)))∧Below w1.heap.size w1 wr) (fun _ i _=>4 - (intOf i).toNat)
  case atStart=>exact ⟨.inl ⟨rfl,rfl,HX.out⟩,HC.out⟩
  case round =>
   obtain ⟨hcases,hbel⟩:=hrel
   rcases hcases with ⟨rfl,rfl,hB⟩ | ⟨rfl,rfl,hB⟩ | ⟨rfl,rfl,hB⟩ | ⟨rfl,rfl,hB⟩ | ⟨rfl,rfl,hB⟩
   ·have hz:wr.cell? ⟨b,1,none⟩=some (.int .i64 0):=hB.cell 1
    have hf:=hB.free 1
    have y:Blk (wr.setCell ⟨b,1,none⟩ (.int .i64 0)) b 133 (partsL P T A g 0 0 0):=hB.set 1 (.int .i64 0)
    have d0:(wr.setCell ⟨b,1,none⟩ (.int .i64 0)).cell? ⟨b,0,none⟩=some (.int .u8 1):=y.cell 0
    have d1:(wr.setCell ⟨b,1,none⟩ (.int .i64 0)).cell? ⟨b,1,none⟩=some (.int .i64 0):=y.cell 1
    have d2:(wr.setCell ⟨b,1,none⟩ (.int .i64 0)).cell? ⟨b,2,none⟩=some (.int .i64 1):=y.cell 2
    have d3:(wr.setCell ⟨b,1,none⟩ (.int .i64 0)).cell? ⟨b,3,none⟩=some (.int .i64 1):=y.cell 3
    have d4:(wr.setCell ⟨b,1,none⟩ (.int .i64 0)).cell? ⟨b,4,none⟩=some (.int .i64 2):=y.cell 4
    have hb2:=hbel.setCell (p:=⟨b,1,none⟩) HBB.out (.int .i64 0)
    have Y:=Lh y
    have B2:=Lh hb2
    clear y hb2 hB hbel
    go_wp2_with fail
    refine (N0.out _).mono ?_
    rintro e w5 ⟨rfl,hb5⟩
    have Y:=Lh (Y.out.below hb5 Y.out.lt)
    have B2:=Lh (B2.out.trans (hb5.mono B2.out.size))
    clear hb5 hz hf d0 d1 d2 d3 d4
    go_wp2
    go_roundw
    case rel=>exact ⟨.inr (.inl ⟨rfl,rfl,Y.out⟩),B2.out⟩
    case measure=>simp [intOf]
   ·have hz:wr.cell? ⟨b,6,none⟩=some (.int .i64 0):=hB.cell 6
    have hf:=hB.free 6
    have y:Blk (wr.setCell ⟨b,6,none⟩ (.int .i64 2)) b 133 (partsL P T A g 2 0 0):=hB.set 6 (.int .i64 2)
    have d0:(wr.setCell ⟨b,6,none⟩ (.int .i64 2)).cell? ⟨b,5,none⟩=some (.int .u8 2):=y.cell 5
    have d1:(wr.setCell ⟨b,6,none⟩ (.int .i64 2)).cell? ⟨b,6,none⟩=some (.int .i64 2):=y.cell 6
    have d2:(wr.setCell ⟨b,6,none⟩ (.int .i64 2)).cell? ⟨b,7,none⟩=some (.int .i64 2):=y.cell 7
    have d3:(wr.setCell ⟨b,6,none⟩ (.int .i64 2)).cell? ⟨b,8,none⟩=some (.int .i64 A):=y.cell 8
    have d4:(wr.setCell ⟨b,6,none⟩ (.int .i64 2)).cell? ⟨b,9,none⟩=some (.int .i64 1):=y.cell 9
    have hb2:=hbel.setCell (p:=⟨b,6,none⟩) HBB.out (.int .i64 2)
    have Y:=Lh y
    have B2:=Lh hb2
    clear y hb2 hB hbel
    go_wp2_with fail
    refine (N1.out _).mono ?_
    rintro e w5 ⟨rfl,hb5⟩
    have Y:=Lh (Y.out.below hb5 Y.out.lt)
    have B2:=Lh (B2.out.trans (hb5.mono B2.out.size))
    clear hb5 hz hf d0 d1 d2 d3 d4
    go_wp2
    go_roundw
    case rel=>exact ⟨.inr (.inr (.inl ⟨rfl,rfl,Y.out⟩)),B2.out⟩
    case measure=>simp [intOf]
   ·have hz:wr.cell? ⟨b,11,none⟩=some (.int .i64 0):=hB.cell 11
    have hf:=hB.free 11
    have y:Blk (wr.setCell ⟨b,11,none⟩ (.int .i64 p)) b 133 (partsL P T A g 2 p 0):=hB.set 11 (.int .i64 p)
    have d0:(wr.setCell ⟨b,11,none⟩ (.int .i64 p)).cell? ⟨b,10,none⟩=some (.int .u8 3):=y.cell 10
    have d1:(wr.setCell ⟨b,11,none⟩ (.int .i64 p)).cell? ⟨b,11,none⟩=some (.int .i64 p):=y.cell 11
    have d2:(wr.setCell ⟨b,11,none⟩ (.int .i64 p)).cell? ⟨b,12,none⟩=some (.int .i64 P):=y.cell 12
    have d3:(wr.setCell ⟨b,11,none⟩ (.int .i64 p)).cell? ⟨b,13,none⟩=some (.int .i64 g):=y.cell 13
    have d4:(wr.setCell ⟨b,11,none⟩ (.int .i64 p)).cell? ⟨b,14,none⟩=some (.int .i64 1):=y.cell 14
    have hb2:=hbel.setCell (p:=⟨b,11,none⟩) HBB.out (.int .i64 p)
    have Y:=Lh y
    have B2:=Lh hb2
    clear y hb2 hB hbel
    go_wp2_with fail
    refine (N2.out _).mono ?_
    rintro e w5 ⟨rfl,hb5⟩
    have Y:=Lh (Y.out.below hb5 Y.out.lt)
    have B2:=Lh (B2.out.trans (hb5.mono B2.out.size))
    clear hb5 hz hf d0 d1 d2 d3 d4
    go_wp2
    go_roundw
    case rel=>exact ⟨.inr (.inr (.inr (.inl ⟨rfl,rfl,Y.out⟩))),B2.out⟩
    case measure=>simp [intOf]
   ·have hz:wr.cell? ⟨b,16,none⟩=some (.int .i64 0):=hB.cell 16
    have hf:=hB.free 16
    have y:Blk (wr.setCell ⟨b,16,none⟩ (.int .i64 t)) b 133 (partsL P T A g 2 p t):=hB.set 16 (.int .i64 t)
    have d0:(wr.setCell ⟨b,16,none⟩ (.int .i64 t)).cell? ⟨b,15,none⟩=some (.int .u8 4):=y.cell 15
    have d1:(wr.setCell ⟨b,16,none⟩ (.int .i64 t)).cell? ⟨b,16,none⟩=some (.int .i64 t):=y.cell 16
    have d2:(wr.setCell ⟨b,16,none⟩ (.int .i64 t)).cell? ⟨b,17,none⟩=some (.int .i64 P):=y.cell 17
    have d3:(wr.setCell ⟨b,16,none⟩ (.int .i64 t)).cell? ⟨b,18,none⟩=some (.int .i64 T):=y.cell 18
    have d4:(wr.setCell ⟨b,16,none⟩ (.int .i64 t)).cell? ⟨b,19,none⟩=some (.int .i64 4):=y.cell 19
    have hb2:=hbel.setCell (p:=⟨b,16,none⟩) HBB.out (.int .i64 t)
    have Y:=Lh y
    have B2:=Lh hb2
    clear y hb2 hB hbel
    go_wp2_with fail
    refine (N3.out _).mono ?_
    rintro e w5 ⟨rfl,hb5⟩
    have Y:=Lh (Y.out.below hb5 Y.out.lt)
    have B2:=Lh (B2.out.trans (hb5.mono B2.out.size))
    clear hb5 hz hf d0 d1 d2 d3 d4
    go_wp2
    go_roundw
    case rel=>exact ⟨.inr (.inr (.inr (.inr (⟨rfl,rfl,Y.out⟩)))),B2.out⟩
    case measure=>simp [intOf]
   ·have hR:=RB.out.below hbel RB.out.lt
    have hD:=setRow_heap wr (w.heap.size + 1) _ (partsL P T A g 2 p t).toArray _ _ hR
    have B2:=Lh (below_setRow (g:=w.heap.size + 1) (BEL.out.trans (hbel.mono BEL.out.size)) (Nat.le_succ _) (partsL P T A g 2 p t).toArray)
    go_wp2_with (first | (refine wpList_load_row (o:=⟨some 33,_,_,_,_,_⟩) rfl 133 (.tmp 3) rfl b rfl 133 (partsL P T A g 2 p t).toArray (0,0) _ hB Try.underlying133 rfl (by kernel_rfl) ?_) | (refine wpList_plain (o:=⟨none,.store 133 (.tmp 2) (.tmp 33),_,_,_,_⟩) rfl fun _ hK=>?_;refine wp_store_row 133 (.tmp 2) (.tmp 33) rfl (w.heap.size + 1) (partsL P T A g 2 p t).toArray rfl rfl 133 _ hR (by kernel_rfl) rfl (partsL_one _ _ _ _ _ _ _) ?_;refine hK _ _ ?_))
    exact bodyPost_ret (results_cell_row rfl _ _ (w.heap.size + 1) 133 _ (0,0) _ rfl hD Try.underlying133 rfl (by kernel_rfl)) rfl ⟨rfl,B2.out⟩
 ·go_simp
  have hZ0:Blk (w1.drew.alloc (.cells #[.int .u8 0,.int .i64 0,.int .i64 0,.int .i64 0,.int .i64 0,.int .u8 0,.int .i64 0,.int .i64 0,.int .i64 0,.int .i64 0,.int .u8 0,.int .i64 0,.int .i64 0,.int .i64 0,.int .i64 0,.int .u8 0,.int .i64 0,.int .i64 0,.int .i64 0,.int .i64 0] 133)) w1.heap.size 133 [.int .u8 0,.int .i64 0,.int .i64 0,.int .i64 0,.int .i64 0,.int .u8 0,.int .i64 0,.int .i64 0,.int .i64 0,.int .i64 0,.int .u8 0,.int .i64 0,.int .i64 0,.int .i64 0,.int .i64 0,.int .u8 0,.int .i64 0,.int .i64 0,.int .i64 0,.int .i64 0]:=Blk.new w1.drew 133 [.int .u8 0,.int .i64 0,.int .i64 0,.int .i64 0,.int .i64 0,.int .u8 0,.int .i64 0,.int .i64 0,.int .i64 0,.int .i64 0,.int .u8 0,.int .i64 0,.int .i64 0,.int .i64 0,.int .i64 0,.int .u8 0,.int .i64 0,.int .i64 0,.int .i64 0,.int .i64 0]
  have hcur:=hcur.alloc (show w1.heap.size≤w1.drew.heap.size from Nat.le_refl _) (.cells #[.int .u8 0,.int .i64 0,.int .i64 0,.int .i64 0,.int .i64 0,.int .u8 0,.int .i64 0,.int .i64 0,.int .i64 0,.int .i64 0,.int .u8 0,.int .i64 0,.int .i64 0,.int .i64 0,.int .i64 0,.int .u8 0,.int .i64 0,.int .i64 0,.int .i64 0,.int .i64 0] 133)
  refine hK.out _ _ (fun _=>keepX _ hcur) (fun hHeld=>?_)
  have hHeld:=hHeld (by decide)
  clear hK K
  try simp only [Act.put,stA,scZ,scS]
  refine wpAnyG_one (i:=7) (by kernel_rfl) rfl (fun K hK=>?_)
  go_simp
  go_at_call 64
  refine (PG.out _).mono ?_
  rintro e w3 ⟨rfl,hbN⟩
  have hcur:=hcur.trans (hbN.mono hcur.size)
  have hZ:=hZ0.below hbN hZ0.lt
  refine hK.out _ _ (fun _=>keepX _ hcur) (fun hHeld=>?_)
  have hHeld:=hHeld (by decide)
  clear hK K
  try simp only [Act.put,stA,scZ,scS]
  obtain ⟨b,hb⟩:∃ b,b=w1.heap.size:=⟨_,rfl⟩
  rw [← hb] at hZ
  have hbb:w1.heap.size≤b:=Nat.le_of_eq hb.symm
  rw [← hb]
  clear hb hbN hZ0
  refine wpAnyG_take1 (i:=8) (v:=?_) rfl (by kernel_rfl) (by kernel_rfl) (by kernel_rfl) (by kernel_rfl) (by kernel_rfl) rfl (fun _ _ _ h=>h) (Or.inl ⟨by rfl,?_⟩) hHeld ?_
  rotate_left
  ·(intro w' hSw;(try dsimp only at hSw);go_simp;(try with_reducible rfl))
  simp only [Act.put,stA]
  refine wpAnyG_take1 (i:=14) (v:=?_) rfl (by kernel_rfl) (by kernel_rfl) (by kernel_rfl) (by kernel_rfl) (by kernel_rfl) rfl (fun _ _ _ h=>h) (Or.inl ⟨by rfl,?_⟩) hHeld ?_
  rotate_left
  ·(intro w' hSw;(try dsimp only at hSw);go_simp;(try with_reducible rfl))
  simp only [Act.put]
  refine wpAnyG_one (i:=16) (by kernel_rfl) rfl (fun K hK=>?_)
  rw [if_pos (by rfl)]
  refine wp_store_row 133 (.tmp 3) (.tmp 20) rfl b (partsL P T A g 0 0 0).toArray rfl rfl 133 _ hZ (by kernel_rfl) rfl (partsL_one _ _ _ _ _ _ _) ?_
  refine hK.out _ _ (fun h=>absurd rfl h) (fun _=>?_)
  clear hK K
  refine wpAnyG_done (by kernel_rfl) ?_ _
  have hx:Blk (w3.setRow b (partsL P T A g 0 0 0).toArray) b 133 (partsL P T A g 0 0 0):=setRow_heap w3 b _ _ _ _ hZ
  have hcur:=below_setRow hcur hbb (partsL P T A g 0 0 0).toArray
  clear hZ hHeld
  have HBB:=Lh hbb
  obtain ⟨wx,hwx⟩:∃ wx,wx=w3.setRow b (partsL P T A g 0 0 0).toArray:=⟨_,rfl⟩
  rw [← hwx] at hx hcur
  rw [← hwx]
  clear hwx
  have HX:=Lh hx
  have HC:=Lh hcur
  clear hx hcur keepX hbb
  go_wp2
  go_loopw [4,21] (fun f i wr=>((i=.int .i64 0∧f=.int .i64 0∧Blk wr b 133 (partsL P T A g 0 0 0))∨(i=.int .i64 1∧f=.int .i64 2∧Blk wr b 133 (partsL P T A g 0 0 0))∨(i=.int .i64 2∧f=.int .i64 p∧Blk wr b 133 (partsL P T A g 2 0 0))∨(i=.int .i64 3∧f=.int .i64 t∧Blk wr b 133 (partsL P T A g 2 p 0))∨(i=.int .i64 4∧f=.int .i64 E∧Blk wr b 133 (partsL P T A g 2 p t)))∧Below w1.heap.size w1 wr) (fun _ i _=>4 - (intOf i).toNat)
  case atStart=>exact ⟨.inl ⟨rfl,rfl,HX.out⟩,HC.out⟩
  case round =>
   obtain ⟨hcases,hbel⟩:=hrel
   rcases hcases with ⟨rfl,rfl,hB⟩ | ⟨rfl,rfl,hB⟩ | ⟨rfl,rfl,hB⟩ | ⟨rfl,rfl,hB⟩ | ⟨rfl,rfl,hB⟩
   ·have hz:wr.cell? ⟨b,1,none⟩=some (.int .i64 0):=hB.cell 1
    have hf:=hB.free 1
    have y:Blk (wr.setCell ⟨b,1,none⟩ (.int .i64 0)) b 133 (partsL P T A g 0 0 0):=hB.set 1 (.int .i64 0)
    have d0:(wr.setCell ⟨b,1,none⟩ (.int .i64 0)).cell? ⟨b,0,none⟩=some (.int .u8 1):=y.cell 0
    have d1:(wr.setCell ⟨b,1,none⟩ (.int .i64 0)).cell? ⟨b,1,none⟩=some (.int .i64 0):=y.cell 1
    have d2:(wr.setCell ⟨b,1,none⟩ (.int .i64 0)).cell? ⟨b,2,none⟩=some (.int .i64 1):=y.cell 2
    have d3:(wr.setCell ⟨b,1,none⟩ (.int .i64 0)).cell? ⟨b,3,none⟩=some (.int .i64 1):=y.cell 3
    have d4:(wr.setCell ⟨b,1,none⟩ (.int .i64 0)).cell? ⟨b,4,none⟩=some (.int .i64 2):=y.cell 4
    have hb2:=hbel.setCell (p:=⟨b,1,none⟩) HBB.out (.int .i64 0)
    have Y:=Lh y
    have B2:=Lh hb2
    clear y hb2 hB hbel
    go_wp2_with fail
    refine (N0.out _).mono ?_
    rintro e w5 ⟨rfl,hb5⟩
    have Y:=Lh (Y.out.below hb5 Y.out.lt)
    have B2:=Lh (B2.out.trans (hb5.mono B2.out.size))
    clear hb5 hz hf d0 d1 d2 d3 d4
    go_wp2
    go_roundw
    case rel=>exact ⟨.inr (.inl ⟨rfl,rfl,Y.out⟩),B2.out⟩
    case measure=>simp [intOf]
   ·have hz:wr.cell? ⟨b,6,none⟩=some (.int .i64 0):=hB.cell 6
    have hf:=hB.free 6
    have y:Blk (wr.setCell ⟨b,6,none⟩ (.int .i64 2)) b 133 (partsL P T A g 2 0 0):=hB.set 6 (.int .i64 2)
    have d0:(wr.setCell ⟨b,6,none⟩ (.int .i64 2)).cell? ⟨b,5,none⟩=some (.int .u8 2):=y.cell 5
    have d1:(wr.setCell ⟨b,6,none⟩ (.int .i64 2)).cell? ⟨b,6,none⟩=some (.int .i64 2):=y.cell 6
    have d2:(wr.setCell ⟨b,6,none⟩ (.int .i64 2)).cell? ⟨b,7,none⟩=some (.int .i64 2):=y.cell 7
    have d3:(wr.setCell ⟨b,6,none⟩ (.int .i64 2)).cell? ⟨b,8,none⟩=some (.int .i64 A):=y.cell 8
    have d4:(wr.setCell ⟨b,6,none⟩ (.int .i64 2)).cell? ⟨b,9,none⟩=some (.int .i64 1):=y.cell 9
    have hb2:=hbel.setCell (p:=⟨b,6,none⟩) HBB.out (.int .i64 2)
    have Y:=Lh y
    have B2:=Lh hb2
    clear y hb2 hB hbel
    go_wp2_with fail
    refine (N1.out _).mono ?_
    rintro e w5 ⟨rfl,hb5⟩
    have Y:=Lh (Y.out.below hb5 Y.out.lt)
    have B2:=Lh (B2.out.trans (hb5.mono B2.out.size))
    clear hb5 hz hf d0 d1 d2 d3 d4
    go_wp2
    go_roundw
    case rel=>exact ⟨.inr (.inr (.inl ⟨rfl,rfl,Y.out⟩)),B2.out⟩
    case measure=>simp [intOf]
   ·have hz:wr.cell? ⟨b,11,none⟩=some (.int .i64 0):=hB.cell 11
    have hf:=hB.free 11
    have y:Blk (wr.setCell ⟨b,11,none⟩ (.int .i64 p)) b 133 (partsL P T A g 2 p 0):=hB.set 11 (.int .i64 p)
    have d0:(wr.setCell ⟨b,11,none⟩ (.int .i64 p)).cell? ⟨b,10,none⟩=some (.int .u8 3):=y.cell 10
    have d1:(wr.setCell ⟨b,11,none⟩ (.int .i64 p)).cell? ⟨b,11,none⟩=some (.int .i64 p):=y.cell 11
    have d2:(wr.setCell ⟨b,11,none⟩ (.int .i64 p)).cell? ⟨b,12,none⟩=some (.int .i64 P):=y.cell 12
    have d3:(wr.setCell ⟨b,11,none⟩ (.int .i64 p)).cell? ⟨b,13,none⟩=some (.int .i64 g):=y.cell 13
    have d4:(wr.setCell ⟨b,11,none⟩ (.int .i64 p)).cell? ⟨b,14,none⟩=some (.int .i64 1):=y.cell 14
    have hb2:=hbel.setCell (p:=⟨b,11,none⟩) HBB.out (.int .i64 p)
    have Y:=Lh y
    have B2:=Lh hb2
    clear y hb2 hB hbel
    go_wp2_with fail
    refine (N2.out _).mono ?_
    rintro e w5 ⟨rfl,hb5⟩
    have Y:=Lh (Y.out.below hb5 Y.out.lt)
    have B2:=Lh (B2.out.trans (hb5.mono B2.out.size))
    clear hb5 hz hf d0 d1 d2 d3 d4
    go_wp2
    go_roundw
    case rel=>exact ⟨.inr (.inr (.inr (.inl ⟨rfl,rfl,Y.out⟩))),B2.out⟩
    case measure=>simp [intOf]
   ·have hz:wr.cell? ⟨b,16,none⟩=some (.int .i64 0):=hB.cell 16
    have hf:=hB.free 16
    have y:Blk (wr.setCell ⟨b,16,none⟩ (.int .i64 t)) b 133 (partsL P T A g 2 p t):=hB.set 16 (.int .i64 t)
    have d0:(wr.setCell ⟨b,16,none⟩ (.int .i64 t)).cell? ⟨b,15,none⟩=some (.int .u8 4):=y.cell 15
    have d1:(wr.setCell ⟨b,16,none⟩ (.int .i64 t)).cell? ⟨b,16,none⟩=some (.int .i64 t):=y.cell 16
    have d2:(wr.setCell ⟨b,16,none⟩ (.int .i64 t)).cell? ⟨b,17,none⟩=some (.int .i64 P):=y.cell 17
    have d3:(wr.setCell ⟨b,16,none⟩ (.int .i64 t)).cell? ⟨b,18,none⟩=some (.int .i64 T):=y.cell 18
    have d4:(wr.setCell ⟨b,16,none⟩ (.int .i64 t)).cell? ⟨b,19,none⟩=some (.int .i64 4):=y.cell 19
    have hb2:=hbel.setCell (p:=⟨b,16,none⟩) HBB.out (.int .i64 t)
    have Y:=Lh y
    have B2:=Lh hb2
    clear y hb2 hB hbel
    go_wp2_with fail
    refine (N3.out _).mono ?_
    rintro e w5 ⟨rfl,hb5⟩
    have Y:=Lh (Y.out.below hb5 Y.out.lt)
    have B2:=Lh (B2.out.trans (hb5.mono B2.out.size))
    clear hb5 hz hf d0 d1 d2 d3 d4
    go_wp2
    go_roundw
    case rel=>exact ⟨.inr (.inr (.inr (.inr (⟨rfl,rfl,Y.out⟩)))),B2.out⟩
    case measure=>simp [intOf]
   ·have hR:=RB.out.below hbel RB.out.lt
    have hD:=setRow_heap wr (w.heap.size + 1) _ (partsL P T A g 2 p t).toArray _ _ hR
    have B2:=Lh (below_setRow (g:=w.heap.size + 1) (BEL.out.trans (hbel.mono BEL.out.size)) (Nat.le_succ _) (partsL P T A g 2 p t).toArray)
    go_wp2_with (first | (refine wpList_load_row (o:=⟨some 33,_,_,_,_,_⟩) rfl 133 (.tmp 3) rfl b rfl 133 (partsL P T A g 2 p t).toArray (0,0) _ hB Try.underlying133 rfl (by kernel_rfl) ?_) | (refine wpList_plain (o:=⟨none,.store 133 (.tmp 2) (.tmp 33),_,_,_,_⟩) rfl fun _ hK=>?_;refine wp_store_row 133 (.tmp 2) (.tmp 33) rfl (w.heap.size + 1) (partsL P T A g 2 p t).toArray rfl rfl 133 _ hR (by kernel_rfl) rfl (partsL_one _ _ _ _ _ _ _) ?_;refine hK _ _ ?_))
    exact bodyPost_ret (results_cell_row rfl _ _ (w.heap.size + 1) 133 _ (0,0) _ rfl hD Try.underlying133 rfl (by kernel_rfl)) rfl ⟨rfl,B2.out⟩
theorem ix_parts {i:Nat} (hi:i < 4) (cs:Array Value) (w:World):(Instr.index 133 (.agg cs) (.int .i64 (i:Int))).run Try.prog w=.ok (.agg (cs.extract (i * 5) (i * 5 + 5))) w:=by
 have hs:(Try.prog.info? 132).map (·.size)=some 5:=by kernel_rfl
 have h4:(i:Int) < 4:=by omega
 have h6:¬ 4≤i:=by omega
 cases hq:Try.prog.info? 132 with
 | none=>simp [hq] at hs
 | some f =>
  have h5:f.size=5:=by simpa [hq] using hs
  simp [Instr.index,run_underlying Try.underlying133,run_underlying Try.underlying132,asIntOf,part,sizeOf,typeInfo,isAgg,hq,h5,h6]
theorem ix_2 (P T A g p t:Int) (w:World):(Instr.index 133 (.agg #[.int .u8 1,.int .i64 0,.int .i64 1,.int .i64 1,.int .i64 2,.int .u8 2,.int .i64 2,.int .i64 2,.int .i64 A,.int .i64 1,.int .u8 3,.int .i64 p,.int .i64 P,.int .i64 g,.int .i64 1,.int .u8 4,.int .i64 t,.int .i64 P,.int .i64 T,.int .i64 4]) (.int .i64 2)).run Try.prog w=.ok (.agg #[.int .u8 3,.int .i64 p,.int .i64 P,.int .i64 g,.int .i64 1]) w:=by
 have:=ix_parts (i:=2) (by omega) #[.int .u8 1,.int .i64 0,.int .i64 1,.int .i64 1,.int .i64 2,.int .u8 2,.int .i64 2,.int .i64 2,.int .i64 A,.int .i64 1,.int .u8 3,.int .i64 p,.int .i64 P,.int .i64 g,.int .i64 1,.int .u8 4,.int .i64 t,.int .i64 P,.int .i64 T,.int .i64 4] w
 simpa using this
theorem ix_3 (P T A g p t:Int) (w:World):(Instr.index 133 (.agg #[.int .u8 1,.int .i64 0,.int .i64 1,.int .i64 1,.int .i64 2,.int .u8 2,.int .i64 2,.int .i64 2,.int .i64 A,.int .i64 1,.int .u8 3,.int .i64 p,.int .i64 P,.int .i64 g,.int .i64 1,.int .u8 4,.int .i64 t,.int .i64 P,.int .i64 T,.int .i64 4]) (.int .i64 3)).run Try.prog w=.ok (.agg #[.int .u8 4,.int .i64 t,.int .i64 P,.int .i64 T,.int .i64 4]) w:=by
 have:=ix_parts (i:=3) (by omega) #[.int .u8 1,.int .i64 0,.int .i64 1,.int .i64 1,.int .i64 2,.int .u8 2,.int .i64 2,.int .i64 2,.int .i64 A,.int .i64 1,.int .u8 3,.int .i64 p,.int .i64 P,.int .i64 g,.int .i64 1,.int .u8 4,.int .i64 t,.int .i64 P,.int .i64 T,.int .i64 4] w
 simpa using this
theorem within2_yes (a l m n k o:Int) (g:Nat) (t:TypeId) (w:World) (hg:g=w.heap.size) (h1:l≤a∧a≤m) (h2:k≤n∧n≤o) :
  Calls Try.prog 86 #[.slice (some ⟨g,0,none⟩) 2 2] (w.alloc (.cells #[.int .i64 a,.int .i64 l,.int .i64 m,.int .i64 n,.int .i64 k,.int .i64 o] t)) fun e w'=>e=.returned (.bool true)∧Below w.heap.size w w' :=
 (within_any g 2 _ _ (bnds2 w g t a l m n k o hg) (by omega) true (fun _=>rfl) (fun j hj hno=>by
  match j,hj with
  | 0,_=>exact absurd h1 hno
  | 1,_=>exact absurd h2 hno)).mono fun e w' h=>⟨h.1,((Below.refl _ _).alloc (Nat.le_refl _) _).trans (h.2.mono (by simp))⟩
theorem within2_no (a l m n k o:Int) (g:Nat) (t:TypeId) (w:World) (hg:g=w.heap.size) (h:¬ ((l≤a∧a≤m)∧(k≤n∧n≤o))) :
  Calls Try.prog 86 #[.slice (some ⟨g,0,none⟩) 2 2] (w.alloc (.cells #[.int .i64 a,.int .i64 l,.int .i64 m,.int .i64 n,.int .i64 k,.int .i64 o] t)) fun e w'=>e=.returned (.bool false)∧Below w.heap.size w w' :=
 (within_any g 2 _ _ (bnds2 w g t a l m n k o hg) (by omega) false (fun hall=>absurd ⟨hall 0 (by omega),hall 1 (by omega)⟩ h) (fun _ _ _=>rfl)).mono fun e w' h=>⟨h.1,((Below.refl _ _).alloc (Nat.le_refl _) _).trans (h.2.mono (by simp))⟩
end Go.Proofs.Ytdbeiikaeccbhaa
