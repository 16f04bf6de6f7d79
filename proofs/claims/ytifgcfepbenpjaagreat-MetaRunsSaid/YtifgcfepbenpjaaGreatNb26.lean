/- Texts of layers 1 to 12, joined. -/
import Derived.Test.YtifgcfepbenpjaaGreatNb25
import Derived.BigQuiet
import Derived.StillTailTactics
import Derived.Deep.Cut
import Derived.Deep.CutBlock
import Derived.Deep.CutRange
import Derived.Deep.RegionHeld3
set_option maxRecDepth 100000
set_option maxHeartbeats 12800000
set_option linter.unusedVariables false
namespace Go.Proofs.YtifgcfepbenpjaaGreat
open Go.RowKit
def OfOut (w:World) (t:Txt) (e:Ending) (w':World):Prop:=((isN t∧e=.returned (.tuple #[recV (rawR t),.bool true]))∨(¬ isN t∧∃ s,e=.returned (.tuple #[recV s,.bool false])))∧Below w.heap.size w w'
theorem nums8_lit (w:World) (p b e l h f G:Int) (g B:Nat) (hg:g=w.heap.size) (hB:w.heap.size < B):Seq (w.alloc (.cells #[.int .u64 1,.int .u64 p,.int .u64 b,.int .u64 e,.int .u64 l,.int .u64 h,.int .u64 f,.int .u64 G] 27)) B (some ⟨g,0,none⟩) (ints .u64 [1,p,b,e,l,h,f,G]):=lit_row w 27 .u64 [1,p,b,e,l,h,f,G] _ _ _ rfl hg hB
theorem nums2_lit (w:World) (p q:Int) (g B:Nat) (hg:g=w.heap.size) (hB:w.heap.size < B):Seq (w.alloc (.cells #[.int .u64 p,.int .u64 q] 27)) B (some ⟨g,0,none⟩) (ints .u64 [p,q]):=lit_row w 27 .u64 [p,q] _ _ _ rfl hg hB
theorem pnote11_any (r:Rc) (w:World) (hi:isR r):Calls Tryz.prog 38 #[recV r] w (RowOut .u8 5 w (ntB r) (rcE r)):=by
 have CK:=Lh (fun wx=>pcheck11_any r wx hi)
 unfold RowOut
 by_cases hm:mayR r
 ·rw [show rcE r=0 from if_pos hm] at CK ⊢
  rw [show ntB r=recT r from if_pos hm,recT_length]
  have FT:=Lh (fits8R hi hm)
  have hT:recT r=rowTo (numsR r) sz8R 8:=rfl
  have hl:=recT_length r
  obtain ⟨⟨m1,m2,m3,m4,m5,m6,m7,m8⟩,⟨m9,m10⟩,_⟩:=hm
  obtain ⟨⟨i1,i2⟩,⟨i3,i4⟩,_⟩:=hi
  have hfl:=flagR_le r
  have hw:∀ z ∈ numsR r,isWord z:=by
   intro z hz
   unfold numsR at hz
   simp only [List.mem_cons,List.not_mem_nil,or_false] at hz
   unfold isWord
   rcases hz with rfl | rfl | rfl | rfl | rfl | rfl | rfl | rfl <;> omega
  have FL:=Lh (fun wx=>pflags_any r wx)
  obtain ⟨p,b,e,l,h,f,q,a⟩:=r
  dsimp only at m1 m2 m3 m4 m5 m6 m7 m8 m9 m10 i1 i2 i3 i4 FL CK
  have e1:IntKind.u64.wrap p=p:=wrapw64 p m1 (by omega)
  have e2:IntKind.u64.wrap b=b:=wrapw64 b (by omega) (by omega)
  have e3:IntKind.u64.wrap e=e:=wrapw64 e (by omega) (by omega)
  have e4:IntKind.u64.wrap l=l:=wrapw64 l m5 (by omega)
  have e5:IntKind.u64.wrap h=h:=wrapw64 h (by omega) (by omega)
  have e6:IntKind.u64.wrap f=f:=wrapw64 f m7 (by omega)
  obtain ⟨T,hTT⟩:∃ T,T=recT ⟨p,b,e,l,h,f,q,a⟩:=⟨_,rfl⟩
  rw [← hTT] at hl hT ⊢
  obtain ⟨G,hG⟩:∃ G,G=flagR ⟨p,b,e,l,h,f,q,a⟩:=⟨_,rfl⟩
  have hnr:numsR ⟨p,b,e,l,h,f,q,a⟩=[1,p,b,e,l,h,f,G]:=by rw [hG];rfl
  rw [← hG] at FL
  rw [hnr] at hT hw FT
  have HT:=Lh hT
  have HL:=Lh hl
  have W1:=Lh hw
  have FT:=Lh (show fitsTo [1,p,b,e,l,h,f,G] sz8R sz8R.length=true from FT.out)
  have HT:=Lh (show T=rowTo [1,p,b,e,l,h,f,G] sz8R sz8R.length from HT.out)
  obtain ⟨x,hbel⟩:=rec_box w ⟨p,b,e,l,h,f,q,a⟩
  have hbel:Below w.heap.size w (w.alloc (.cells #[.int .i64 p,.int .u32 b,.int .u32 e,.int .i64 l,.int .u8 h,.int .i64 f,.bool q,.bool a] 64)):=hbel
  change Blk (w.alloc (.cells #[.int .i64 p,.int .u32 b,.int .u32 e,.int .i64 l,.int .u8 h,.int .i64 f,.bool q,.bool a] 64)) _ _ _ at x
  obtain ⟨w0,hw0⟩:∃ x,x=w.alloc (.cells #[.int .i64 p,.int .u32 b,.int .u32 e,.int .i64 l,.int .u8 h,.int .i64 f,.bool q,.bool a] 64):=⟨_,rfl⟩
  rw [← hw0] at x hbel
  have hlt:=x.lt
  obtain ⟨c0,c1,c2,c3,c4,c5,c6,c7⟩:=x.rec
  have X:=Lh x
  have B:=Lh hbel
  dsimp only at c0 c1 c2 c3 c4 c5 c6 c7
  clear m1 m2 m3 m4 m5 m6 m7 m8 m9 m10 i1 i2 i3 i4 x hTT hbel hT hl hw hfl hG hnr
  go_enter Tryz.func38,Tryz.ntmps38
  go_wp2_with fail
  rw [← hw0]
  clear hw0
  refine (CK.out _).mono ?_
  rintro e' v1 ⟨rfl,hb⟩
  have B:=Lh (B.out.trans (hb.mono B.out.size))
  have X:=Lh (X.out.below hb hlt)
  have hlt:w.heap.size < v1.heap.size:=X.out.lt
  clear hb c0 c1 c2 c3 c4 c5 c6 c7 CK
  go_upto_region 4 with fail
  have hcur:Below v1.heap.size v1 v1.drew:=below_drewN (Below.refl _ _) 1
  have keepX:∀ wx,Below v1.heap.size v1 wx→wx.cell? ⟨w.heap.size,0,none⟩=some (.int .i64 p)∧wx.cell? ⟨w.heap.size,1,none⟩=some (.int .u32 b)∧wx.cell? ⟨w.heap.size,2,none⟩=some (.int .u32 e)∧wx.cell? ⟨w.heap.size,3,none⟩=some (.int .i64 l)∧wx.cell? ⟨w.heap.size,4,none⟩=some (.int .u8 h)∧wx.cell? ⟨w.heap.size,5,none⟩=some (.int .i64 f)∧wx.cell? ⟨w.heap.size,6,none⟩=some (.bool q)∧wx.cell? ⟨w.heap.size,7,none⟩=some (.bool a):=fun wx hx=>(X.out.below hx hlt).rec
  have hkX:=keepX _ hcur
  go_region_held3 (fun wx=>wx.cell? ⟨w.heap.size,0,none⟩=some (.int .i64 p)∧wx.cell? ⟨w.heap.size,1,none⟩=some (.int .u32 b)∧wx.cell? ⟨w.heap.size,2,none⟩=some (.int .u32 e)∧wx.cell? ⟨w.heap.size,3,none⟩=some (.int .i64 l)∧wx.cell? ⟨w.heap.size,4,none⟩=some (.int .u8 h)∧wx.cell? ⟨w.heap.size,5,none⟩=some (.int .i64 f)∧wx.cell? ⟨w.heap.size,6,none⟩=some (.bool q)∧wx.cell? ⟨w.heap.size,7,none⟩=some (.bool a))
   (first | exact hkX | exact keepX _ (hcur.alloc hcur.size _) | go_keep)
   (first
    | (go_at_call 76;with_reducible refine (psizes8_any v1.drew).mono ?_;rintro e' wS ⟨gS,rfl,hAS,hbS⟩;have hcur:=hcur.trans (hbS.mono hcur.size);have hkX:=keepX _ hcur)
    | (go_at_call 76;with_reducible refine (psizes8_any wF).mono ?_;rintro e' wS ⟨gS,rfl,hAS,hbS⟩;have hcur:=hcur.trans (hbS.mono hcur.size);have hkX:=keepX _ hcur)
    | (go_at_call 76;with_reducible refine (psizes8_any (wF.alloc (.cells #[.int .u64 1,.int .u64 p,.int .u64 b,.int .u64 e,.int .u64 l,.int .u64 h,.int .u64 f,.int .u64 G] 27))).mono ?_;rintro e' wS ⟨gS,rfl,hAS,hbS⟩;have hL:=nums8_lit wF p b e l h f G wF.heap.size (wF.heap.size + 1) rfl (Nat.lt_succ_self _);have hL:=(hL.below (hbS.mono (by simp))).more (B':=wS.heap.size) (Nat.le_trans (by simp) hbS.size);have hcur:=hcur.alloc hcur.size (.cells #[.int .u64 1,.int .u64 p,.int .u64 b,.int .u64 e,.int .u64 l,.int .u64 h,.int .u64 f,.int .u64 G] 27);have hcur:=hcur.trans (hbS.mono hcur.size);have hkX:=keepX _ hcur)
    | (go_at_call 75;have hAS0:=hAS;with_reducible refine (FL.out _).mono ?_;rintro e' wF ⟨rfl,hbF⟩;have hAS:=hAS0.below hbF;have hcur:=hcur.trans (hbF.mono hcur.size);have hkX:=keepX _ hcur)
    | (go_at_call 75;with_reducible refine (FL.out _).mono ?_;rintro e' wF ⟨rfl,hbF⟩;have hcur:=hcur.trans (hbF.mono hcur.size);have hkX:=keepX _ hcur)
    | (go_at_call 74;with_reducible refine (write_ok (some ⟨wF.heap.size,0,none⟩) (some ⟨gS,0,none⟩) 8 8 8 8 [1,p,b,e,l,h,f,G] sz8R wS hAS.seq rfl okB_sz8R hL rfl rfl W1.out).mono ?_;intro e' w2 hout;obtain ⟨A2,c2,rfl,hown,hb⟩:=(WroteOut.yes hout FT.out).len (zs':=T) (n:=14) HT.out.symm HL.out;have hM:=hcur.size;have hcur:=hcur.trans (hb.mono hcur.size);have hkX:=keepX _ hcur)
    | (go_at_call 74;have hL:=nums8_lit wS p b e l h f G wS.heap.size (wS.heap.size + 1) rfl (Nat.lt_succ_self _);have hL:=hL.more (B':=(wS.alloc (.cells #[.int .u64 1,.int .u64 p,.int .u64 b,.int .u64 e,.int .u64 l,.int .u64 h,.int .u64 f,.int .u64 G] 27)).heap.size) (by simp);have hAS:=hAS.below ((Below.refl wS.heap.size wS).alloc (Nat.le_refl _) (.cells #[.int .u64 1,.int .u64 p,.int .u64 b,.int .u64 e,.int .u64 l,.int .u64 h,.int .u64 f,.int .u64 G] 27));have hcur:=hcur.alloc hcur.size (.cells #[.int .u64 1,.int .u64 p,.int .u64 b,.int .u64 e,.int .u64 l,.int .u64 h,.int .u64 f,.int .u64 G] 27);with_reducible refine (write_ok (some ⟨wS.heap.size,0,none⟩) (some ⟨gS,0,none⟩) 8 8 8 8 [1,p,b,e,l,h,f,G] sz8R (wS.alloc (.cells #[.int .u64 1,.int .u64 p,.int .u64 b,.int .u64 e,.int .u64 l,.int .u64 h,.int .u64 f,.int .u64 G] 27)) hAS.seq rfl okB_sz8R hL rfl rfl W1.out).mono ?_;intro e' w2 hout;obtain ⟨A2,c2,rfl,hown,hb⟩:=(WroteOut.yes hout FT.out).len (zs':=T) (n:=14) HT.out.symm HL.out;have hM:=hcur.size;have hcur:=hcur.trans (hb.mono hcur.size);have hkX:=keepX _ hcur)
    | (go_at_call 74;have hL:=nums8_lit wF p b e l h f G wF.heap.size (wF.heap.size + 1) rfl (Nat.lt_succ_self _);have hL:=hL.more (B':=(wF.alloc (.cells #[.int .u64 1,.int .u64 p,.int .u64 b,.int .u64 e,.int .u64 l,.int .u64 h,.int .u64 f,.int .u64 G] 27)).heap.size) (by simp);have hAS:=hAS.below ((Below.refl wF.heap.size wF).alloc (Nat.le_refl _) (.cells #[.int .u64 1,.int .u64 p,.int .u64 b,.int .u64 e,.int .u64 l,.int .u64 h,.int .u64 f,.int .u64 G] 27));have hcur:=hcur.alloc hcur.size (.cells #[.int .u64 1,.int .u64 p,.int .u64 b,.int .u64 e,.int .u64 l,.int .u64 h,.int .u64 f,.int .u64 G] 27);with_reducible refine (write_ok (some ⟨wF.heap.size,0,none⟩) (some ⟨gS,0,none⟩) 8 8 8 8 [1,p,b,e,l,h,f,G] sz8R (wF.alloc (.cells #[.int .u64 1,.int .u64 p,.int .u64 b,.int .u64 e,.int .u64 l,.int .u64 h,.int .u64 f,.int .u64 G] 27)) hAS.seq rfl okB_sz8R hL rfl rfl W1.out).mono ?_;intro e' w2 hout;obtain ⟨A2,c2,rfl,hown,hb⟩:=(WroteOut.yes hout FT.out).len (zs':=T) (n:=14) HT.out.symm HL.out;have hM:=hcur.size;have hcur:=hcur.trans (hb.mono hcur.size);have hkX:=keepX _ hcur))
  all_goals (
   have B2:=Lh (B.out.trans (hcur.mono B.out.size))
   have O2:=Lh (owns_base hown (Nat.le_trans B.out.size hM))
   clear hcur hkX keepX hM hb hown hAS hL
   go_wp2
   go_ret2
   exact ⟨A2,c2,rfl,O2.out,B2.out⟩)
 ·rw [show rcE r=110 from if_neg hm] at CK ⊢
  rw [show ntB r=[] from if_neg hm]
  obtain ⟨x,hbel⟩:=rec_box w r
  obtain ⟨c0,c1,c2,c3,c4,c5,c6,c7⟩:=x.rec
  have B:=Lh hbel
  clear x hbel hm hi
  go_enter Tryz.func38,Tryz.ntmps38
  go_wp2_with fail
  refine (CK.out _).mono ?_
  rintro e' v1 ⟨rfl,hb⟩
  have B:=Lh (B.out.trans (hb.mono B.out.size))
  clear hb c0 c1 c2 c3 c4 c5 c6 c7 CK
  go_wp2
  go_ret2
  exact ⟨none,0,rfl,World.ownsRow_nil _ _ _ _,B.out⟩
theorem goneT_row {k:Int} (h:0≤k∧k < 3):rowTo [2,k] [1,1] 2=goneT k:=by
 show ([] ++ digs 1 2) ++ digs 1 k=[2,k]
 simp [digs]
 omega
theorem gone_fits {k:Int} (h:0≤k∧k < 3):fitsTo [2,k] [1,1] 2=true:=by
 have d1:k / 256 ^ 1=0:=Int.ediv_eq_zero_of_lt h.1 (by omega)
 show ((true && decide ((2:Int) / 256 ^ 1=0)) && decide (k / 256 ^ 1=0))=true
 rw [d1]
 decide
theorem pgone11_any (k:Int) (w:World):Calls Tryz.prog 175 #[.int .i64 k] w (RowOut .u8 5 w (goB k) (goE k)):=by
 unfold RowOut
 have PI:=Lh (fun wx=>pispair_any k wx)
 by_cases h:0≤k∧k < 3
 ·have hE:goE k=0:=if_pos h
  rw [hE,show goB k=goneT k from if_pos hE]
  rw [decide_eq_true h] at PI
  have e1:IntKind.u64.wrap k=k:=wrapw64 k h.1 (by omega)
  have W1:=Lh (show ∀ z ∈ [2,k],isWord z from by
   intro z hz
   simp only [List.mem_cons,List.not_mem_nil,or_false] at hz
   unfold isWord
   rcases hz with rfl | rfl <;> omega)
  have FT:=Lh (show fitsTo [2,k] [1,1] [(1:Int),1].length=true from gone_fits h)
  have HT:=Lh (show rowTo [2,k] [1,1] [(1:Int),1].length=goneT k from goneT_row h)
  obtain ⟨w0,hw0⟩:∃ x,x=w.alloc (.cells #[.int .u64 2,.int .u64 k] 27):=⟨_,rfl⟩
  have hL:=nums2_lit w 2 k w.heap.size (w.heap.size + 1) rfl (Nat.lt_succ_self _)
  have hb0:Below w.heap.size w (w.alloc (.cells #[.int .u64 2,.int .u64 k] 27)):=(Below.refl _ _).alloc (Nat.le_refl _) _
  have hs0:w0.heap.size=w.heap.size + 1:=by rw [hw0];simp
  rw [← hw0] at hL hb0
  have HL:=Lh hL
  have B:=Lh hb0
  have HS:=Lh hs0
  clear h hE hL hb0 hs0
  go_enter Tryz.func175,Tryz.ntmps175
  go_wp2_with fail
  refine (PI.out _).mono ?_
  rintro e' v1 ⟨rfl,rfl⟩
  go_wp2_with fail
  rw [← hw0]
  clear hw0
  refine (psizes2_any _).mono ?_
  rintro e' wS ⟨gS,rfl,hAS,hbS⟩
  have hL:=(HL.out.below (hbS.mono (by rw [HS.out];exact Nat.le_refl _))).more (B':=wS.heap.size) (by rw [← HS.out];exact hbS.size)
  have HAS:=Lh hAS
  have HL2:=Lh hL
  have B:=Lh (B.out.trans (hbS.mono B.out.size))
  clear hL hAS hbS HS HL
  go_wp2_with fail
  refine (write_ok (some ⟨v1.heap.size,0,none⟩) (some ⟨gS,0,none⟩) 2 2 2 2 [2,k] [1,1] wS HAS.out.seq rfl (by decide) HL2.out rfl rfl W1.out).mono ?_
  intro e' w2 hout
  obtain ⟨A2,c2,rfl,hown,hb⟩:=(WroteOut.yes hout FT.out).len (zs':=goneT k) (n:=2) HT.out rfl
  have O:=Lh (owns_base hown B.out.size)
  have B:=Lh (B.out.trans (hb.mono B.out.size))
  clear hown hb hout
  go_wp2
  go_ret2
  exact ⟨A2,c2,rfl,O.out,B.out⟩
 ·have hE:goE k=2:=if_neg h
  rw [hE,show goB k=[] from if_neg (by rw [hE];decide)]
  rw [decide_eq_false h] at PI
  clear h hE
  go_enter Tryz.func175,Tryz.ntmps175
  go_wp2_with fail
  refine (PI.out _).mono ?_
  rintro e' v1 ⟨rfl,rfl⟩
  go_wp2
  go_ret2
  exact ⟨none,0,rfl,World.ownsRow_nil _ _ _ _,Below.refl _ _⟩
end Go.Proofs.YtifgcfepbenpjaaGreat
namespace Go.Proofs.YtifgcfepbenpjaaGreat
section
variable {P T A M W Q:Int} {S S':List Sec} {C C':List Pnd}
theorem cpL_range12 {S:List Sec} {C:List Pnd} {a m:Nat} {b:Txt} (h:cpE S C a m b=0):∀ p ∈ cpL S C a m b,(a:Int)≤p.1∧p.1 < (a:Int) + 2 * (m:Int):=by
 have hL:cpL S C a m b=writesP ((a:Int) + hF m (optsOf S C a (2 * m)) * (m:Int)) (cpT S C a m b) m:=by unfold cpL;rw [if_pos h,Int.toNat_natCast]
 rw [hL]
 intro p hp
 unfold writesP someP at hp
 obtain ⟨i,hi,rfl⟩:=List.mem_map.1 hp
 have hi:=List.mem_range.1 hi
 rw [if_pos hi]
 dsimp only
 rcases hF_two m (optsOf S C a (2 * m)) with h | h <;> rw [h] <;> omega
theorem busy_nil (S:List Sec) (x:Int) (n:Nat):busyTo S [] x n=false:=busy_no fun i _=>by
 unfold waB
 split <;> rfl
theorem sp_view (hm:mayT P T A M W Q S []) (hm':mayT P T A M W Q S' []) (h0:optAt S' [] 0=optAt S [] 0) (h1:optAt S' [] 1=optAt S [] 1) (s:Sup):spE P T A M W Q S' [] s=spE P T A M W Q S [] s∧spL P T A M W Q S' [] s=spL P T A M W Q S [] s:=by
 have e:optsOf S' [] 0 (2 * (1:Int).toNat)=optsOf S [] 0 (2 * (1:Int).toNat):=by
  show [optAt S' [] 0,optAt S' [] 1]=[optAt S [] 0,optAt S [] 1]
  rw [h0,h1]
 have c:cpE S' [] 0 1 (suT s)=cpE S [] 0 1 (suT s):=by
  unfold cpE
  rw [cell_zero hm,cell_zero hm',busy_nil,busy_nil,e]
 have l:cpL S' [] 0 1 (suT s)=cpL S [] 0 1 (suT s):=by
  unfold cpL cpT
  rw [c,e]
 have h:spE P T A M W Q S' [] s=spE P T A M W Q S [] s:=by
  unfold spE
  rw [if_pos hm,if_pos hm',c]
 refine ⟨h,?_⟩
 unfold spL
 rw [h,l]
theorem su_away {s:Sup} (h:spE P T A M W Q S [] s=0) (hmay:mayD S (spL P T A M W Q S [] s)=true) (F:List Int) {y:Int} (hy:2≤y):optAt (crS S (spL P T A M W Q S [] s) F) [] y=optAt S [] y:=by
 obtain ⟨hm,_,hp⟩:=spE_zero h
 have e:spL P T A M W Q S [] s=cpL S [] 0 1 (suT s):=if_pos h
 obtain ⟨base,l,hL⟩:∃ base l,cpL S [] 0 1 (suT s)=writesP base l 1:=⟨_,_,if_pos hp⟩
 have hr:=cpL_range12 (a:=0) (m:=1) hp (base,l.getD 0 []) (by
  rw [show ((0:Nat):Int)=0 from rfl,show ((1:Nat):Int)=1 from rfl,hL]
  unfold writesP someP
  simp)
 rw [e,hL] at hmay ⊢
 obtain ⟨hcm,hcl⟩:=cr_may hmay F
 by_cases hi:0≤y∧y < (S.length:Int)
 ·have k:=optAt_crash (C:=[]) (base:=base) (l:=l) (k:=1) hm.2.1 (by rw [List.nil_append];exact hmay) F hi.1 hi.2 rfl
  rw [List.nil_append] at k
  rcases k with k | ⟨k1,k2,_⟩
  ·exact k
  ·have:=hr.2
   simp only at this
   omega
 ·rw [opt_out hcm (by rw [hcl];exact hi),opt_out hm.2.1 hi]
theorem rowsT_at (g:Int) (t:List Rc) {k:Nat} (hk:k < t.length):(rowsT g t).getD k []=jT g (k:Int) (recT (t.getD k zR)):=by
 unfold rowsT
 simp [List.getD_eq_getElem?_getD,hk]
theorem rec20 (r:Rc):(recT r).length≤20:=by rw [recT_length];decide
theorem rows_may (hm:mayT P T A M W Q S []) {a g:Int} (ha:arJ a) {t:List Rc} (h3:t.length≤3) {k:Nat} (hk:k≤t.length):mayD S (writesP (2 + a * A) (rowsT g t) k)=true:=by
 have hA:(3:Int)≤A:=by have:=hm.1;unfold mayC at this;omega
 have h:=hm.2.1
 rw [mayD_iff] at h ⊢
 refine ⟨⟨h.1.1,h.1.2.1,by unfold writesP;rw [someP_len];omega⟩,h.2.1,fun p hp=>?_⟩
 unfold writesP someP at hp
 obtain ⟨i,hi,rfl⟩:=List.mem_map.1 hp
 have hik:=List.mem_range.1 hi
 rw [if_pos hik]
 obtain ⟨b0,b1⟩:=at_area hm ha (n:=i) (by omega)
 refine ⟨b0,b1,?_⟩
 show ((rowsT g t).getD i []).length=32
 rw [rowsT_at g t (by omega)]
 exact jT_length _ _ (rec20 _)
theorem rows_crash (hm:mayT P T A M W Q S []) {base:Int} {l:List Txt} {k:Nat} (hmay:mayD S (writesP base l k)=true) (F:List Int) {y:Int} (hy:¬ (base≤y∧y < base + (k:Int))):optAt (crS S (writesP base l k) F) [] y=optAt S [] y:=by
 obtain ⟨hcm,hcl⟩:=cr_may hmay F
 by_cases hi:0≤y∧y < (S.length:Int)
 ·have c:=optAt_crash (C:=[]) (base:=base) (l:=l) (k:=k) hm.2.1 (by rw [List.nil_append];exact hmay) F hi.1 hi.2 rfl
  rw [List.nil_append] at c
  rcases c with c | ⟨k1,k2,_⟩
  ·exact c
  ·exact absurd ⟨k1,k2⟩ hy
 ·rw [opt_out hcm (by rw [hcl];exact hi),opt_out hm.2.1 hi]
theorem area_off {a:Int} (ha:arJ a) (hA:3≤A):(∀ j:Nat,(j:Int) < A→¬ (2 + (1 - a) * A≤2 + a * A + (j:Int)∧2 + a * A + (j:Int) < 2 + (1 - a) * A + A))∧2≤2 + (1 - a) * A∧2≤2 + a * A:=by
 unfold arJ at ha
 rcases (show a=0∨a=1 by omega) with r | r <;> subst r
 ·refine ⟨fun j hj=>?_,by omega,by omega⟩
  rw [show (1 - 0:Int) * A=A by omega,show (0:Int) * A=0 by omega]
  omega
 ·refine ⟨fun j hj=>?_,by omega,by omega⟩
  rw [show (1 - 1:Int) * A=0 by omega,show (1:Int) * A=A by omega]
  omega
end
section
variable {P T A M W Q:Int} {S:List Sec} {m:Mt} {b:Txt}
theorem three_of12 {t:List Rc} (h:mayTab t):t.length≤3:=by
 match t with
 | [] | [_] | [_,_] | [_,_,_]=>simp
 | a :: b :: c :: d :: l =>
  exfalso
  have h':=(mayTab_iff _).1 h
  have ha:=(h'.1 a (by simp)).1
  have hd:=(h'.1 d (by simp)).1
  obtain ⟨h1,h2⟩:=List.pairwise_cons.1 h'.2
  obtain ⟨h3,h4⟩:=List.pairwise_cons.1 h2
  obtain ⟨h5,_⟩:=List.pairwise_cons.1 h4
  have:=h1 b (by simp)
  have:=h3 c (by simp)
  have:=h5 d (by simp)
  omega
theorem note_len {t x:List Rc} (h:putR t b=some x):1≤b.length∧b.length≤20:=by
 unfold putR at h
 split at h
 ·unfold putN at h
  split at h
  ·rename_i hg
   have:=hg.1
   omega
  ·split at h
   ·rename_i hn
    have:=hn.1
    omega
   ·cases h
 ·cases h
theorem arJ_of {a:Int} (h:arS a):arJ a:=by unfold arS at h;unfold arJ;omega
theorem met_one (hm:mayT P T A M W Q S []) (hT:Tells P T A M W Q S m.s m.t m.n) (hk:mayM P T A M W Q m) (hg:isG m.s.2.2) (hf:fineM A S [] m) {t':List Rc} (hp:putR m.t b=some t') (hn:m.n < A) (F:List Int) :
  mayD S [(2 + m.s.2.1 * A + m.n,jT m.s.2.2 m.n b)]=true ∧
  (Tells P T A M W Q (crS S [(2 + m.s.2.1 * A + m.n,jT m.s.2.2 m.n b)] F) m.s m.t m.n∨Tells P T A M W Q (crS S [(2 + m.s.2.1 * A + m.n,jT m.s.2.2 m.n b)] F) m.s t' (m.n + 1)) ∧
  Tells P T A M W Q (flS S [(2 + m.s.2.1 * A + m.n,jT m.s.2.2 m.n b)]) m.s t' (m.n + 1):=by
 obtain ⟨o1,o2,o3,o4⟩:=tells_out hT
 obtain ⟨_,harea,⟨hn0,_⟩,_,_⟩:=hk
 have ha:=arJ_of harea
 obtain ⟨b1,b2⟩:=note_len hp
 obtain ⟨n,hN⟩:∃ n:Nat,m.n=(n:Int):=⟨m.n.toNat,by omega⟩
 rw [hN] at o4 hn ⊢
 have hA:(3:Int)≤A:=by have:=hm.1;unfold mayC at this;omega
 have J:=fun F=>jrn_tells hm ha hg b1 b2 (n:=n) (by omega) hn F
 obtain ⟨hmay,j1,j2,_,_⟩:=J F
 have off:∀ y,y≠2 + m.s.2.1 * A + (n:Int)→∀ F,optAt (crS S [(2 + m.s.2.1 * A + (n:Int),jT m.s.2.2 (n:Int) b)] F) [] y=optAt S [] y:=fun y hy F=>(crash_one hm.2.1 hmay F).1 y hy
 have hx2:2≤2 + m.s.2.1 * A:=(area_off ha hA).2.2
 have key:∀ F,mayT P T A M W Q (crS S [(2 + m.s.2.1 * A + (n:Int),jT m.s.2.2 (n:Int) b)] F) []∧srE P T A M W Q (crS S [(2 + m.s.2.1 * A + (n:Int),jT m.s.2.2 (n:Int) b)] F) []=0∧srV P T A M W Q (crS S [(2 + m.s.2.1 * A + (n:Int),jT m.s.2.2 (n:Int) b)] F) []=m.s∧(jN (jf (crS S [(2 + m.s.2.1 * A + (n:Int),jT m.s.2.2 (n:Int) b)] F) [] A m.s.2.1 m.s.2.2) A.toNat).length≤n + 1:=fun F=>by
  obtain ⟨c1,c2⟩:=cr_may hmay F
  have hm':=may_len hm c1 c2
  obtain ⟨s1,s2⟩:=sr_view hm hm' (off 0 (by omega) F) (off 1 (by omega) F)
  refine ⟨hm',s1.trans o1,s2.trans o2,?_⟩
  rw [jN_length]
  by_cases he:((n + 1:Nat):Int) < A
  ·rcases Nat.lt_or_ge (n + 1) (jM (jf (crS S [(2 + m.s.2.1 * A + (n:Int),jT m.s.2.2 (n:Int) b)] F) [] A m.s.2.1 m.s.2.2) A.toNat) with k | k
   ·exfalso
    have hne:=jM_have _ _ (n + 1) k
    unfold jf at hne
    rw [off _ (by omega) F] at hne
    cases hx:optAt S [] (2 + m.s.2.1 * A + ((n + 1:Nat):Int)) with
    | none=>rw [hx] at hne;exact hne rfl
    | some x =>
     rw [hx] at hne
     exact (hf m.s.2.1 (n + 1) ha he (fun k=>by have:=k.2;omega) x hx).1 (beg_note hg hne)
   ·exact k
  ·have:=jM_le (jf (crS S [(2 + m.s.2.1 * A + (n:Int),jT m.s.2.2 (n:Int) b)] F) [] A m.s.2.1 m.s.2.2) A.toNat
   omega
 have lenN:(jN (jf S [] A m.s.2.1 m.s.2.2) A.toNat).length=n:=by omega
 have new:∀ F,begL (jN (jf (crS S [(2 + m.s.2.1 * A + (n:Int),jT m.s.2.2 (n:Int) b)] F) [] A m.s.2.1 m.s.2.2) A.toNat) (jN (jf S [] A m.s.2.1 m.s.2.2) A.toNat) b→Tells P T A M W Q (crS S [(2 + m.s.2.1 * A + (n:Int),jT m.s.2.2 (n:Int) b)] F) m.s t' ((n:Int) + 1):=fun F hb=>by
  obtain ⟨_,k2,k3,k4⟩:=key F
  have e:=begL_eq hb (by rw [lenN];exact k4)
  have T:=tells_of k2 k3 e (t:=t') (by
   unfold tabR
   rw [tabTo_app]
   have:tabTo [] (jN (jf S [] A m.s.2.1 m.s.2.2) A.toNat)=some m.t:=o3
   rw [this]
   show (putR m.t b).bind (fun x=>tabTo x [])=_
   rw [hp]
   rfl)
  rw [List.length_append,lenN] at T
  exact T
 refine ⟨hmay,?_,new _ j2⟩
 rcases j1 with j | j
 ·left
  obtain ⟨_,k2,k3,_⟩:=key F
  have T:=tells_of k2 k3 j o3
  rw [lenN] at T
  exact T
 ·exact .inr (new F j)
theorem met_anew (hm:mayT P T A M W Q S []) (hT:Tells P T A M W Q S m.s m.t m.n) (hk:mayM P T A M W Q m) (hs:isS (anewS m)) (hf:fineM A S [] m) {t':List Rc} (hp:putR m.t b=some t') (hall:allR t')
  (hsp:spE P T A M W Q S [] (anewS m)=0) (hS1:∀ x ∈ flS S (rowsP A (1 - m.s.2.1) (nextM m) t'),∀ z ∈ x.2,isByte z) :
  (∀ k,k≤t'.length→mayD S (writesP (2 + (1 - m.s.2.1) * A) (rowsT (nextM m) t') k)=true∧∀ F,Tells P T A M W Q (crS S (writesP (2 + (1 - m.s.2.1) * A) (rowsT (nextM m) t') k) F) m.s m.t m.n) ∧
  (mayT P T A M W Q (flS S (rowsP A (1 - m.s.2.1) (nextM m) t')) []∧Tells P T A M W Q (flS S (rowsP A (1 - m.s.2.1) (nextM m) t')) m.s m.t m.n) ∧
  spL P T A M W Q (flS S (rowsP A (1 - m.s.2.1) (nextM m) t')) [] (anewS m)=spL P T A M W Q S [] (anewS m) ∧
  mayD (flS S (rowsP A (1 - m.s.2.1) (nextM m) t')) (spL P T A M W Q S [] (anewS m))=true ∧
  (∀ F,Tells P T A M W Q (crS (flS S (rowsP A (1 - m.s.2.1) (nextM m) t')) (spL P T A M W Q S [] (anewS m)) F) m.s m.t m.n∨Tells P T A M W Q (crS (flS S (rowsP A (1 - m.s.2.1) (nextM m) t')) (spL P T A M W Q S [] (anewS m)) F) (anewS m) t' (t'.length:Int)) ∧
  Tells P T A M W Q (flS (flS S (rowsP A (1 - m.s.2.1) (nextM m) t')) (spL P T A M W Q S [] (anewS m))) (anewS m) t' (t'.length:Int):=by
 obtain ⟨o1,o2,o3,o4⟩:=tells_out hT
 obtain ⟨_,harea,⟨hn0,hnA⟩,_,_⟩:=hk
 have ha:=arJ_of harea
 have harea':arS (1 - m.s.2.1):=by unfold arS at harea ⊢;omega
 have ha':=arJ_of harea'
 have ht':=(put_may hp).2
 have h3:t'.length≤3:=three_of12 ht'
 have hg':isG (nextM m):=hs.2
 have hA:(3:Int)≤A:=by have:=hm.1;unfold mayC at this;omega
 have hA32:A≤32:=by have:=hm.1;unfold mayC at this;omega
 obtain ⟨off,off2,_⟩:=area_off ha hA
 have lenN:((jN (jf S [] A m.s.2.1 m.s.2.2) A.toNat).length:Int)=m.n:=o4.symm
 have same:∀ S',mayT P T A M W Q S' []→(∀ y,y < 2∨(∃ j:Nat,(j:Int) < A∧y=2 + m.s.2.1 * A + (j:Int))→optAt S' [] y=optAt S [] y)→Tells P T A M W Q S' m.s m.t m.n:=fun S' hm' hy=>by
  obtain ⟨s1,s2⟩:=sr_view hm hm' (hy 0 (.inl (by omega))) (hy 1 (.inl (by omega)))
  have T:=tells_of (s1.trans o1) (s2.trans o2) (l:=jN (jf S [] A m.s.2.1 m.s.2.2) A.toNat) (jl_view fun k hk=>hy _ (.inr ⟨k,hk,rfl⟩)) o3
  rw [lenN] at T
  exact T
 have away:∀ k,k≤t'.length→∀ F y,y < 2∨(∃ j:Nat,(j:Int) < A∧y=2 + m.s.2.1 * A + (j:Int))→optAt (crS S (writesP (2 + (1 - m.s.2.1) * A) (rowsT (nextM m) t') k) F) [] y=optAt S [] y:=fun k hk F y hy=>by
  refine rows_crash hm (rows_may hm ha' h3 hk) F fun h=>?_
  rcases hy with hy | ⟨j,hj,rfl⟩
  ·omega
  ·exact off j hj ⟨h.1,by omega⟩
 have part1:∀ k,k≤t'.length→mayD S (writesP (2 + (1 - m.s.2.1) * A) (rowsT (nextM m) t') k)=true∧∀ F,mayT P T A M W Q (crS S (writesP (2 + (1 - m.s.2.1) * A) (rowsT (nextM m) t') k) F) []∧Tells P T A M W Q (crS S (writesP (2 + (1 - m.s.2.1) * A) (rowsT (nextM m) t') k) F) m.s m.t m.n:=fun k hk=>by
  have hmay:=rows_may hm ha' (g:=nextM m) h3 hk
  refine ⟨hmay,fun F=>?_⟩
  obtain ⟨c1,c2⟩:=cr_may hmay F
  have hm':=may_len hm c1 c2
  exact ⟨hm',same _ hm' (away k hk F)⟩
 have hmR:=(part1 t'.length (Nat.le_refl _)).1
 have P2:=(part1 t'.length (Nat.le_refl _)).2 (List.replicate (writesP (2 + (1 - m.s.2.1) * A) (rowsT (nextM m) t') t'.length).length 1)
 change mayT P T A M W Q (flS S (rowsP A (1 - m.s.2.1) (nextM m) t')) []∧Tells P T A M W Q (flS S (rowsP A (1 - m.s.2.1) (nextM m) t')) m.s m.t m.n at P2
 obtain ⟨hm1,T1⟩:=P2
 have awayF:∀ y,y < 2∨(∃ j:Nat,(j:Int) < A∧y=2 + m.s.2.1 * A + (j:Int))→optAt (flS S (rowsP A (1 - m.s.2.1) (nextM m) t')) [] y=optAt S [] y:=fun y hy=>away t'.length (Nat.le_refl _) _ y hy
 have newA:∀ j:Nat,(j:Int) < A→optAt (flS S (rowsP A (1 - m.s.2.1) (nextM m) t')) [] (2 + (1 - m.s.2.1) * A + (j:Int))=if j < t'.length then some (jT (nextM m) (j:Int) (recT (t'.getD j zR))) else optAt S [] (2 + (1 - m.s.2.1) * A + (j:Int)):=fun j hj=>by
  unfold rowsP
  rw [optAt_flush hmR]
  obtain ⟨b0,b1⟩:=at_area hm ha' hj
  have k:=optAt_writes (C:=[]) (base:=2 + (1 - m.s.2.1) * A) (l:=rowsT (nextM m) t') (m:=t'.length) hm.2.1 (by rw [List.nil_append];exact hmR) b0 b1
  rw [List.nil_append] at k
  rw [k]
  by_cases hjt:j < t'.length
  ·rw [if_pos ⟨by omega,by omega⟩,if_pos hjt,show (2 + (1 - m.s.2.1) * A + (j:Int) - (2 + (1 - m.s.2.1) * A)).toNat=j by omega,rowsT_at _ _ hjt]
  ·rw [if_neg (by omega),if_neg hjt]
 obtain ⟨sp1,sp2⟩:=sp_view hm hm1 (awayF 0 (.inl (by omega))) (awayF 1 (.inl (by omega))) (anewS m)
 obtain ⟨L,hL⟩:∃ L,L=spL P T A M W Q S [] (anewS m):=⟨_,rfl⟩
 obtain ⟨S1,hS1e⟩:∃ S1,S1=flS S (rowsP A (1 - m.s.2.1) (nextM m) t'):=⟨_,rfl⟩
 rw [← hS1e] at hm1 T1 awayF newA sp1 sp2 hS1 ⊢
 rw [← hL] at sp2 ⊢
 have hsp1:spE P T A M W Q S1 [] (anewS m)=0:=sp1.trans hsp
 have hL1:spL P T A M W Q S1 [] (anewS m)=cpL S1 [] 0 1 (suT (anewS m)):=if_pos hsp1
 have ST:=fun F=>sup_tells hsp1 hs hS1 (fun p hp=>by cases hp) (by simp) F
 rw [List.nil_append,← hL1,sp2] at ST
 have hmL:mayD S1 L=true:=(ST []).1
 have aw:=fun F (y:Int) (hy:2≤y)=>(show optAt (crS S1 L F) [] y=optAt S1 [] y from by
  have:=su_away hsp1 (by rw [sp2];exact hmL) F hy
  rwa [sp2] at this)
 obtain ⟨T1a,T1b,T1c,T1d⟩:=T1
 have e1:srE P T A M W Q S1 []=0∧srV P T A M W Q S1 []=m.s:=by
  obtain ⟨s1,s2⟩:=sr_view hm hm1 (awayF 0 (.inl (by omega))) (awayF 1 (.inl (by omega)))
  exact ⟨s1.trans o1,s2.trans o2⟩
 have notes:∀ F,jN (jf (crS S1 L F) [] A (1 - m.s.2.1) (nextM m)) A.toNat=t'.map recT:=fun F=>by
  have hfk:∀ j:Nat,j < t'.length→jf (crS S1 L F) [] A (1 - m.s.2.1) (nextM m) j=recT (t'.getD j zR):=fun j hj=>by
   unfold jf
   rw [aw F _ (by omega),newA j (by omega),if_pos hj]
   exact noteT_new hg' (by omega) (by rw [recT_length];decide) (rec20 _)
  have hM:jM (jf (crS S1 L F) [] A (1 - m.s.2.1) (nextM m)) A.toNat=t'.length:=jM_is (by omega) (fun j hj=>by
   rw [hfk j hj]
   intro e
   have:=recT_length (t'.getD j zR)
   rw [e] at this
   cases this) (by
   by_cases he:(t'.length:Int) < A
   ·right
    unfold jf
    rw [aw F _ (by omega),newA _ he,if_neg (by omega)]
    cases hx:optAt S [] (2 + (1 - m.s.2.1) * A + (t'.length:Int)) with
    | none=>rfl
    | some x =>
     refine Classical.byContradiction fun hne=>?_
     exact (hf (1 - m.s.2.1) t'.length ha' he (fun k=>by have:=k.1;unfold arS at harea;omega) x hx).2 (beg_note hg' hne)
   ·left;omega)
  unfold jN
  rw [hM]
  refine List.ext_getElem (by simp) fun i h1 h2=>?_
  have hi:i < t'.length:=by simpa using h2
  rw [List.getElem_map,List.getElem_range,List.getElem_map,hfk i hi]
  simp [List.getD_eq_getElem?_getD,hi]
 have newT:∀ F,srE P T A M W Q (crS S1 L F) []=0→srV P T A M W Q (crS S1 L F) []=anewS m→Tells P T A M W Q (crS S1 L F) (anewS m) t' (t'.length:Int):=fun F k1 k2=>by
  have T:=tells_of k1 k2 (l:=t'.map recT) (notes F) (tab_back ht' hall)
  rw [List.length_map] at T
  exact T
 refine ⟨fun k hk=>⟨(part1 k hk).1,fun F=>((part1 k hk).2 F).2⟩,⟨hm1,T1a,T1b,T1c,T1d⟩,sp2,hmL,fun F=>?_,?_⟩
 ·rcases (ST F).2.2.1 with ⟨k1,k2⟩ | ⟨k1,k2⟩
  ·left
   obtain ⟨c1,c2⟩:=cr_may hmL F
   have T:=tells_of (S:=crS S1 L F) (k1.trans e1.1) (k2.trans e1.2) (l:=jN (jf S [] A m.s.2.1 m.s.2.2) A.toNat) (jl_view fun j hj=>by rw [aw F _ (by have:=(area_off ha hA).2.2;omega)];exact awayF _ (.inr ⟨j,hj,rfl⟩)) o3
   rw [lenN] at T
   exact T
  ·exact .inr (newT F k1 k2)
 ·have k:=(ST []).2.2.2
  exact newT _ k.1 k.2
end
end Go.Proofs.YtifgcfepbenpjaaGreat
