/- Texts of layers 1 to 12, joined. -/
import Derived.Test.YtifgcfepbenpjaaGreatNa22
import Derived.Test.YtifgcfepbenpjaaGreatNa26
import Derived.Deep.RegionHeld3
import Derived.Deep.Cut
import Derived.Laws.Tables
import Derived.Deep.CutBlock
import Derived.Deep.CutRange
import Derived.Laws.BitsAllLaws
set_option maxRecDepth 100000
set_option maxHeartbeats 12800000
set_option linter.unusedVariables false
namespace Go.Proofs.YtifgcfepbenpjaaGreat
open Go.RowKit
theorem nums8_lit (w:World) (p b e l h f G:Int) (g B:Nat) (hg:g=w.heap.size) (hB:w.heap.size < B):Seq (w.alloc (.cells #[.int .u64 1,.int .u64 p,.int .u64 b,.int .u64 e,.int .u64 l,.int .u64 h,.int .u64 f,.int .u64 G] 27)) B (some ⟨g,0,none⟩) (ints .u64 [1,p,b,e,l,h,f,G]):=lit_row w 27 .u64 [1,p,b,e,l,h,f,G] _ _ _ rfl hg hB
theorem nums2_lit (w:World) (p q:Int) (g B:Nat) (hg:g=w.heap.size) (hB:w.heap.size < B):Seq (w.alloc (.cells #[.int .u64 p,.int .u64 q] 27)) B (some ⟨g,0,none⟩) (ints .u64 [p,q]):=lit_row w 27 .u64 [p,q] _ _ _ rfl hg hB
theorem pnote11_any (r:Rc) (w:World) (hi:isR r):Calls Tryz.prog 38 #[recV r] w (RowOut .u8 5 w (ntB r) (rcE r)):=by
 have CK:=Lh (fun wx=>pcheck11_any r wx hi)
 unfold RowOut
 by_cases hm:mayR r
 ·rw [show rcE r=0 from if_pos hm] at CK ⊢
  rw [show ntB r=recT r from if_pos hm,recT_length]
  have FT:=Lh (fits8R hi hm)
  have hT:recT r=rowTo (numsR r) sz8R 8:=rfl
  have hl:=recT_length r
  obtain ⟨⟨m1,m2,m3,m4,m5,m6,m7,m8⟩,⟨m9,m10⟩,_⟩:=hm
  obtain ⟨⟨i1,i2⟩,⟨i3,i4⟩,_⟩:=hi
  have hfl:=flagR_le r
  have hw:∀ z ∈ numsR r,isWord z:=by
   intro z hz
   unfold numsR at hz
   simp only [List.mem_cons,List.not_mem_nil,or_false] at hz
   unfold isWord
   rcases hz with rfl | rfl | rfl | rfl | rfl | rfl | rfl | rfl <;> omega
  have FL:=Lh (fun wx=>pflags_any r wx)
  obtain ⟨p,b,e,l,h,f,q,a⟩:=r
  dsimp only at m1 m2 m3 m4 m5 m6 m7 m8 m9 m10 i1 i2 i3 i4 FL CK
  have e1:IntKind.u64.wrap p=p:=wrapw64 p m1 (by omega)
  have e2:IntKind.u64.wrap b=b:=wrapw64 b (by omega) (by omega)
  have e3:IntKind.u64.wrap e=e:=wrapw64 e (by omega) (by omega)
  have e4:IntKind.u64.wrap l=l:=wrapw64 l m5 (by omega)
  have e5:IntKind.u64.wrap h=h:=wrapw64 h (by omega) (by omega)
  have e6:IntKind.u64.wrap f=f:=wrapw64 f m7 (by omega)
  obtain ⟨T,hTT⟩:∃ T,T=recT ⟨p,b,e,l,h,f,q,a⟩:=⟨_,rfl⟩
  rw [← hTT] at hl hT ⊢
  obtain ⟨G,hG⟩:∃ G,G=flagR ⟨p,b,e,l,h,f,q,a⟩:=⟨_,rfl⟩
  have hnr:numsR ⟨p,b,e,l,h,f,q,a⟩=[1,p,b,e,l,h,f,G]:=by rw [hG];rfl
  rw [← hG] at FL
  rw [hnr] at hT hw FT
  have HT:=Lh hT
  have HL:=Lh hl
  have W1:=Lh hw
  have FT:=Lh (show fitsTo [1,p,b,e,l,h,f,G] sz8R sz8R.length=true from FT.out)
  have HT:=Lh (show T=rowTo [1,p,b,e,l,h,f,G] sz8R sz8R.length from HT.out)
  obtain ⟨x,hbel⟩:=rec_box w ⟨p,b,e,l,h,f,q,a⟩
  have hbel:Below w.heap.size w (w.alloc (.cells #[.int .i64 p,.int .u32 b,.int .u32 e,.int .i64 l,.int .u8 h,.int .i64 f,.bool q,.bool a] 64)):=hbel
  change Blk (w.alloc (.cells #[.int .i64 p,.int .u32 b,.int .u32 e,.int .i64 l,.int .u8 h,.int .i64 f,.bool q,.bool a] 64)) _ _ _ at x
  obtain ⟨w0,hw0⟩:∃ x,x=w.alloc (.cells #[.int .i64 p,.int .u32 b,.int .u32 e,.int .i64 l,.int .u8 h,.int .i64 f,.bool q,.bool a] 64):=⟨_,rfl⟩
  rw [← hw0] at x hbel
  have hlt:=x.lt
  obtain ⟨c0,c1,c2,c3,c4,c5,c6,c7⟩:=x.rec
  have X:=Lh x
  have B:=Lh hbel
  dsimp only at c0 c1 c2 c3 c4 c5 c6 c7
  clear m1 m2 m3 m4 m5 m6 m7 m8 m9 m10 i1 i2 i3 i4 x hTT hbel hT hl hw hfl hG hnr
  go_enter Tryz.func38,Tryz.ntmps38
  go_wp2_with fail
  rw [← hw0]
  clear hw0
  refine (CK.out _).mono ?_
  rintro e' v1 ⟨rfl,hb⟩
  have B:=Lh (B.out.trans (hb.mono B.out.size))
  have X:=Lh (X.out.below hb hlt)
  have hlt:w.heap.size < v1.heap.size:=X.out.lt
  clear hb c0 c1 c2 c3 c4 c5 c6 c7 CK
  go_upto_region 4 with fail
  have hcur:Below v1.heap.size v1 v1.drew:=below_drewN (Below.refl _ _) 1
  have keepX:∀ wx,Below v1.heap.size v1 wx→wx.cell? ⟨w.heap.size,0,none⟩=some (.int .i64 p)∧wx.cell? ⟨w.heap.size,1,none⟩=some (.int .u32 b)∧wx.cell? ⟨w.heap.size,2,none⟩=some (.int .u32 e)∧wx.cell? ⟨w.heap.size,3,none⟩=some (.int .i64 l)∧wx.cell? ⟨w.heap.size,4,none⟩=some (.int .u8 h)∧wx.cell? ⟨w.heap.size,5,none⟩=some (.int .i64 f)∧wx.cell? ⟨w.heap.size,6,none⟩=some (.bool q)∧wx.cell? ⟨w.heap.size,7,none⟩=some (.bool a):=fun wx hx=>(X.out.below hx hlt).rec
  have hkX:=keepX _ hcur
  go_region_held3 (fun wx=>wx.cell? ⟨w.heap.size,0,none⟩=some (.int .i64 p)∧wx.cell? ⟨w.heap.size,1,none⟩=some (.int .u32 b)∧wx.cell? ⟨w.heap.size,2,none⟩=some (.int .u32 e)∧wx.cell? ⟨w.heap.size,3,none⟩=some (.int .i64 l)∧wx.cell? ⟨w.heap.size,4,none⟩=some (.int .u8 h)∧wx.cell? ⟨w.heap.size,5,none⟩=some (.int .i64 f)∧wx.cell? ⟨w.heap.size,6,none⟩=some (.bool q)∧wx.cell? ⟨w.heap.size,7,none⟩=some (.bool a))
   (first | exact hkX | exact keepX _ (hcur.alloc hcur.size _) | go_keep)
   (first
    | (go_at_call 76;with_reducible refine (psizes8_any v1.drew).mono ?_;rintro e' wS ⟨gS,rfl,hAS,hbS⟩;have hcur:=hcur.trans (hbS.mono hcur.size);have hkX:=keepX _ hcur)
    | (go_at_call 76;with_reducible refine (psizes8_any wF).mono ?_;rintro e' wS ⟨gS,rfl,hAS,hbS⟩;have hcur:=hcur.trans (hbS.mono hcur.size);have hkX:=keepX _ hcur)
    | (go_at_call 76;with_reducible refine (psizes8_any (wF.alloc (.cells #[.int .u64 1,.int .u64 p,.int .u64 b,.int .u64 e,.int .u64 l,.int .u64 h,.int .u64 f,.int .u64 G] 27))).mono ?_;rintro e' wS ⟨gS,rfl,hAS,hbS⟩;have hL:=nums8_lit wF p b e l h f G wF.heap.size (wF.heap.size + 1) rfl (Nat.lt_succ_self _);have hL:=(hL.below (hbS.mono (by simp))).more (B':=wS.heap.size) (Nat.le_trans (by simp) hbS.size);have hcur:=hcur.alloc hcur.size (.cells #[.int .u64 1,.int .u64 p,.int .u64 b,.int .u64 e,.int .u64 l,.int .u64 h,.int .u64 f,.int .u64 G] 27);have hcur:=hcur.trans (hbS.mono hcur.size);have hkX:=keepX _ hcur)
    | (go_at_call 75;have hAS0:=hAS;with_reducible refine (FL.out _).mono ?_;rintro e' wF ⟨rfl,hbF⟩;have hAS:=hAS0.below hbF;have hcur:=hcur.trans (hbF.mono hcur.size);have hkX:=keepX _ hcur)
    | (go_at_call 75;with_reducible refine (FL.out _).mono ?_;rintro e' wF ⟨rfl,hbF⟩;have hcur:=hcur.trans (hbF.mono hcur.size);have hkX:=keepX _ hcur)
    | (go_at_call 74;with_reducible refine (write_ok (some ⟨wF.heap.size,0,none⟩) (some ⟨gS,0,none⟩) 8 8 8 8 [1,p,b,e,l,h,f,G] sz8R wS hAS.seq rfl okB_sz8R hL rfl rfl W1.out).mono ?_;intro e' w2 hout;obtain ⟨A2,c2,rfl,hown,hb⟩:=(WroteOut.yes hout FT.out).len (zs':=T) (n:=14) HT.out.symm HL.out;have hM:=hcur.size;have hcur:=hcur.trans (hb.mono hcur.size);have hkX:=keepX _ hcur)
    | (go_at_call 74;have hL:=nums8_lit wS p b e l h f G wS.heap.size (wS.heap.size + 1) rfl (Nat.lt_succ_self _);have hL:=hL.more (B':=(wS.alloc (.cells #[.int .u64 1,.int .u64 p,.int .u64 b,.int .u64 e,.int .u64 l,.int .u64 h,.int .u64 f,.int .u64 G] 27)).heap.size) (by simp);have hAS:=hAS.below ((Below.refl wS.heap.size wS).alloc (Nat.le_refl _) (.cells #[.int .u64 1,.int .u64 p,.int .u64 b,.int .u64 e,.int .u64 l,.int .u64 h,.int .u64 f,.int .u64 G] 27));have hcur:=hcur.alloc hcur.size (.cells #[.int .u64 1,.int .u64 p,.int .u64 b,.int .u64 e,.int .u64 l,.int .u64 h,.int .u64 f,.int .u64 G] 27);with_reducible refine (write_ok (some ⟨wS.heap.size,0,none⟩) (some ⟨gS,0,none⟩) 8 8 8 8 [1,p,b,e,l,h,f,G] sz8R (wS.alloc (.cells #[.int .u64 1,.int .u64 p,.int .u64 b,.int .u64 e,.int .u64 l,.int .u64 h,.int .u64 f,.int .u64 G] 27)) hAS.seq rfl okB_sz8R hL rfl rfl W1.out).mono ?_;intro e' w2 hout;obtain ⟨A2,c2,rfl,hown,hb⟩:=(WroteOut.yes hout FT.out).len (zs':=T) (n:=14) HT.out.symm HL.out;have hM:=hcur.size;have hcur:=hcur.trans (hb.mono hcur.size);have hkX:=keepX _ hcur)
    | (go_at_call 74;have hL:=nums8_lit wF p b e l h f G wF.heap.size (wF.heap.size + 1) rfl (Nat.lt_succ_self _);have hL:=hL.more (B':=(wF.alloc (.cells #[.int .u64 1,.int .u64 p,.int .u64 b,.int .u64 e,.int .u64 l,.int .u64 h,.int .u64 f,.int .u64 G] 27)).heap.size) (by simp);have hAS:=hAS.below ((Below.refl wF.heap.size wF).alloc (Nat.le_refl _) (.cells #[.int .u64 1,.int .u64 p,.int .u64 b,.int .u64 e,.int .u64 l,.int .u64 h,.int .u64 f,.int .u64 G] 27));have hcur:=hcur.alloc hcur.size (.cells #[.int .u64 1,.int .u64 p,.int .u64 b,.int .u64 e,.int .u64 l,.int .u64 h,.int .u64 f,.int .u64 G] 27);with_reducible refine (write_ok (some ⟨wF.heap.size,0,none⟩) (some ⟨gS,0,none⟩) 8 8 8 8 [1,p,b,e,l,h,f,G] sz8R (wF.alloc (.cells #[.int .u64 1,.int .u64 p,.int .u64 b,.int .u64 e,.int .u64 l,.int .u64 h,.int .u64 f,.int .u64 G] 27)) hAS.seq rfl okB_sz8R hL rfl rfl W1.out).mono ?_;intro e' w2 hout;obtain ⟨A2,c2,rfl,hown,hb⟩:=(WroteOut.yes hout FT.out).len (zs':=T) (n:=14) HT.out.symm HL.out;have hM:=hcur.size;have hcur:=hcur.trans (hb.mono hcur.size);have hkX:=keepX _ hcur))
  all_goals (
   have B2:=Lh (B.out.trans (hcur.mono B.out.size))
   have O2:=Lh (owns_base hown (Nat.le_trans B.out.size hM))
   clear hcur hkX keepX hM hb hown hAS hL
   go_wp2
   go_ret2
   exact ⟨A2,c2,rfl,O2.out,B2.out⟩)
 ·rw [show rcE r=110 from if_neg hm] at CK ⊢
  rw [show ntB r=[] from if_neg hm]
  obtain ⟨x,hbel⟩:=rec_box w r
  obtain ⟨c0,c1,c2,c3,c4,c5,c6,c7⟩:=x.rec
  have B:=Lh hbel
  clear x hbel hm hi
  go_enter Tryz.func38,Tryz.ntmps38
  go_wp2_with fail
  refine (CK.out _).mono ?_
  rintro e' v1 ⟨rfl,hb⟩
  have B:=Lh (B.out.trans (hb.mono B.out.size))
  clear hb c0 c1 c2 c3 c4 c5 c6 c7 CK
  go_wp2
  go_ret2
  exact ⟨none,0,rfl,World.ownsRow_nil _ _ _ _,B.out⟩
theorem goneT_row {k:Int} (h:0≤k∧k < 3):rowTo [2,k] [1,1] 2=goneT k:=by
 show ([] ++ digs 1 2) ++ digs 1 k=[2,k]
 simp [digs]
 omega
theorem gone_fits {k:Int} (h:0≤k∧k < 3):fitsTo [2,k] [1,1] 2=true:=by
 have d1:k / 256 ^ 1=0:=Int.ediv_eq_zero_of_lt h.1 (by omega)
 show ((true && decide ((2:Int) / 256 ^ 1=0)) && decide (k / 256 ^ 1=0))=true
 rw [d1]
 decide
theorem pgone11_any (k:Int) (w:World):Calls Tryz.prog 175 #[.int .i64 k] w (RowOut .u8 5 w (goB k) (goE k)):=by
 unfold RowOut
 have PI:=Lh (fun wx=>pispair_any k wx)
 by_cases h:0≤k∧k < 3
 ·have hE:goE k=0:=if_pos h
  rw [hE,show goB k=goneT k from if_pos hE]
  rw [decide_eq_true h] at PI
  have e1:IntKind.u64.wrap k=k:=wrapw64 k h.1 (by omega)
  have W1:=Lh (show ∀ z ∈ [2,k],isWord z from by
   intro z hz
   simp only [List.mem_cons,List.not_mem_nil,or_false] at hz
   unfold isWord
   rcases hz with rfl | rfl <;> omega)
  have FT:=Lh (show fitsTo [2,k] [1,1] [(1:Int),1].length=true from gone_fits h)
  have HT:=Lh (show rowTo [2,k] [1,1] [(1:Int),1].length=goneT k from goneT_row h)
  obtain ⟨w0,hw0⟩:∃ x,x=w.alloc (.cells #[.int .u64 2,.int .u64 k] 27):=⟨_,rfl⟩
  have hL:=nums2_lit w 2 k w.heap.size (w.heap.size + 1) rfl (Nat.lt_succ_self _)
  have hb0:Below w.heap.size w (w.alloc (.cells #[.int .u64 2,.int .u64 k] 27)):=(Below.refl _ _).alloc (Nat.le_refl _) _
  have hs0:w0.heap.size=w.heap.size + 1:=by rw [hw0];simp
  rw [← hw0] at hL hb0
  have HL:=Lh hL
  have B:=Lh hb0
  have HS:=Lh hs0
  clear h hE hL hb0 hs0
  go_enter Tryz.func175,Tryz.ntmps175
  go_wp2_with fail
  refine (PI.out _).mono ?_
  rintro e' v1 ⟨rfl,rfl⟩
  go_wp2_with fail
  rw [← hw0]
  clear hw0
  refine (psizes2_any _).mono ?_
  rintro e' wS ⟨gS,rfl,hAS,hbS⟩
  have hL:=(HL.out.below (hbS.mono (by rw [HS.out];exact Nat.le_refl _))).more (B':=wS.heap.size) (by rw [← HS.out];exact hbS.size)
  have HAS:=Lh hAS
  have HL2:=Lh hL
  have B:=Lh (B.out.trans (hbS.mono B.out.size))
  clear hL hAS hbS HS HL
  go_wp2_with fail
  refine (write_ok (some ⟨v1.heap.size,0,none⟩) (some ⟨gS,0,none⟩) 2 2 2 2 [2,k] [1,1] wS HAS.out.seq rfl (by decide) HL2.out rfl rfl W1.out).mono ?_
  intro e' w2 hout
  obtain ⟨A2,c2,rfl,hown,hb⟩:=(WroteOut.yes hout FT.out).len (zs':=goneT k) (n:=2) HT.out rfl
  have O:=Lh (owns_base hown B.out.size)
  have B:=Lh (B.out.trans (hb.mono B.out.size))
  clear hown hb hout
  go_wp2
  go_ret2
  exact ⟨A2,c2,rfl,O.out,B.out⟩
 ·have hE:goE k=2:=if_neg h
  rw [hE,show goB k=[] from if_neg (by rw [hE];decide)]
  rw [decide_eq_false h] at PI
  clear h hE
  go_enter Tryz.func175,Tryz.ntmps175
  go_wp2_with fail
  refine (PI.out _).mono ?_
  rintro e' v1 ⟨rfl,rfl⟩
  go_wp2
  go_ret2
  exact ⟨none,0,rfl,World.ownsRow_nil _ _ _ _,Below.refl _ _⟩
def ShortT (l:List Txt) (k:Nat):Prop:=∀ y,y < k→(l.getD y []).length≤100
theorem wpList_store_row {P:Program} {w:World} {ops:Array Oper} {rest:List Oper} {o:Oper} {a:Act} {Q:Exit→Act→World→Prop} (hw:Region.wanted o (yielded ops a.tmps)=true) (ty:TypeId) (x y:Operand) (ho:o.op=.store ty x y)
  (g:Nat) (cells:Array Value) (hx:a.eval x=.pointer (some ⟨g,0,none⟩)) (hy:a.eval y=.agg cells) (t:TypeId) (old:Array Value) (hg:w.heap[g]?=some (.cells old t (0,0))) (hi:(P.info? ty).map (·.size)=some cells.size)
  (hold:old.size=cells.size) (h1:cells.all (·.oneCell')=true) (h:wpList P ops Q rest (a.put o.dst undef) (w.setRow g cells)):wpList P ops Q (o :: rest) a w:=by
 refine wpList_want hw fun K hK=>?_
 exact wp_store_row ty x y ho g cells hx hy t old hg hi hold h1 (hK _ _ h)
theorem pequal11_any (A:Option Addr) (n c:Nat) (x:Txt) (A':Option Addr) (n' c':Nat) (y:Txt) (w:World) (hx:Arg w .u8 A n c x) (hy:Arg w .u8 A' n' c' y) (bx:∀ z ∈ x,isByte z) (by_:∀ z ∈ y,isByte z) :
  Calls Tryz.prog 148 #[.slice A n c,.slice A' n' c'] w fun e w'=>e=.returned (.bool (decide (x=y)))∧w'=w:=by
 have hst1:=run_str (P:=Tryz.prog) w 42 9 5 Tryz.underlying42 Tryz.underlying5 Tryz.underlying9 (c:=c) hx.seq hx.len
 have hst2:=run_str (P:=Tryz.prog) w 42 9 5 Tryz.underlying42 Tryz.underlying5 Tryz.underlying9 (c:=c') hy.seq hy.len
 have hse:=strs_eq bx by_
 obtain ⟨R,hR⟩:∃ R,R=decide (x=y):=⟨_,rfl⟩
 rw [← hR] at hse ⊢
 clear hR hx hy bx by_
 go_enter Tryz.func148,Tryz.ntmps148
 go_wp2
 go_ret
 exact ⟨rfl,rfl⟩
theorem val_one11 {t:Txt} {k:Nat} (hk:k < t.length):val ((t.drop k).take 1)=t.getD k 0:=by
 rw [gtD,geE hk,List.drop_eq_getElem_cons hk,List.take_succ_cons,List.take_zero]
 show 0 * 256 + t[k]=t[k]
 rw [Int.zero_mul,Int.zero_add]
theorem byte_getD11 {t:Txt} (hb:∀ z ∈ t,isByte z) (k:Nat):isByte (t.getD k 0):=by
 rcases Nat.lt_or_ge k t.length with h | h
 ·rw [gtD,geE h]
  exact hb _ (List.getElem_mem h)
 ·rw [gtD,List.getElem?_eq_none h]
  exact ⟨by decide,by decide⟩
theorem nums8_eq {t:Txt} (ht:t.length=14):numsTo t sz8R 8=[t.getD 0 0,t.getD 1 0,val ((t.drop 2).take 4),val ((t.drop 6).take 4),t.getD 10 0,t.getD 11 0,t.getD 12 0,t.getD 13 0]:=by
 have h:numsTo t sz8R 8=((((((([] ++ [val ((t.drop 0).take 1)]) ++ [val ((t.drop 1).take 1)]) ++ [val ((t.drop 2).take 4)]) ++ [val ((t.drop 6).take 4)]) ++ [val ((t.drop 10).take 1)]) ++ [val ((t.drop 11).take 1)]) ++ [val ((t.drop 12).take 1)]) ++ [val ((t.drop 13).take 1)]:=rfl
 rw [h,val_one11 (by omega),val_one11 (by omega),val_one11 (by omega),val_one11 (by omega),val_one11 (by omega),val_one11 (by omega)]
 rfl
theorem nums2_eq {t:Txt} (ht:t.length=2):numsTo t [1,1] 2=[t.getD 0 0,t.getD 1 0]:=by
 have h:numsTo t [1,1] 2=([] ++ [val ((t.drop 0).take 1)]) ++ [val ((t.drop 1).take 1)]:=rfl
 rw [h,val_one11 (by omega),val_one11 (by omega)]
 rfl
def bitR (t:Txt):Rc:=⟨t.getD 1 0,val ((t.drop 2).take 4),val ((t.drop 6).take 4),t.getD 10 0,t.getD 11 0,t.getD 12 0,decide (t.getD 13 0 / 2 % 2=1),decide (t.getD 13 0 % 2=1)⟩
theorem bit_is {t:Txt} (ht:t.length=14) (hb:∀ z ∈ t,isByte z):isR (bitR t):=raw_is ht hb
theorem bit_raw {t:Txt} (hb:∀ z ∈ t,isByte z) (h:t.getD 13 0≤3):bitR t=rawR t:=by
 have:=byte_getD11 hb 13
 unfold isByte at this
 unfold bitR rawR
 congr 1
 rw [decide_eq_decide]
 omega
theorem rec_raw {t:Txt} (hb:∀ z ∈ t,isByte z) (h:isN t):recT (rawR t)=t:=by
 obtain ⟨h1,h2,h3,h4⟩:=h
 have hy:=byte_getD11 hb 13
 unfold isByte at hy
 have hf:flagR (rawR t)=t.getD 13 0:=by
  show (if decide (2≤t.getD 13 0)=true then (2:Int) else 0) + (if decide (t.getD 13 0 % 2=1)=true then 1 else 0)=_
  by_cases k1:2≤t.getD 13 0 <;> by_cases k2:t.getD 13 0 % 2=1 <;> simp only [k1,k2,decide_true,decide_false,if_true,Bool.false_eq_true,if_false] <;> omega
 have hn:numsR (rawR t)=numsTo t sz8R 8:=by
  rw [nums8_eq h1]
  show [1,t.getD 1 0,_,_,_,_,_,flagR (rawR t)]=_
  rw [hf,h2]
  rfl
 show rowTo (numsR (rawR t)) sz8R 8=t
 rw [hn]
 exact write_read t sz8R hb (by rw [h1];decide)
theorem bit_iff {t:Txt} (ht:t.length=14) (hb:∀ z ∈ t,isByte z):ntB (bitR t)=t↔isN t:=by
 constructor
 ·intro h
  unfold ntB at h
  split at h
  ·rename_i hm
   have k:=raw_recT (bit_is ht hb) hm
   rw [h] at k
   exact k.2
  ·rw [← h] at ht
   cases ht
 ·intro h
  rw [bit_raw hb h.2.2.1,show ntB (rawR t)=recT (rawR t) from if_pos h.2.2.2]
  exact rec_raw hb h
theorem go_iff {t:Txt} (ht:t.length=2) (hb:∀ z ∈ t,isByte z):goB (t.getD 1 0)=t↔isGo t:=by
 have hy:=byte_getD11 hb 1
 unfold isByte at hy
 match t,ht with
 | [x,y],_ =>
  have hy:0≤y∧y < 256:=hy
  show goB y=[x,y]↔(2=2∧x=2∧y < 3)
  unfold goB goE goneT
  by_cases h:0≤y∧y < 3
  ·rw [if_pos h,if_pos rfl]
   constructor
   ·intro e
    injection e with e
    exact ⟨rfl,e.symm,h.2⟩
   ·rintro ⟨_,rfl,_⟩
    rfl
  ·rw [if_neg h,if_neg (by decide)]
   constructor
   ·intro e
    cases e
   ·rintro ⟨_,_,k⟩
    exact absurd ⟨hy.1,k⟩ h
theorem goB_byte (k:Int):∀ z ∈ goB k,isByte z:=by
 intro z hz
 unfold goB at hz
 by_cases h:0≤k∧k < 3
 ·rw [show goE k=0 from if_pos h,if_pos rfl] at hz
  unfold goneT at hz
  simp only [List.mem_cons,List.not_mem_nil,or_false] at hz
  unfold isByte
  rcases hz with rfl | rfl <;> omega
 ·rw [show goE k=2 from if_neg h,if_neg (by decide)] at hz
  cases hz
theorem ntB_byte (r:Rc):∀ z ∈ ntB r,isByte z:=by
 intro z hz
 unfold ntB at hz
 split at hz
 ·exact recT_byte r z hz
 ·cases hz
theorem and_two {x:Int} (h0:0≤x) (h:x < 256):(bits .and .u64 x 2 != 0)=decide (x / 2 % 2=1):=by
 obtain ⟨n,rfl⟩:∃ n:Nat,x=n:=⟨x.toNat,by omega⟩
 have H:∀ y:Fin 256,(bits .and .u64 ((y:Nat):Int) 2 != 0)=decide (((y:Nat):Int) / 2 % 2=1):=by decide +kernel
 exact H ⟨n,by omega⟩
theorem and_one {x:Int} (h0:0≤x) (h:x < 256):(bits .and .u64 x 1 != 0)=decide (x % 2=1):=by
 obtain ⟨n,rfl⟩:∃ n:Nat,x=n:=⟨x.toNat,by omega⟩
 have H:∀ y:Fin 256,(bits .and .u64 ((y:Nat):Int) 1 != 0)=decide (((y:Nat):Int) % 2=1):=by decide +kernel
 exact H ⟨n,by omega⟩
theorem eight_at {w:World} {B:Nat} {A:Option Addr} {c:Nat} {x0 x1 x2 x3 x4 x5 x6 x7:Int} (h:w.ownsRow B 27 1 (.slice A 8 c) 8 (ints .u64 [x0,x1,x2,x3,x4,x5,x6,x7])) :
  ∃ b,A=some ⟨b,0,none⟩∧w.cell? ⟨b,0,none⟩=some (.int .u64 x0)∧w.cell? ⟨b,1,none⟩=some (.int .u64 x1)∧w.cell? ⟨b,2,none⟩=some (.int .u64 x2)∧w.cell? ⟨b,3,none⟩=some (.int .u64 x3)∧w.cell? ⟨b,4,none⟩=some (.int .u64 x4)∧w.cell? ⟨b,5,none⟩=some (.int .u64 x5)∧w.cell? ⟨b,6,none⟩=some (.int .u64 x6)∧w.cell? ⟨b,7,none⟩=some (.int .u64 x7):=by
 obtain ⟨b,o,rfl,hlt,hc⟩:=(Seq.own h).at_ (by rw [ints_length];simp)
 have ho:o=0:=by
  rcases h.2 with ⟨e,h0⟩ | ⟨g,cap,cur,e,_⟩
  ·cases e
  ·injection e with e;injection e with e;injection e
 subst ho
 refine ⟨b,rfl,?_⟩
 have H:=fun j v hv=>(Nat.zero_add j) ▸ hc j v hv
 exact ⟨H 0 _ rfl,H 1 _ rfl,H 2 _ rfl,H 3 _ rfl,H 4 _ rfl,H 5 _ rfl,H 6 _ rfl,H 7 _ rfl⟩
theorem two_at {w:World} {B:Nat} {A:Option Addr} {c:Nat} {x0 x1:Int} (h:w.ownsRow B 27 1 (.slice A 2 c) 2 (ints .u64 [x0,x1])):∃ b,A=some ⟨b,0,none⟩∧w.cell? ⟨b,0,none⟩=some (.int .u64 x0)∧w.cell? ⟨b,1,none⟩=some (.int .u64 x1):=by
 obtain ⟨b,o,rfl,hlt,hc⟩:=(Seq.own h).at_ (by rw [ints_length];simp)
 have ho:o=0:=by
  rcases h.2 with ⟨e,h0⟩ | ⟨g,cap,cur,e,_⟩
  ·cases e
  ·injection e with e;injection e with e;injection e
 subst ho
 have H:=fun j v hv=>(Nat.zero_add j) ▸ hc j v hv
 exact ⟨b,rfl,H 0 _ rfl,H 1 _ rfl⟩
def GoOut (w:World) (t:Txt) (e:Ending) (w':World):Prop:=((isGo t∧e=.returned (.tuple #[.int .i64 (t.getD 1 0),.bool true]))∨(¬ isGo t∧e=.returned (.tuple #[.int .i64 0,.bool false])))∧Below w.heap.size w w'
theorem pgonein_any (A:Option Addr) (n c:Nat) (t:Txt) (w:World) (ht:Arg w .u8 A n c t) (hby:∀ z ∈ t,isByte z) (hn:n≤1000):Calls Tryz.prog 150 #[.slice A n c] w (GoOut w t):=by
 have hlen:=ht.len
 have HA:=Lh ht
 unfold GoOut
 by_cases h2:n=2
 ·subst h2
  have hnm:=nums2_eq hlen
  have hy:=byte_getD11 hby 1
  have hiff:=go_iff hlen hby
  have EQ:=Lh (fun (A':Option Addr) (n' c':Nat) wx (h1:Arg wx .u8 A' n' c' (goB (t.getD 1 0))) (h2:Arg wx .u8 A 2 c t)=>pequal11_any A' n' c' (goB (t.getD 1 0)) A 2 c t wx h1 h2 (goB_byte _) hby)
  have hde:decide (goB (t.getD 1 0)=t)=decide (isGo t):=decide_eq_decide.2 hiff
  rw [hde] at EQ
  have GP:=Lh (fun wx=>pgone11_any (t.getD 1 0) wx)
  unfold RowOut at GP
  obtain ⟨b1,hb1⟩:∃ b,b=goB (t.getD 1 0):=⟨_,rfl⟩
  obtain ⟨E1,hE1⟩:∃ b,b=goE (t.getD 1 0):=⟨_,rfl⟩
  obtain ⟨x0,hx0⟩:∃ x,x=t.getD 0 0:=⟨_,rfl⟩
  obtain ⟨x1,hx1⟩:∃ x,x=t.getD 1 0:=⟨_,rfl⟩
  rw [← hb1,← hE1] at GP
  rw [← hb1] at EQ
  rw [← hx0,← hx1] at hnm
  rw [← hx1] at hy GP ⊢
  have e1:IntKind.i64.wrap x1=x1:=by unfold isByte at hy;rw [IntKind.wrap_i64];omega
  have HNM:=Lh hnm
  have HB:=Lh hby
  have HL:=Lh hlen
  clear hiff hde hb1 hE1 hx0 hx1 hnm hby hlen ht hn hy
  go_enter Tryz.func150,Tryz.ntmps150
  go_wp2_with fail
  refine (psizes2_any _).mono ?_
  rintro e w1 ⟨gS,rfl,hAS,hb⟩
  have B:=Lh hb
  have HAS:=Lh hAS
  have RT:=Lh (HA.out.below hb)
  clear hb hAS
  go_wp2_with fail
  refine (read_ok A (some ⟨gS,0,none⟩) 2 c 2 2 t [1,1] _ HAS.out.seq rfl (by decide) RT.out.seq HL.out rfl RT.out.cap RT.out.max HB.out).mono ?_
  intro e w2 hout
  obtain ⟨A2,c2,rfl,hown,hb⟩:=hout.len (zs':=[x0,x1]) (n:=2) HNM.out rfl
  have B:=Lh (B.out.trans (hb.mono B.out.size))
  have RT:=Lh (RT.out.below hb)
  obtain ⟨g,rfl,q0,q1⟩:=two_at hown
  clear hown hb hout
  go_wp2_with fail
  refine (GP.out _).mono ?_
  rintro e w3 ⟨A3,c3,rfl,hown,hb⟩
  have B:=Lh (B.out.trans (hb.mono B.out.size))
  have RT:=Lh (RT.out.below hb)
  have R3:=Lh (Arg.own hown)
  clear hown hb q0 q1
  go_wp2_with fail
  refine (EQ.out _ _ _ _ R3.out RT.out).mono ?_
  rintro e w4 ⟨rfl,rfl⟩
  by_cases hg:isGo t
  ·rw [decide_eq_true hg]
   have HG:=Lh hg
   clear hg
   go_wp2
   go_ret2
   exact ⟨.inl ⟨HG.out,rfl⟩,B.out⟩
  ·rw [decide_eq_false hg]
   have HG:=Lh hg
   clear hg
   go_wp2
   go_ret2
   exact ⟨.inr ⟨HG.out,rfl⟩,B.out⟩
 ·have HN:=Lh (show ¬ isGo t from fun k=>h2 (hlen.symm.trans k.1))
  clear ht hby hlen
  go_enter Tryz.func150,Tryz.ntmps150
  go_wp2_with fail
  refine (psizes2_any _).mono ?_
  rintro e w1 ⟨gS,rfl,hAS,hb⟩
  have B:=Lh hb
  have HAS:=Lh hAS
  clear hb hAS
  go_wp2_with fail
  refine (read_short A (some ⟨gS,0,none⟩) n c 2 2 [1,1] _ _ HAS.out.seq rfl (by decide) h2 hn).mono ?_
  rintro e w2 ⟨rfl,rfl⟩
  go_wp2
  go_ret2
  exact ⟨.inr ⟨HN.out,rfl⟩,B.out⟩
end Go.Proofs.YtifgcfepbenpjaaGreat
