/- Texts of the layers below, joined. -/
import Derived.Test.YtdbeiikaeccbhaaDa32
import Derived.Test.YtdbeiikaeccbhaaDa34
import Derived.Deep.RegionHeld3
set_option maxRecDepth 100000
set_option maxHeartbeats 12800000
set_option linter.unusedVariables false
namespace Go.Proofs.Ytdbeiikaeccbhaa
open Go.RowKit
set_option maxRecDepth 100000
def WrOut (w:World) (o:Txt) (l:List Ac) (e:Ending) (w':World):Prop :=
 ∃ A c A' c',e=.returned (.tuple #[.slice A o.length c,.slice A' l.length c'])∧w'.ownsRow w.heap.size 5 1 (.slice A o.length c) o.length (ints .u8 o)∧OwnActs w' w.heap.size A' l.length c' l∧Below w.heap.size w w'
theorem whP_succ_yes {T A p:Int} {set:Txt} {wh:Nat→Bool} {k:Nat} (h:wh k=true):wrA (whP T A p set wh (k + 1))=wrA (whP T A p set wh k) ++ [(1,atP T A p (k:Int),pgSec p (k:Int) (set.getD k 0))]:=by
 show wrA (if wh k=true then _ else _)=_
 rw [if_pos h]
 unfold wrA
 rw [List.map_append]
 rfl
theorem whP_succ_no {T A p:Int} {set:Txt} {wh:Nat→Bool} {k:Nat} (h:wh k=false):wrA (whP T A p set wh (k + 1))=wrA (whP T A p set wh k):=by
 show wrA (if wh k=true then _ else _)=_
 rw [if_neg (by rw [h];decide)]
theorem wrA_length (L:List Pnd):(wrA L).length=L.length:=by simp [wrA]
theorem outW_set {mk set o:Txt} {wh:Nat→Bool} {m k:Nat} (hk:k < m) (ho:o.length=m) (h:∀ j,j < m→o.getD j 0=if j < k then (outW mk set wh m).getD j 0 else mk.getD j 0) :
  (wh k=true→∀ j,j < m→(o.set k (set.getD k 0)).getD j 0=if j < k + 1 then (outW mk set wh m).getD j 0 else mk.getD j 0)∧(wh k=false→∀ j,j < m→o.getD j 0=if j < k + 1 then (outW mk set wh m).getD j 0 else mk.getD j 0):=by
 constructor
 ·intro hw j hj
  rw [set_getJ _ _ _ _ (by omega)]
  by_cases e:j=k
  ·subst e
   rw [if_pos rfl,if_pos (by omega),outW_at hk,if_pos hw]
  ·rw [if_neg e,h j hj]
   by_cases h2:j < k
   ·rw [if_pos h2,if_pos (by omega)]
   ·rw [if_neg h2,if_neg (by omega)]
 ·intro hw j hj
  rw [h j hj]
  by_cases h2:j < k
  ·rw [if_pos h2,if_pos (by omega)]
  ·by_cases e:j=k
   ·subst e
    rw [if_neg h2,if_pos (by omega),outW_at hk,if_neg (by rw [hw];decide)]
   ·rw [if_neg h2,if_neg (by omega)]
theorem rwritten_any {P T A M W Q p:Int} (hc:mayC P T A M W Q) (hp:0≤p∧p < P) (m:Nat) (hm:m=(pagC T).toNat) (D:Option Addr) (c:Nat) (mk:Txt) (D1:Option Addr) (c1:Nat) (set:Txt) (D2:Option Addr) (c2:Nat) (bs:List Bool) (w:World)
  (h0:Arg w .u8 D m c mk) (h1:Arg w .u8 D1 m c1 set) (h2:Seq w w.heap.size D2 (bools bs)) (h3:bs.length=m) (hy0:∀ z ∈ mk,isByte z) (hy1:∀ z ∈ set,isByte z) :
  Calls Try.prog 57 #[cfgV P T A M W Q,.int .i64 p,.slice D m c,.slice D1 m c1,.slice D2 m c2] w (WrOut w (outW mk set (fun n=>bs.getD n false) m) (actW (whP T A p set (fun n=>bs.getD n false) m))):=by
 obtain ⟨ib,hib,hbz,hb1,hb2⟩:=info_parts byte_info
 have hml:(1000:Nat)≤maxLen:=by decide
 have hgi:=pag_is hc
 have hm2:1≤m∧m≤2:=by omega
 obtain ⟨x,hbel⟩:=box_cfg w P T A M W Q
 obtain ⟨w1,hw1⟩:∃ x:World,x=w.alloc (.cells #[.int .i64 P,.int .i64 T,.int .i64 A,.int .i64 M,.int .i64 W,.int .i64 Q] 28):=⟨_,rfl⟩
 rw [← hw1] at x hbel
 have X:=Lh x
 have B:=Lh hbel
 have R0:=Lh (h0.below hbel)
 have R1:=Lh (h1.below hbel)
 have R2:=Lh ((h2.below hbel).more hbel.size)
 have L0:=Lh h0.len
 have L1:=Lh h1.len
 have L2:=Lh h3
 have HY1:=Lh hy1
 have HPB:=Lh (show isByte p∧∀ k,k < m→isByte (k:Int) from by
  have hc2:=hc
  unfold mayC at hc2
  exact ⟨⟨hp.1,by omega⟩,fun k hk=>⟨by omega,by omega⟩⟩)
 have OF:=Lh (fun (k:Nat) (hk:k < m) (wx:World)=>(show Calls Try.prog 79 #[cfgV P T A M W Q,.int .i64 p,.int .i64 (k:Int)] wx (fun e w'=>e=.returned (.int .i64 (atP T A p (k:Int)))∧Below wx.heap.size wx w') from rofpage_any P T A M W Q p (k:Int) wx hc ⟨hp.1,by omega,by omega,by omega⟩))
 obtain ⟨wh,hwh⟩:∃ wh:Nat→Bool,wh=fun n=>bs.getD n false:=⟨_,rfl⟩
 rw [← hwh]
 have WH:=Lh (fun k:Nat=>(by rw [hwh]:bs.getD k false=wh k))
 have HX:=Lh (show ∀ (k:Nat) (hk:k < m),isByte (set.getD k 0) from fun k _=>byte_at hy1 k)
 have hsz:w.heap.size≤w1.heap.size:=hbel.size
 clear h0 h1 h2 h3 hy0 hy1 x hbel hc hp hm hgi hwh
 go_enter Try.func57,Try.ntmps57
 go_upto_region 1 with fail
 rw [← hw1]
 clear hw1
 go_upto_region 2 with (at_builtin;(refine wpList_dup w1 rfl (.tmp 15) (.tmp 16) _ rfl 5 ib _ 1 Try.underlying22 hib hbz hb1 hb2 rfl rfl D m c (ints .u8 mk) rfl (by rw [ints_length];exact L0.out) R0.out.seq (ints_one _ _) (by omega) (by omega) ?_);intro AM cM w2 hownM hbM;have OM:=Lh hownM;have BM:=Lh hbM;clear hownM hbM)
 have HBM:=Lh BM.out.size
 obtain ⟨gM,rfl,hgM,_,_,_⟩:=owns_int_at OM.out (show 0 < m by omega)
 have HG1:=Lh hgM
 have HG2:=Lh (OM.out.lt gM rfl).2
 have LF:=Lh (outW_length mk set wh m)
 clear hgM
 go_wp2
 go_loopw [13,14] (fun l i wr=>∃ (k:Nat) (A':Option Addr) (c':Nat) (o:Txt),k≤m∧i=.int .i64 k∧l=.slice A' (whP T A p set wh k).length c'∧OwnActs wr w2.heap.size A' (whP T A p set wh k).length c' (wrA (whP T A p set wh k))∧o.length=m∧(∀ j,j < m→o.getD j 0=if j < k then (outW mk set wh m).getD j 0 else mk.getD j 0)∧wr.ownsRow w1.heap.size 5 1 (.slice (some ⟨gM,0,none⟩) m cM) m (ints .u8 o)∧Below w1.heap.size w1 wr∧w2.heap.size≤wr.heap.size) (fun _ i _=>m - (intOf i).toNat)
 case atStart=>exact ⟨0,none,0,mk,Nat.zero_le _,rfl,rfl,OwnActs.nil _ _,L0.out,fun j hj=>by rw [if_neg (Nat.not_lt_zero _)],OM.out,BM.out,Nat.le_refl _⟩
 case round =>
  obtain ⟨k,A',c',o,hk,rfl,rfl,hac,hol,hoj,hown,hbw,hsw⟩:=hrel
  have AC:=Lh hac
  have OL:=Lh hol
  have OJ:=Lh hoj
  have OW:=Lh hown
  have BW:=Lh hbw
  have SW:=Lh hsw
  clear hac hol hoj hown hbw hsw
  by_cases hkm:k < m
  ·have hki:(k:Int) < (m:Int):=by omega
   have hwr:IntKind.i64.wrap (k:Int)=k:=Lib.wrap_i64_small k (by omega)
   have ST:=Lh (outW_set hkm OL.out OJ.out)
   obtain ⟨g2,o2,rfl,_,z2⟩:=(((R2.out.below (BW.out)).more (Nat.le_refl _)) k _ (bools_getD bs k (by rw [L2.out];exact hkm)))
   rw [WH.out k] at z2
   cases hw:wh k with
   | true =>
    rw [hw] at z2
    have WS:=Lh (whP_succ_yes (T:=T) (A:=A) (p:=p) (set:=set) hw)
    have WL:=Lh (show (whP T A p set wh (k + 1)).length=(whP T A p set wh k).length + 1 by rw [← wrA_length,WS.out,List.length_append,wrA_length];rfl)
    have OJ2:=Lh (ST.out.1 hw)
    have HWL:=Lh (show (whP T A p set wh k).length≤k from whP_len k)
    obtain ⟨nk,hnk⟩:∃ n,n=(whP T A p set wh k).length:=⟨_,rfl⟩
    rw [← hnk] at AC WL HWL ⊢
    obtain ⟨lk,hlk⟩:∃ n,n=wrA (whP T A p set wh k):=⟨_,rfl⟩
    rw [← hlk] at AC WS
    obtain ⟨g1,o1,rfl,hl1,z1⟩:=(R1.out.below BW.out).seq.int (j:=k) (by rw [L1.out];exact hkm)
    obtain ⟨y,hy⟩:∃ y,y=set.getD k 0:=⟨_,rfl⟩
    have hyb:=HX.out k hkm
    rw [← hy] at z1 OJ2 WS hyb
    obtain ⟨x,hx⟩:∃ x,x=atP T A p (k:Int):=⟨_,rfl⟩
    have OK:=OF.out k hkm
    rw [← hx] at OK WS
    have OK:=Lh OK
    have SE:=Lh (fun wx:World=>rsector_any p (k:Int) y wx HPB.out.1 (HPB.out.2 k hkm))
    obtain ⟨V,hV⟩:∃ V:Txt,V=pgSec p (k:Int) y:=⟨_,rfl⟩
    have HVB:=Lh (show ∀ z ∈ V,isByte z by
     rw [hV]
     intro z hz
     unfold pgSec at hz
     rcases List.mem_append.1 hz with hz | hz
     ·simp only [List.mem_cons,List.not_mem_nil,or_false] at hz
      rcases hz with rfl | rfl | rfl | rfl
      ·exact ⟨by decide,by decide⟩
      ·exact HPB.out.1
      ·exact HPB.out.2 k hkm
      ·exact hyb
     ·rw [List.eq_of_mem_replicate hz]
      exact ⟨by decide,by decide⟩)
    have HV:=Lh (show V.length=32 by rw [hV];exact pgSec_len _ _)
    rw [← hV] at SE WS
    obtain ⟨gm,hgm,_,zM,fM,hset⟩:=owns_int_at OW.out hkm
    injection hgm with hgm
    injection hgm with hgm
    subst hgm
    have OW3:=Lh (hset y)
    have AC3:=Lh (AC.out.away HG2.out k (.int .u8 y))
    have BW3:=Lh (BW.out.setCell (p:=⟨gM,k,none⟩) HG1.out (.int .u8 y))
    have HY:=Lh hy
    clear hset hy hx hV hyb hnk hlk
    go_upto_region 8 with fail
    clear z1 z2 zM fM
    obtain ⟨v3,hv3⟩:∃ z:World,z=wr.setCell ⟨gM,k,none⟩ (.int .u8 y):=⟨_,rfl⟩
    have SW3:=Lh (show w2.heap.size≤v3.heap.size by rw [hv3];simpa [World.setCell] using SW.out)
    rw [← hv3] at OW3 AC3 BW3 ⊢
    clear hv3
    obtain ⟨L,a1,a2,a3,a4⟩:=AC3.out
    have XX:=Lh (X.out.below BW3.out X.out.lt)
    obtain ⟨g3,o3,he3,hl3,z3⟩:=R1.out.seq.int (j:=k) (by rw [L1.out];exact hkm)
    injection he3 with he3
    injection he3 with he3 he4
    subst he3
    subst he4
    have keepX:∀ wx,Below w1.heap.size w1 wx→wx.cell? ⟨w.heap.size,0,none⟩=some (.int .i64 P)∧wx.cell? ⟨w.heap.size,1,none⟩=some (.int .i64 T)∧wx.cell? ⟨w.heap.size,2,none⟩=some (.int .i64 A)∧wx.cell? ⟨w.heap.size,3,none⟩=some (.int .i64 M)∧wx.cell? ⟨w.heap.size,4,none⟩=some (.int .i64 W)∧wx.cell? ⟨w.heap.size,5,none⟩=some (.int .i64 Q)∧wx.cell? ⟨g1,o1 + k,none⟩=some (.int .u8 y):=fun wx hx=>by
     obtain ⟨c0,c1,c2,c3,c4,c5⟩:=(X.out.below hx X.out.lt).cfg
     exact ⟨c0,c1,c2,c3,c4,c5,(hx.cell (p:=⟨g1,o1 + k,none⟩) hl3).trans (z3.trans (by rw [HY.out]))⟩
    have hcur:Below v3.heap.size v3 v3.drew:=below_drewN (Below.refl _ _) 1
    have hcw:=BW3.out.trans (hcur.mono BW3.out.size)
    have hkX:=keepX _ hcw
    have A1:=Lh a1
    clear z3 a1
    go_region_held3 (fun w'=>w'.cell? ⟨w.heap.size,0,none⟩=some (.int .i64 P)∧w'.cell? ⟨w.heap.size,1,none⟩=some (.int .i64 T)∧w'.cell? ⟨w.heap.size,2,none⟩=some (.int .i64 A)∧w'.cell? ⟨w.heap.size,3,none⟩=some (.int .i64 M)∧w'.cell? ⟨w.heap.size,4,none⟩=some (.int .i64 W)∧w'.cell? ⟨w.heap.size,5,none⟩=some (.int .i64 Q)∧w'.cell? ⟨g1,o1 + k,none⟩=some (.int .u8 y))
     (first | exact hkX | exact keepX _ (hcw.alloc hcw.size _) | go_keep)
     (first
      | (go_at_call 79;(with_reducible refine (OK.out _).mono ?_);rintro e w4 ⟨rfl,hb4⟩;have hcur:=hcur.trans (hb4.mono hcur.size);have hcw:=hcw.trans (hb4.mono hcw.size);have hkX:=keepX _ hcw)
      | (go_at_call 80;(with_reducible refine (SE.out _).mono ?_);intro e w5 hout;obtain ⟨A5,r5,rfl,hown5,hb5⟩:=hout.len rfl HV.out;have hs5:=hcur.size;have hcur:=hcur.trans (hb5.mono hcur.size);have hcw:=hcw.trans (hb5.mono hcw.size);have hkX:=keepX _ hcw)
      | (refine step_acs_g _ (by rfl) (.tmp 35) (.tmp 48) (by rfl) w2.heap.size A' nk c' L (by rfl) (A1.out.below hcur) (1,x,A5,32,r5) (by rfl) (by have:=HWL.out;omega) (Nat.le_trans SW3.out hcur.size) ?_;intro A6 c6 w6 hown6 hb6 hg6;have hcw6:=hcw.trans (hb6.mono HBM.out);have hkX:=keepX _ hcw6))
    have hA5:=A1.out.below hcur
    have hO6:=(owns_below OW3.out hcur).kept hg6 (owns_other2 (by decide) (owns_below OW3.out hcur) hA5.1)
    have hAC6:=OwnActs.snoc hA5 a2 a3 (fun i hi=>⟨(a4 i hi).1,(a4 i hi).2.1,(a4 i hi).2.2.below hcur⟩) ((OwnTxt.of hown5).lower (Nat.le_trans SW3.out hs5)) HVB.out hown6 hg6
    rw [← WS.out,← WL.out] at hAC6
    have O6:=Lh hO6
    have AC6:=Lh hAC6
    have B6:=Lh hcw6
    have SZ6:=Lh (Nat.le_trans SW3.out (Nat.le_trans hcur.size hg6.size))
    clear hA5 hO6 hAC6 hcw6 hcw hcur hown5 hb5 hs5 hown6 hb6 hg6 hkX keepX a2 a3 a4
    go_wp2
    go_roundw
    case rel=>exact ⟨k + 1,A6,c6,o.set k y,by omega,by go_num,by rw [WL.out],AC6.out,by rw [List.length_set];exact OL.out,OJ2.out,O6.out,B6.out,SZ6.out⟩
    all_goals (try case measure=>simp [intOf];omega)
   | false =>
    rw [hw] at z2
    have WN:=Lh (show whP T A p set wh (k + 1)=whP T A p set wh k from if_neg (by rw [hw];decide))
    have OJ2:=Lh (ST.out.2 hw)
    go_wp2
    go_roundw
    case rel=>exact ⟨k + 1,A',c',o,by omega,by go_num,by rw [WN.out],by rw [WN.out];exact AC.out,OL.out,OJ2.out,OW.out,BW.out,SW.out⟩
    all_goals (try case measure=>simp [intOf];omega)
  ·obtain rfl:k=m:=by omega
   have ho:o=outW mk set wh k:=lists_yes 0 (by rw [OL.out,LF.out]) (fun j hj=>by
    have hj2:j < k:=by rw [← OL.out];exact hj
    rw [OJ.out j hj2,if_pos hj2])
   obtain ⟨LW,hLW⟩:∃ L,L=whP T A p set wh k:=⟨_,rfl⟩
   rw [← hLW] at AC ⊢
   have FO:=Lh (show wr.ownsRow w.heap.size 5 1 (.slice (some ⟨gM,0,none⟩) k cM) k (ints .u8 (outW mk set wh k)) by rw [← ho];exact owns_base OW.out hsz)
   have FA:=Lh (AC.out.lower (Nat.le_trans hsz HBM.out))
   have FB:=Lh (B.out.trans (BW.out.mono hsz))
   have HLW:=Lh (show LW.length≤k by rw [hLW];exact whP_len k)
   have HE:=Lh hLW
   clear ho hLW
   by_cases hz:LW=[]
   ·subst hz
    have FIN:=Lh (show WrOut w (outW mk set wh k) (actW (whP T A p set wh k)) (.returned (.tuple #[.slice (some ⟨gM,0,none⟩) k cM,.slice A' 0 c'])) wr from by
     rw [← HE.out,show actW []=[] from rfl]
     unfold WrOut
     rw [LF.out]
     exact ⟨some ⟨gM,0,none⟩,cM,A',c',rfl,FO.out,FA.out,FB.out⟩)
    go_wp2
    go_ret2
    exact FIN.out
   ·have HA:=Lh (show actW LW=wrA LW ++ [(2,0,[])] from if_neg hz)
    have hl0:0 < LW.length:=by
     rcases Nat.eq_zero_or_pos LW.length with h | h
     ·exact absurd (List.eq_nil_of_length_eq_zero h) hz
     ·exact h
    obtain ⟨nk,hnk⟩:∃ n,n=LW.length:=⟨_,rfl⟩
    rw [← hnk] at AC FA HLW hl0 ⊢
    have hl1:(0:Int) < (nk:Int):=by omega
    obtain ⟨L,a1,a2,a3,a4⟩:=FA.out
    have A1:=Lh a1
    have HLA:=Lh (show (wrA LW ++ [(2,0,[])]:List Ac).length=nk + 1 by rw [List.length_append,wrA_length,hnk];rfl)
    have hwz:=FB.out.size
    clear hz a1 hnk
    go_wp2_with (at_builtin;(refine wpList_acs_g wr rfl (.tmp 53) (.tmp 55) rfl w.heap.size A' nk c' L rfl A1.out (2,0,none,0,0) rfl (by have:=HLW.out;omega) hwz ?_);intro A6 c6 w6 hown6 hb6 hg6)
    have hO6:=FO.out.kept hg6 (owns_other2 (by decide) FO.out A1.out.1)
    have hAC6:=OwnActs.snoc A1.out a2 a3 a4 (OwnTxt.nil wr w.heap.size) (fun z hz=>absurd hz List.not_mem_nil) hown6 hg6
    have hB6:=FB.out.trans hb6
    have FIN:=Lh (show WrOut w (outW mk set wh k) (actW (whP T A p set wh k)) (.returned (.tuple #[.slice (some ⟨gM,0,none⟩) k cM,.slice A6 (nk + 1) c6])) w6 from by
     rw [← HE.out,HA.out]
     unfold WrOut
     rw [LF.out,HLA.out]
     exact ⟨some ⟨gM,0,none⟩,cM,A6,c6,rfl,hO6,hAC6,hB6⟩)
    go_ret2
    exact FIN.out
set_option maxRecDepth 100000
theorem box_wr (w:World) (P T A M W Q p:Int) (D:Option Addr) (m c:Nat) (F:FuncId) (caps:Array Value) :
  Blk (((w.alloc (.cells #[.int .i64 P,.int .i64 T,.int .i64 A,.int .i64 M,.int .i64 W,.int .i64 Q,.int .i64 p,.slice D m c] 72)).alloc (.cells #[.func (.func F) #[] caps] 74)).alloc (.cells #[.slice none 0 0] 23)) w.heap.size 72 (volL P T A M W Q p D m c) ∧
  Blk (((w.alloc (.cells #[.int .i64 P,.int .i64 T,.int .i64 A,.int .i64 M,.int .i64 W,.int .i64 Q,.int .i64 p,.slice D m c] 72)).alloc (.cells #[.func (.func F) #[] caps] 74)).alloc (.cells #[.slice none 0 0] 23)) (w.heap.size + 1) 74 [.func (.func F) #[] caps] ∧
  Blk (((w.alloc (.cells #[.int .i64 P,.int .i64 T,.int .i64 A,.int .i64 M,.int .i64 W,.int .i64 Q,.int .i64 p,.slice D m c] 72)).alloc (.cells #[.func (.func F) #[] caps] 74)).alloc (.cells #[.slice none 0 0] 23)) (w.heap.size + 2) 23 [.slice none 0 0] ∧
  Below w.heap.size w (((w.alloc (.cells #[.int .i64 P,.int .i64 T,.int .i64 A,.int .i64 M,.int .i64 W,.int .i64 Q,.int .i64 p,.slice D m c] 72)).alloc (.cells #[.func (.func F) #[] caps] 74)).alloc (.cells #[.slice none 0 0] 23))∧(((w.alloc (.cells #[.int .i64 P,.int .i64 T,.int .i64 A,.int .i64 M,.int .i64 W,.int .i64 Q,.int .i64 p,.slice D m c] 72)).alloc (.cells #[.func (.func F) #[] caps] 74)).alloc (.cells #[.slice none 0 0] 23)).heap.size=w.heap.size + 3:=by
 have a1:=Blk.new w 72 (volL P T A M W Q p D m c)
 have a2:=Blk.new (w.alloc (.cells #[.int .i64 P,.int .i64 T,.int .i64 A,.int .i64 M,.int .i64 W,.int .i64 Q,.int .i64 p,.slice D m c] 72)) 74 [.func (.func F) #[] caps]
 have a3:=Blk.new ((w.alloc (.cells #[.int .i64 P,.int .i64 T,.int .i64 A,.int .i64 M,.int .i64 W,.int .i64 Q,.int .i64 p,.slice D m c] 72)).alloc (.cells #[.func (.func F) #[] caps] 74)) 23 [.slice none 0 0]
 simp only [World.size_alloc] at a2 a3
 exact ⟨(a1.grown (World.grownBy_alloc _ _ none) (by simp)).grown (World.grownBy_alloc _ _ none) (by simp),a2.grown (World.grownBy_alloc _ _ none) (by simp),a3,
  (((Below.refl _ _).alloc (Nat.le_refl _) _).alloc (by simp) _).alloc (by simp;omega) _,by simp⟩
theorem whP_step {T A p:Int} {mk set:Txt} {wh:Nat→Bool} {k:Nat} (h:wh k=true→set.getD k 0≠mk.getD k 0) :
  (if (if wh k=true then set.getD k 0 else mk.getD k 0)=mk.getD k 0 then wrA (whP T A p set wh k) else wrA (whP T A p set wh k) ++ [(1,atP T A p (k:Int),pgSec p (k:Int) (if wh k=true then set.getD k 0 else mk.getD k 0))])=wrA (whP T A p set wh (k + 1)):=by
 cases hw:wh k with
 | true=>rw [if_pos rfl,if_neg (h hw),whP_succ_yes hw]
 | false=>rw [if_neg Bool.false_ne_true,if_pos rfl,whP_succ_no hw]
theorem pwritten_of (P T A M W Q p:Int) (m:Nat) (hm:m≤2) (D:Option Addr) (c:Nat) (mk:Txt) (set:Txt) (wh:Nat→Bool) (F:FuncId) (caps:Array Value) (w:World) (h0:Arg w .u8 D m c mk)
  (hOF:∀ k,k < m→∀ G V TO wx,CollB wx G (G + 2) (wrA (whP T A p set wh k))→G + 2≤wx.heap.size→Blk wx V 72 (volL P T A M W Q p D m c)→Blk wx TO 74 [.func (.func F) #[] caps]→Below w.heap.size w wx →
   Calls Try.prog 51 #[.int .i64 (k:Int),.int .u8 (mk.getD k 0),.pointer (some ⟨G,0,none⟩),.pointer (some ⟨V,0,none⟩),.pointer (some ⟨TO,0,none⟩)] wx (fun e w'=>e=.returned (.int .u8 (if wh k=true then set.getD k 0 else mk.getD k 0))∧CollOut wx G (G + 2) (wrA (whP T A p set wh (k + 1))) w')) :
  Calls Try.prog 24 #[volV P T A M W Q p D m c,.func (.func F) #[] caps] w (WrOut w (outW mk set wh m) (actW (whP T A p set wh m))):=by
 obtain ⟨x0,x1,x2,hbel,hsz⟩:=box_wr w P T A M W Q p D m c F caps
 obtain ⟨w1,hw1⟩:∃ x:World,x=(((w.alloc (.cells #[.int .i64 P,.int .i64 T,.int .i64 A,.int .i64 M,.int .i64 W,.int .i64 Q,.int .i64 p,.slice D m c] 72)).alloc (.cells #[.func (.func F) #[] caps] 74)).alloc (.cells #[.slice none 0 0] 23)):=⟨_,rfl⟩
 rw [← hw1] at x0 x1 x2 hbel hsz
 have PB:=Lh (pbypage_any (w.heap.size + 2) w.heap.size (w.heap.size + 1) m D c mk (fun k=>wrA (whP T A p set wh k)) (fun k=>if wh k=true then set.getD k 0 else mk.getD k 0) w w1 hsz (by omega) h0 hbel (Nat.le_add_right _ _) ⟨by omega,none,0,0,x2,OwnActs.nil _ _⟩
  (fun k hk wx hb hc hs=>hOF k hk (w.heap.size + 2) w.heap.size (w.heap.size + 1) wx hc hs (x0.below hb (by omega)) (x1.below hb (by omega)) (hbel.trans (hb.mono (Nat.le_add_right _ _)))))
 rw [show (List.range m).map (fun k=>if wh k=true then set.getD k 0 else mk.getD k 0)=outW mk set wh m from rfl] at PB
 have LO:=Lh (outW_length mk set wh m)
 have LW:=Lh (whP_len (T:=T) (A:=A) (p:=p) (set:=set) (wh:=wh) m)
 obtain ⟨o,ho⟩:∃ y,y=outW mk set wh m:=⟨_,rfl⟩
 obtain ⟨lp,hlp⟩:∃ y,y=whP T A p set wh m:=⟨_,rfl⟩
 rw [← ho] at PB LO ⊢
 rw [← hlp] at PB LW ⊢
 have c7:w1.cell? ⟨w.heap.size,7,none⟩=some (.slice D m c):=x0.cell 7
 have BB:=Lh hbel
 have HM:=Lh hm
 clear h0 hOF x0 x1 x2 hbel hsz ho hlp hm
 obtain ⟨K,hK⟩:∃ K:Ending→World→Prop,K=WrOut w o (actW lp):=⟨_,rfl⟩
 have HK:=Lh (show ∀ e w',WrOut w o (actW lp) e w'→K e w' from by rw [hK];exact fun _ _ h=>h)
 rw [← hK]
 clear hK
 go_enter Try.func24,Try.ntmps24
 go_upto_region 2 with fail
 rw [← hw1]
 clear hw1
 go_wp2_with fail
 refine PB.out.mono ?_
 rintro e w2 ⟨rfl,hown,⟨hGB,A',n',c',hbx,hac⟩,hb,hsz⟩
 have O2:=Lh hown
 have X2:=Lh hbx
 have AC:=Lh hac
 have B2:=Lh (BB.out.trans (hb.mono (Nat.le_add_right _ _)))
 have SZ:=Lh hsz
 have hln:=hac.len
 rw [wrA_length] at hln
 have HN:=Lh hln
 have z2:=hbx.cell 0
 simp only [gcZ] at z2
 clear hown hbx hac hb hsz hGB PB c7 BB
 by_cases h00:n'=0
 ·subst h00
  have FA:=Lh (show actW lp=[] by rw [List.eq_nil_of_length_eq_zero HN.out];rfl)
  have AC2:=Lh (show OwnActs w2 (w.heap.size + 2 + 2) A' 0 c' (actW lp) by
   have h:=AC.out
   rw [List.eq_nil_of_length_eq_zero HN.out] at h
   rw [FA.out]
   exact h)
  clear hln
  go_upto_region 5 with fail
  go_region
  go_wp2
  refine HK.out _ _ ⟨some ⟨w.heap.size + 2 + 1,0,none⟩,m,A',c',?_,?_,?_,?_⟩
  ·rw [LO.out,FA.out];rfl
  ·rw [LO.out];exact owns_below (owns_base O2.out (by omega)) (below_drewN (Below.refl _ _) 1)
  ·rw [show (actW lp).length=0 by rw [FA.out];rfl];exact (AC2.out.lower (by omega)).below (below_drewN (Below.refl _ _) 1)
  ·exact below_drewN B2.out 1
 ·have hgt:(0:Int) < (n':Int):=by omega
  have FA:=Lh (show actW lp=wrA lp ++ [(2,0,[])] by
   unfold actW
   rw [if_neg (fun e=>h00 (by rw [← hln,e];rfl))]
   rfl)
  obtain ⟨L,h1,h3,h4,h5⟩:=AC.out
  have HL:=Lh h1
  have H3:=Lh h3
  have H4:=Lh h4
  have H5:=Lh h5
  have HNB:=Lh (show n' + 1≤100000 by have:=LW.out;have:=HM.out;omega)
  clear h1 h3 h4 h5 hln
  go_wp2_with (at_builtin;refine wpList_acs_g w2 rfl (.tmp 15) (.tmp 17) rfl (w.heap.size + 2 + 2) A' n' c' L rfl HL.out (2,0,none,0,0) rfl HNB.out SZ.out ?_;intro A6 c6 w6 hown6 hb6 hg6;have X6:=Lh (X2.out.below hb6 (by omega));have z6:=X6.out.cell 0;have f6:=X6.out.free 0;simp only [gcZ] at z6)
  have h2:=hown6
  have ho:=OwnActs.snoc HL.out H3.out H4.out H5.out (OwnTxt.nil _ _) (by simp) h2 hg6
  have X7:=X6.out.set 0 (.slice A6 (n' + 1) c6)
  have z7:=X7.cell 0
  simp only [scZ,gcZ] at z7
  have AC7:=Lh (ho.away (show w.heap.size + 2 < w.heap.size + 2 + 2 by omega) 0 (.slice A6 (n' + 1) c6))
  have O7:=Lh (owns_other_box (O2.out.kept hg6 (owns_other2 (by decide) O2.out HL.out.1)) X6.out (by decide) 0 (.slice A6 (n' + 1) c6))
  have B7:=Lh ((B2.out.trans (hb6.mono (by omega))).setCell (p:=⟨w.heap.size + 2,0,none⟩) (by show w.heap.size≤w.heap.size + 2;omega) (.slice A6 (n' + 1) c6))
  obtain ⟨w7,hw7⟩:∃ x:World,x=w6.setCell ⟨w.heap.size + 2,0,none⟩ (.slice A6 (n' + 1) c6):=⟨_,rfl⟩
  rw [← hw7] at z7 AC7 O7 B7
  go_region
  go_wp2
  refine HK.out _ _ ⟨some ⟨w.heap.size + 2 + 1,0,none⟩,m,A6,c6,?_,?_,?_,?_⟩
  ·rw [LO.out,show (actW lp).length=n' + 1 by rw [FA.out,List.length_append,H3.out];rfl];rfl
  ·show World.ownsRow (World.drew (w6.setCell ⟨w.heap.size + 2,0,none⟩ (.slice A6 (n' + 1) c6))) _ _ _ _ _ _
   rw [← hw7,LO.out]
   exact owns_below (owns_base O7.out (by omega)) (below_drewN (Below.refl _ _) 1)
  ·show OwnActs (World.drew (w6.setCell ⟨w.heap.size + 2,0,none⟩ (.slice A6 (n' + 1) c6))) _ _ _ _ _
   rw [← hw7,show (actW lp).length=n' + 1 by rw [FA.out,List.length_append,H3.out];rfl,FA.out]
   exact (AC7.out.lower (by omega)).below (below_drewN (Below.refl _ _) 1)
  ·show Below _ _ (World.drew (w6.setCell ⟨w.heap.size + 2,0,none⟩ (.slice A6 (n' + 1) c6)))
   rw [← hw7]
   exact below_drewN B7.out 1
end Go.Proofs.Ytdbeiikaeccbhaa
